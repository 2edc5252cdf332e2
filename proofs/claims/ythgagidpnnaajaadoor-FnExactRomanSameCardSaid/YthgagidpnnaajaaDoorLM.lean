/- Loose texts, plain: the letters by their numbers, values. -/
import Derived.Test.YthgagidpnnaajaaDoorLaid
import Derived.Test.YthgagidpnnaajaaDoorRSp
namespace Go.Proofs.YthgagidpnnaajaaDoor
set_option linter.unusedVariables false
set_option maxRecDepth 100000
/-- the number of a letter, in the order of the bytes; 7 for another byte -/
def li (c : Int) : Nat := if c = 67 then 0 else if c = 68 then 1 else if c = 73 then 2 else if c = 76 then 3 else if c = 77 then 4 else if c = 86 then 5 else if c = 88 then 6 else 7
/-- the byte of a letter -/
def sg (l : Nat) : Int := [67, 68, 73, 76, 77, 86, 88].getD l 0
theorem li_le (c : Int) : li c ≤ 7 := by unfold li; repeat (first | omega | split)
theorem li_sg (l : Nat) (h : l < 7) : li (sg l) = l := by
  rcases (show l = 0 ∨ l = 1 ∨ l = 2 ∨ l = 3 ∨ l = 4 ∨ l = 5 ∨ l = 6 by omega) with rfl | rfl | rfl | rfl | rfl | rfl | rfl <;> rfl
theorem sg_li (c : Int) (h : li c < 7) : sg (li c) = c := by
  by_cases h1 : c = 67
  · subst h1; rfl
  by_cases h2 : c = 68
  · subst h2; rfl
  by_cases h3 : c = 73
  · subst h3; rfl
  by_cases h4 : c = 76
  · subst h4; rfl
  by_cases h5 : c = 77
  · subst h5; rfl
  by_cases h6 : c = 86
  · subst h6; rfl
  by_cases h7 : c = 88
  · subst h7; rfl
  simp [li, h1, h2, h3, h4, h5, h6, h7] at h
theorem li_none (c : Int) (h : ∀ j, j < 7 → sg j ≠ c) : li c = 7 := by
  have := li_le c
  rcases Nat.lt_or_ge (li c) 7 with h7 | h7
  · exact absurd (sg_li c h7) (h _ h7)
  · omega
theorem rv_li (c : Int) : rv c = lv (li c) := by
  unfold rv li
  by_cases h1 : c = 73
  · subst h1; rfl
  by_cases h2 : c = 86
  · subst h2; rfl
  by_cases h3 : c = 88
  · subst h3; rfl
  by_cases h4 : c = 76
  · subst h4; rfl
  by_cases h5 : c = 67
  · subst h5; rfl
  by_cases h6 : c = 68
  · subst h6; rfl
  by_cases h7 : c = 77
  · subst h7; rfl
  simp [h1, h2, h3, h4, h5, h6, h7, lv]
theorem lv_bd (l : Nat) : 0 ≤ lv l ∧ lv l ≤ 1000 := by
  unfold lv
  match l with
  | 0 | 1 | 2 | 3 | 4 | 5 | 6 => simp
  | _ + 7 => simp
theorem lv_pos (l : Nat) (h : l < 7) : 1 ≤ lv l := by
  rcases (show l = 0 ∨ l = 1 ∨ l = 2 ∨ l = 3 ∨ l = 4 ∨ l = 5 ∨ l = 6 by omega) with rfl | rfl | rfl | rfl | rfl | rfl | rfl <;> decide
/-- what a text becomes with letter l in front of one that begins with f and has the value v -/
def bef (l f : Nat) (v : Int) : Int := if lv l < lv f then v - lv l else v + lv l
/-- the first letter's number; I for the empty text -/
def fst1 : List UInt8 → Nat
  | [] => 2
  | c :: _ => li (c.toNat : Int)
/-- the value -/
def looseL : List UInt8 → Int
  | [] => 0
  | c :: r => bef (li (c.toNat : Int)) (fst1 r) (looseL r)
def okL (s : List UInt8) : Bool := s.all fun c => decide (li (c.toNat : Int) < 7)
theorem looseL_bd (s : List UInt8) : -(1000 * s.length : Int) ≤ looseL s ∧ looseL s ≤ 1000 * s.length := by
  induction s with
  | nil => simp [looseL]
  | cons c r ih =>
    have := lv_bd (li (c.toNat : Int))
    simp only [looseL, bef, List.length_cons]
    split <;> omega
theorem okL_cons (c : UInt8) (r : List UInt8) : okL (c :: r) = (decide (li (c.toNat : Int) < 7) && okL r) := rfl
/-- RomanLoose's answer -/
def looseR (s : List UInt8) : Value := if 1 ≤ s.length ∧ s.length ≤ 16 ∧ okL s = true then .tuple #[.int .i64 (looseL s), .bool true] else .tuple #[.int .i64 0, .bool false]
end Go.Proofs.YthgagidpnnaajaaDoor
