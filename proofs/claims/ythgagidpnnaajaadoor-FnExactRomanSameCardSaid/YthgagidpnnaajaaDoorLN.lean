/- Strict texts lead back, plain. -/
import Derived.Test.YthgagidpnnaajaaDoorLV
namespace Go.Proofs.YthgagidpnnaajaaDoor
set_option linter.unusedVariables false
set_option maxRecDepth 100000
def valN (c : Nat) : Nat := if c = 73 then 1 else if c = 86 then 5 else if c = 88 then 10 else if c = 76 then 50 else if c = 67 then 100 else if c = 68 then 500 else if c = 77 then 1000 else 0
/-- the value of a text told by its bytes' numbers -/
def backN : List Nat → Int
  | [] => 0
  | c :: r => if valN c < valN (r.headD 73) then backN r - valN c else backN r + valN c
def goodN (l : List Nat) : Bool := l.all fun c => decide (0 < valN c ∧ c < 256)
theorem back0 : ∀ a, a < 25 → ∀ b, b < 40 → backN (strictN (40 * a + b)) = ((40 * a + b : Nat) : Int) ∧ goodN (strictN (40 * a + b)) = true := by decide +kernel
theorem valN_lv (c : Nat) (h : c < 256) : lv (li ((UInt8.ofNat c).toNat : Int)) = (valN c : Int) := by
  have e : (UInt8.ofNat c).toNat = c := by simp; omega
  rw [e, ← rv_li]
  unfold rv valN
  have k : ∀ m : Nat, ((c : Int) = (m : Int)) = (c = m) := fun m => by simp [Int.ofNat_inj]
  simp only [show ((73 : Int) = ((73 : Nat) : Int)) from rfl, show ((86 : Int) = ((86 : Nat) : Int)) from rfl, show ((88 : Int) = ((88 : Nat) : Int)) from rfl, show ((76 : Int) = ((76 : Nat) : Int)) from rfl, show ((67 : Int) = ((67 : Nat) : Int)) from rfl, show ((68 : Int) = ((68 : Nat) : Int)) from rfl, show ((77 : Int) = ((77 : Nat) : Int)) from rfl, k]
  repeat (split; rfl)
  rfl
theorem li_of_lv (l : Nat) (h : 0 < lv l) : l < 7 := by
  rcases Nat.lt_or_ge l 7 with h' | h'
  · exact h'
  · have e : lv l = 0 := by
      unfold lv
      rw [List.getD_eq_getElem?_getD, List.getElem?_eq_none (by simpa using h')]
      rfl
    omega
theorem goodN_cons (c : Nat) (r : List Nat) : goodN (c :: r) = true ↔ (0 < valN c ∧ c < 256) ∧ goodN r = true := by
  simp [goodN]
theorem looseL_map : ∀ l : List Nat, goodN l = true → looseL (l.map UInt8.ofNat) = backN l ∧ okL (l.map UInt8.ofNat) = true ∧ lv (fst1 (l.map UInt8.ofNat)) = (valN (l.headD 73) : Int)
  | [], _ => ⟨rfl, rfl, rfl⟩
  | c :: r, h => by
    obtain ⟨⟨h1, h2⟩, h3⟩ := (goodN_cons c r).1 h
    obtain ⟨i1, i2, i3⟩ := looseL_map r h3
    have hv := valN_lv c h2
    refine ⟨?_, ?_, ?_⟩
    · simp only [List.map_cons, looseL, bef, backN, hv, i1, i3]
      simp only [Int.ofNat_lt]
    · simp only [List.map_cons, okL_cons, i2, Bool.and_true, decide_eq_true_eq]
      exact li_of_lv _ (by rw [hv]; omega)
    · simp only [List.map_cons, fst1, hv, List.headD_cons]
theorem strict_split (n : Nat) : strict n = many [77] (n / 1000) ++ (strictN (n % 1000)).map UInt8.ofNat := by
  unfold strictN strict
  simp only [List.map_append, map_dig]
  rw [show n % 1000 / 100 = n / 100 % 10 by omega, show n % 1000 / 10 % 10 = n / 10 % 10 by omega, show n % 1000 % 10 = n % 10 by omega]
  simp
theorem looseL_many (t : List UInt8) (ht : okL t = true) : ∀ a : Nat, looseL (many [77] a ++ t) = 1000 * a + looseL t ∧ okL (many [77] a ++ t) = true
  | 0 => by rw [many_zero]; exact ⟨by simp, ht⟩
  | a + 1 => by
    obtain ⟨i1, i2⟩ := looseL_many t ht a
    rw [many_succ, List.append_assoc]
    have e : lv (li (((77 : UInt8).toNat : Nat) : Int)) = 1000 := rfl
    have hb := (lv_bd (fst1 (many [77] a ++ t))).2
    refine ⟨?_, ?_⟩
    · simp only [List.cons_append, List.nil_append, looseL, bef, e, i1]
      rw [if_neg (by omega)]
      omega
    · simp only [List.cons_append, List.nil_append, okL_cons, i2, Bool.and_true, decide_eq_true_eq]
      decide
theorem strict_back (n : Nat) (h : n < 4000) : looseL (strict n) = n ∧ okL (strict n) = true := by
  have hb := back0 (n % 1000 / 40) (by omega) (n % 1000 % 40) (by omega)
  rw [Nat.div_add_mod] at hb
  obtain ⟨i1, i2, _⟩ := looseL_map _ hb.2
  rw [hb.1] at i1
  have hm := looseL_many _ i2 (n / 1000)
  rw [strict_split]
  exact ⟨by rw [hm.1, i1]; omega, hm.2⟩
theorem strict_pos (n : Nat) (h1 : 1 ≤ n) (h : n < 4000) : 1 ≤ (strict n).length := by
  have hb := (strict_back n h).1
  rcases Nat.lt_or_ge 0 (strict n).length with h' | h'
  · exact h'
  · have e : strict n = [] := List.eq_nil_of_length_eq_zero (by omega)
    rw [e] at hb
    simp [looseL] at hb
    omega
theorem strict_ok (n : Nat) (h1 : 1 ≤ n) (h : n ≤ 3999) : strictB (strict n) = true := by
  have hb := strict_back n (by omega)
  have hp := strict_pos n h1 (by omega)
  have hl := strict_len n h
  unfold strictB
  rw [hb.1]
  exact decide_eq_true ⟨hp, by omega, hb.2, by omega, by omega, by rw [Int.toNat_natCast]⟩
theorem strict_looseR (n : Nat) (h1 : 1 ≤ n) (h : n ≤ 3999) : looseR (strict n) = .tuple #[.int .i64 (n : Nat), .bool true] := by
  have hb := strict_back n (by omega)
  have hp := strict_pos n h1 (by omega)
  have hl := strict_len n h
  unfold looseR
  rw [if_pos ⟨hp, by omega, hb.2⟩, hb.1]
end Go.Proofs.YthgagidpnnaajaaDoor
