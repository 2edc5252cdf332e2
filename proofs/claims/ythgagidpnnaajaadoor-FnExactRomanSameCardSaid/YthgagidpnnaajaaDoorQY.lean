/- How many texts of k letters have a value, plain: told by the first letter, and counted by codes. -/
import Derived.Test.YthgagidpnnaajaaDoorQ
namespace Go.Proofs.YthgagidpnnaajaaDoor
set_option linter.unusedVariables false
set_option maxRecDepth 100000
def sum7 (f : Nat → Nat) : Nat := f 0 + f 1 + f 2 + f 3 + f 4 + f 5 + f 6
theorem sum7_congr {f g : Nat → Nat} (h : ∀ c, c < 7 → f c = g c) : sum7 f = sum7 g := by
  unfold sum7
  rw [h 0 (by omega), h 1 (by omega), h 2 (by omega), h 3 (by omega), h 4 (by omega), h 5 (by omega), h 6 (by omega)]
theorem sum7_le {f : Nat → Nat} {m : Nat} (h : ∀ c, c < 7 → f c ≤ m) : sum7 f ≤ 7 * m := by
  have h0 := h 0 (by omega); have h1 := h 1 (by omega); have h2 := h 2 (by omega); have h3 := h 3 (by omega); have h4 := h 4 (by omega); have h5 := h 5 (by omega); have h6 := h 6 (by omega)
  unfold sum7; omega
theorem sum7_pos {f : Nat → Nat} : 0 < sum7 f ↔ ∃ c, c < 7 ∧ 0 < f c := by
  unfold sum7
  constructor
  · intro h
    rcases (show 0 < f 0 ∨ 0 < f 1 ∨ 0 < f 2 ∨ 0 < f 3 ∨ 0 < f 4 ∨ 0 < f 5 ∨ 0 < f 6 by omega) with h | h | h | h | h | h | h
    · exact ⟨0, by omega, h⟩
    · exact ⟨1, by omega, h⟩
    · exact ⟨2, by omega, h⟩
    · exact ⟨3, by omega, h⟩
    · exact ⟨4, by omega, h⟩
    · exact ⟨5, by omega, h⟩
    · exact ⟨6, by omega, h⟩
  · rintro ⟨c, hc, h⟩
    rcases (show c = 0 ∨ c = 1 ∨ c = 2 ∨ c = 3 ∨ c = 4 ∨ c = 5 ∨ c = 6 by omega) with rfl | rfl | rfl | rfl | rfl | rfl | rfl <;> omega
/-- how many texts of k letters begin with letter c and have the value v -/
def cnt : Nat → Nat → Int → Nat
  | 0, c, v => if c = 2 ∧ v = 0 then 1 else 0
  | k + 1, c, v => sum7 fun f => cnt k f (wo c f v)
theorem cnt_le : ∀ (k c : Nat) (v : Int), cnt k c v ≤ 7 ^ k
  | 0, c, v => by unfold cnt; split <;> omega
  | k + 1, c, v => by
    have := sum7_le (f := fun f => cnt k f (wo c f v)) fun f _ => cnt_le k f (wo c f v)
    rw [Nat.pow_succ, Nat.mul_comm]
    exact this
theorem cnt_ex : ∀ (k c : Nat) (v : Int), 0 < cnt k c v ↔ ex k c v = true
  | 0, c, v => by
    unfold cnt
    rw [ex_zero]
    split
    · rename_i h; simp [h]
    · rename_i h; simp; exact fun a b => h ⟨a, b⟩
  | k + 1, c, v => by
    rw [ex_succ]
    show 0 < sum7 _ ↔ _
    rw [sum7_pos]
    constructor
    · rintro ⟨f, hf, h⟩; exact ⟨f, hf, (cnt_ex k f _).1 h⟩
    · rintro ⟨f, hf, h⟩; exact ⟨f, hf, (cnt_ex k f _).2 h⟩
/-- all texts of k letters with the value n -/
def same (k : Nat) (n : Int) : Nat := sum7 fun c => cnt k c n
theorem same_pos (k : Nat) (n : Int) : 0 < same k n ↔ hasK n k = true := by
  unfold same
  rw [sum7_pos, hasK_iff]
  constructor
  · rintro ⟨f, hf, h⟩; exact ⟨f, hf, (cnt_ex k f _).1 h⟩
  · rintro ⟨f, hf, h⟩; exact ⟨f, hf, (cnt_ex k f _).2 h⟩
/-! by codes -/
/-- the letters of a code, the lowest digit first -/
def codeT : Nat → Nat → List Nat
  | 0, _ => []
  | k + 1, c => c % 7 :: codeT k (c / 7)
theorem codeT_lt : ∀ (k c : Nat), ∀ l ∈ codeT k c, l < 7
  | 0, _, l, h => by simp [codeT] at h
  | k + 1, c, l, h => by
    simp only [codeT, List.mem_cons] at h
    rcases h with rfl | h
    · exact Nat.mod_lt _ (by omega)
    · exact codeT_lt k _ l h
theorem codeT_len : ∀ (k c : Nat), (codeT k c).length = k
  | 0, _ => rfl
  | k + 1, c => by simp [codeT, codeT_len k]
theorem codeT_step (k c f : Nat) (hf : f < 7) : codeT (k + 1) (7 * c + f) = f :: codeT k c := by
  show (7 * c + f) % 7 :: codeT k ((7 * c + f) / 7) = _
  rw [show (7 * c + f) % 7 = f by omega, show (7 * c + f) / 7 = c by omega]
/-- the value of a text told by letters' numbers -/
def valT : List Nat → Int
  | [] => 0
  | c :: r => bef c (r.headD 2) (valT r)
theorem looseL_lb : ∀ t : List Nat, (∀ l ∈ t, l < 7) → looseL (t.map lb) = valT t ∧ fst1 (t.map lb) = t.headD 2
  | [], _ => ⟨rfl, rfl⟩
  | c :: r, h => by
    obtain ⟨i1, i2⟩ := looseL_lb r fun l hl => h l (List.mem_cons_of_mem _ hl)
    have hc := li_lb c (h c (List.mem_cons_self ..))
    refine ⟨?_, hc⟩
    simp only [List.map_cons, looseL, valT]
    rw [hc, i1, i2]
/-- how many numbers less than n have P -/
def qnumB (P : Nat → Bool) : Nat → Nat
  | 0 => 0
  | n + 1 => qnumB P n + if P n then 1 else 0
theorem numB_congr {P Q : Nat → Bool} : ∀ (n : Nat), (∀ i, i < n → P i = Q i) → qnumB P n = qnumB Q n
  | 0, _ => rfl
  | n + 1, h => by unfold qnumB; rw [numB_congr n fun i hi => h i (by omega), h n (by omega)]
theorem numB_le (P : Nat → Bool) : ∀ n, qnumB P n ≤ n
  | 0 => Nat.le_refl _
  | n + 1 => by have := numB_le P n; unfold qnumB; split <;> omega
theorem numB_seven (P : Nat → Bool) : ∀ m, qnumB P (7 * m) = sum7 fun c => qnumB (fun i => P (7 * i + c)) m
  | 0 => rfl
  | m + 1 => by
    have ih := numB_seven P m
    rw [show 7 * (m + 1) = 7 * m + 1 + 1 + 1 + 1 + 1 + 1 + 1 by omega]
    simp only [qnumB, sum7] at ih ⊢
    rw [ih]
    simp only [Nat.add_zero]
    omega
theorem bef_eq (c f : Nat) (v x : Int) : bef c f x = v ↔ x = wo c f v := by
  constructor
  · rintro rfl; rw [wo_bef]
  · rintro rfl; rw [bef_wo]
theorem codes_first : ∀ (k c : Nat) (v : Int), qnumB (fun i => decide (valT (c :: codeT k i) = v)) (7 ^ k) = cnt (k + 1) c v
  | 0, c, v => by
    show (0 + if decide (bef c 2 0 = v) = true then 1 else 0) = sum7 _
    have e : decide (bef c 2 0 = v) = decide (wo c 2 v = 0) := by
      rw [Bool.eq_iff_iff, decide_eq_true_eq, decide_eq_true_eq, bef_eq]
      exact eq_comm
    rw [e]
    simp [sum7, cnt]
  | k + 1, c, v => by
    rw [Nat.pow_succ, Nat.mul_comm, numB_seven]
    show _ = sum7 fun f => cnt (k + 1) f (wo c f v)
    refine sum7_congr fun f hf => ?_
    rw [← codes_first k f (wo c f v)]
    refine numB_congr _ fun i hi => ?_
    rw [codeT_step k i f hf, Bool.eq_iff_iff, decide_eq_true_eq, decide_eq_true_eq]
    exact bef_eq c f v _
theorem codes_same (k : Nat) (n : Int) : qnumB (fun i => decide (valT (codeT (k + 1) i) = n)) (7 ^ (k + 1)) = same (k + 1) n := by
  rw [Nat.pow_succ, Nat.mul_comm, numB_seven]
  refine sum7_congr fun f hf => ?_
  rw [← codes_first k f n]
  refine numB_congr _ fun i hi => ?_
  rw [codeT_step k i f hf]
/-- what the second half of the law asks of the shortest text -/
theorem same_short (k n : Nat) (h1 : 1 ≤ n) (h2 : n ≤ 3999) (hk : 1 ≤ k) : (same k n = 0 ∨ (shortT n).length ≤ k) ∧ ((shortT n).length ≠ k ∨ 0 < same k n) := by
  have hs := shortLen_spec n h1 h2
  have ht := (shortT_ok n h1 h2).2.2
  rw [ht]
  constructor
  · by_cases h : same k n = 0
    · exact .inl h
    · right
      have hp := (same_pos k n).1 (by omega)
      rcases Nat.lt_or_ge k (shortLen n) with hlt | hge
      · rw [hs.2.2.2 k hk hlt] at hp; cases hp
      · exact hge
  · by_cases h : shortLen n = k
    · right
      rw [same_pos, ← h]
      exact hs.1
    · exact .inl h
end Go.Proofs.YthgagidpnnaajaaDoor
