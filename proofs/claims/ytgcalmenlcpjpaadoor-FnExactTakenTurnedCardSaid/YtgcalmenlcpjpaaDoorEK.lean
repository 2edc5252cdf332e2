/- What the six functions of chapter 5 are told by: lists, sizes and values of signed piles. -/
import Derived.Test.YtgcalmenlcpjpaaDoorEJ
import Derived.Test.YtgcalmenlcpjpaaDoorTE
namespace Go.Proofs.YtgcalmenlcpjpaaDoor
open Go.RowKit
set_option linter.unusedVariables false
set_option maxRecDepth 100000
theorem nmb_sh (l : List Int) (j : Nat) : nmb (shP l 0) (shT l 0) j = l.getD j 0 := by
  unfold nmb shP shT
  rw [if_pos (Nat.zero_le j), if_pos (Nat.zero_le j), Nat.sub_zero]
  unfold abz
  by_cases h : l.getD j 0 < 0
  · rw [decide_eq_true h, if_pos rfl]; omega
  · rw [decide_eq_false h, if_neg (by decide)]; omega
theorem nmb_sg {p : Nat → Int} {n j : Nat} (hj : j < n) (h : -1000000 ≤ p j ∧ p j ≤ 1000000) : nmb (pad (fun j => gA (p j)) n) (mrk p n) j = p j := by
  unfold nmb mrk
  rw [pad_in _ _ _ hj, gA_eq (by omega) (by omega)]
  unfold abz
  by_cases e : p j < 0
  · rw [decide_eq_true ⟨hj, e⟩, if_pos rfl]; omega
  · rw [decide_eq_false (fun h => e h.2), if_neg (by decide)]; omega
theorem nmb_not {p : Nat → Int} {n j : Nat} (hj : j < n) (h : -1000000 ≤ p j ∧ p j ≤ 1000000) : nmb (pad (fun j => gA (p j)) n) (notB (mrk p n)) j = -p j := by
  unfold nmb notB mrk
  rw [pad_in _ _ _ hj, gA_eq (by omega) (by omega)]
  unfold abz
  by_cases e : p j < 0
  · rw [decide_eq_true ⟨hj, e⟩]; simp; omega
  · rw [decide_eq_false (fun h => e h.2)]; simp; omega
theorem pad_gA {p : Nat → Int} {n : Nat} (h : ∀ j, j < n → -1000000 ≤ p j ∧ p j ≤ 1000000) (j : Nat) : 0 ≤ pad (fun j => gA (p j)) n j ∧ pad (fun j => gA (p j)) n j ≤ 1000000 := by
  unfold pad
  split
  · rename_i hj
    have := h j hj
    show 0 ≤ gA (p j) ∧ gA (p j) ≤ 1000000
    rw [gA_eq (by omega) (by omega)]; unfold abz; omega
  · omega
theorem sum_gA {p : Nat → Int} {n : Nat} (hn : n ≤ 6) (h : ∀ j, j < n → -1000000 ≤ p j ∧ p j ≤ 1000000) : sumF (pad (fun j => gA (p j)) n) 6 = szF p n := by
  rw [pad_sum, show min 6 n = n by omega]
  have : ∀ k, k ≤ n → sumF (fun j => gA (p j)) k = szF p k := fun k => by
    induction k with
    | zero => intro _; rfl
    | succ k ih =>
      intro hk
      have := h k (by omega)
      rw [sumF, ih (by omega), gA_eq (by omega) (by omega)]
      rfl
  exact this n (Nat.le_refl _)
theorem val_congr {f p q : Nat → Int} {n : Nat} (h : ∀ j, j < n → p j = q j) : val f p n = val f q n := by
  unfold val
  have : ∀ k, k ≤ n → sumF (fun j => f j * p j) k = sumF (fun j => f j * q j) k := fun k => by
    induction k with
    | zero => intro _; rfl
    | succ k ih => intro hk; rw [sumF, sumF, ih (by omega), h k (by omega)]
  exact this n (Nat.le_refl _)
end Go.Proofs.YtgcalmenlcpjpaaDoor
