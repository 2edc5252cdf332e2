/- The model's l1Walk. -/
import Derived.Test.YtdpndgmneoaieaaDoorQT
import Derived.Test.YtdpndgmneoaieaaDoorDt
namespace Go.Proofs.YtdpndgmneoaieaaDoor
open Go.RowKit
set_option linter.unusedVariables false
/-- what must stand at the next letter, by the number that is left and the letter ahead -/
def wfn (n bf : Int) (i : Nat) : Int := if 0 < bf ∧ bf < lv i then n + bf else n - bf
theorem wfn_start (n : Int) : wfn n 0 = fun _ => n := by
  funext i
  unfold wfn
  rw [if_neg (by omega)]
  omega
theorem wfn_def (n bf : Int) (i : Nat) : wfn n bf i = if 0 < bf ∧ bf < lv i then n + bf else n - bf := rfl
theorem wfn_step (n bf : Int) (k : Nat) (hk : k < 7) : (fun g => wo k g (wfn n bf k)) = wfn (wfn n bf k) (lv k) := by
  funext g
  have := lv_pos k hk
  rw [wfn_def (wfn n bf k) (lv k) g]
  unfold wo
  by_cases h : lv k < lv g
  · rw [if_pos h, if_pos ⟨by omega, h⟩]
  · rw [if_neg h, if_neg (by omega)]
theorem no_step (P : Nat → Bool) (k : Nat) (h : ∀ j, j < k → P j = false) (hk : P k = false) : ∀ j, j < k + 1 → P j = false := fun j hj => by
  by_cases e : j = k
  · rw [e]; exact hk
  · exact h j (by omega)
theorem first7_is (P : Nat → Bool) (k : Nat) (hk : P k = true) (h7 : k < 7) (hno : ∀ j, j < k → P j = false) : first7 P = k := by
  have h := first7_of P ⟨k, h7, hk⟩
  rcases Nat.lt_trichotomy (first7 P) k with h1 | h1 | h1
  · rw [hno _ h1] at h; cases h.1
  · exact h1
  · rw [h.2 k h1] at hk; cases hk
theorem txt_step (r : Nat) (w : Nat → Int) (k : Nat) (h : first7 (fun f => ex (r + 1) f (w f)) = k) : txt (r + 1) w = k :: txt r (fun g => wo k g (w k)) := by
  subst h; rfl
theorem letters_ex (k : Nat) (h : k < 7) : (⟨#[67, 68, 73, 76, 77, 86, 88]⟩ : ByteArray).extract k (k + 1) = ⟨[lb k].toArray⟩ := by
  rcases (show k = 0 ∨ k = 1 ∨ k = 2 ∨ k = 3 ∨ k = 4 ∨ k = 5 ∨ k = 6 by omega) with rfl | rfl | rfl | rfl | rfl | rfl | rfl <;> rfl
end Go.Proofs.YtdpndgmneoaieaaDoor
