/- The model's chapter 2 (package spec): PilePlain, PileSum, PileLess, PileSize, PileSteps. -/
import Derived.Test.YtgcalmenlcpjpaaDoorBU
namespace Go.Proofs.YtgcalmenlcpjpaaDoor
open Go.RowKit
set_option linter.unusedVariables false
set_option maxRecDepth 100000
/-- is a list a plain pile of a system? -/
def plB (f : Nat → Int) (n : Nat) (p : Nat → Int) (m : Nat) : Bool := pilB f n p m && decide (∀ j, j < n - 1 → p j < rat f j)
theorem plB_spec {f : Nat → Int} {n : Nat} {p : Nat → Int} {m : Nat} : plB f n p m = true ↔ pilB f n p m = true ∧ Plain f p n := by
  unfold plB
  rw [Bool.and_eq_true, decide_eq_true_eq]
  constructor
  · rintro ⟨a, b⟩; exact ⟨a, fun j hj => b j (by omega)⟩
  · rintro ⟨a, b⟩; exact ⟨a, fun j hj => b j (by omega)⟩
theorem quo_bd (x y : Int) (hx : 1 ≤ x) (hy : 1 ≤ y) (hy2 : y ≤ 1000000) : y.tdiv x = y / x ∧ 0 ≤ y / x ∧ y / x ≤ 1000000 :=
  ⟨Int.tdiv_eq_ediv_of_nonneg (by omega), Int.ediv_nonneg (by omega) (by omega), Int.le_trans (Int.ediv_le_self _ (by omega)) hy2⟩
end Go.Proofs.YtgcalmenlcpjpaaDoor
