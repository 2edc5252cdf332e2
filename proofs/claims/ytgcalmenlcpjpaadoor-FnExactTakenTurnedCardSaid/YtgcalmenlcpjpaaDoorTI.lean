/- What the program's functions of chapter 5 are handed: numbers of 64 bits. -/
import Derived.Test.YtgcalmenlcpjpaaDoorTE
import Derived.Test.YtgcalmenlcpjpaaDoorBL
namespace Go.Proofs.YtgcalmenlcpjpaaDoor
open Go.RowKit
set_option linter.unusedVariables false
set_option maxRecDepth 100000
def Bnd (f : Nat → Int) (n : Nat) : Prop := ∀ j, j < n → -9223372036854775808 ≤ f j ∧ f j ≤ 9223372036854775807
def IntOk (x : Int) : Prop := -9223372036854775808 ≤ x ∧ x ≤ 9223372036854775807
theorem int_ok {x : Int} (h : (Lit.int .i64 x).wf = true) : IntOk x := by
  simp only [Lit.wf, Bool.and_eq_true, decide_eq_true_eq] at h
  exact h
end Go.Proofs.YtgcalmenlcpjpaaDoor
