/- The program's strictValue, RomanStrict, RomanAdd. -/
import Derived.Test.YtdpndgmneoaieaaDoorLL
namespace Go.Proofs.YtdpndgmneoaieaaDoor
open Go.RowKit
set_option linter.unusedVariables false
/-- strictValue's answer -/
def strictV (l : List UInt8) : Value := if strictB l = true then .tuple #[.int .i64 (looseL l), .bool true] else .tuple #[.int .i64 0, .bool false]
theorem strictB_val (l : List UInt8) (h : strictB l = true) : 1 ≤ looseL l ∧ looseL l ≤ 3999 ∧ 1 ≤ l.length ∧ l.length ≤ 16 ∧ okL l = true ∧ strict (looseL l).toNat = l := by
  unfold strictB at h
  have h := of_decide_eq_true h
  exact ⟨h.2.2.2.1, h.2.2.2.2.1, h.1, h.2.1, h.2.2.1, h.2.2.2.2.2⟩
/-- RomanAdd's answer -/
def addR (s t : List UInt8) : Value := if strictB s = true ∧ strictB t = true then romanOfR (looseL s + looseL t) else .tuple #[.string ⟨#[]⟩, .bool false]
end Go.Proofs.YtdpndgmneoaieaaDoor
