/- The program's RomanOf, RomanPiled, RomanLongest. -/
import Derived.Test.YtdokdlcmplggfaaDoorRIj
namespace Go.Proofs.YtdokdlcmplggfaaDoor
open Go.RowKit
set_option linter.unusedVariables false
set_option maxRecDepth 100000
theorem strictP_ok : ∀ p ∈ strictP, 1 ≤ p.2 ∧ p.2 ≤ 10000 ∧ p.1.length ≤ 2 := by decide
theorem addedP_ok : ∀ p ∈ addedP, 1 ≤ p.2 ∧ p.2 ≤ 10000 ∧ p.1.length ≤ 2 := by decide
/-- RomanOf's answer -/
def romanOfR (n : Int) : Value := if 1 ≤ n ∧ n ≤ 3999 then .tuple #[.string ⟨(strict n.toNat).toArray⟩, .bool true] else .tuple #[.string ⟨#[]⟩, .bool false]
def romanPiledR (n : Int) : Value := if 1 ≤ n ∧ n ≤ 3999 then .tuple #[.string ⟨(piled n.toNat).toArray⟩, .bool true] else .tuple #[.string ⟨#[]⟩, .bool false]
def romanLongestR (n : Int) : Value := if 1 ≤ n ∧ n ≤ 3999 then .tuple #[.int .i64 (best strictLen n.toNat : Nat), .bool true] else .tuple #[.int .i64 0, .bool false]
end Go.Proofs.YtdokdlcmplggfaaDoor
