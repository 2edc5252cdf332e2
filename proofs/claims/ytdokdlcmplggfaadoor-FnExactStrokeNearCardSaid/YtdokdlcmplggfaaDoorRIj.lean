/- The program's joinPieces. -/
import Derived.Test.YtdokdlcmplggfaaDoorRIp
namespace Go.Proofs.YtdokdlcmplggfaaDoor
open Go.RowKit
set_option linter.unusedVariables false
set_option maxRecDepth 100000
theorem info_u8 : (Tryd.prog.info? 5).map (fun i => (i.zero, i.size, i.bytes)) = some (some (.int .u8 0), 1, 1) := by kernel_rfl
theorem many_take_step (v : Nat) (b : List UInt8) (m : Nat) (h : v ≤ m) (hv : 1 ≤ v) : many b (m / v) = b ++ many b ((m - v) / v) := by
  rw [Nat.div_eq_sub_div (by omega) h, many_succ]
end Go.Proofs.YtdokdlcmplggfaaDoor
