/- No function of the whole program starts a goroutine: so no row does, whatever its closure is. -/
import Derived.Test.YtgcalmenlcpjpaaDoorRows
import Derived.ProofKit
import GoSem.ClaimSeven
namespace Go.Proofs.YtgcalmenlcpjpaaDoor
theorem goes_none (P : Program) (h : P.funcs.any Func.goes = false) (f : FuncId) : P.goes f = false := by
  unfold Program.goes
  rw [h, Bool.and_false, Bool.or_false, List.any_eq_false]
  intro g _ hg
  cases e : P.funcs[g]? with
  | none => rw [e] at hg; cases hg
  | some fn =>
    rw [e] at hg
    have := Array.any_eq_false'.1 h fn (Array.mem_of_getElem? e)
    exact this hg
theorem goesBy_none (c : OpenClaim) (P : Program) (h : P.funcs.any Func.goes = false) (hs : c.start = .entering) : false = c.goesBy P := by
  unfold OpenClaim.goesBy Program.goesAt Program.goesFrom
  rw [hs]
  cases e : P.funcNamed c.func with
  | none => rfl
  | some f => simp [goes_none P h f]
theorem no_goes : Tryd.prog.funcs.any Func.goes = false := by kernel_rfl
end Go.Proofs.YtgcalmenlcpjpaaDoor
