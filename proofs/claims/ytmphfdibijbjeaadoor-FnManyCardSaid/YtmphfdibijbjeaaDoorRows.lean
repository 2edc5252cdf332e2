/-
  NARROWER THAN 'FOR EVERY INPUT', by the rows' own cells (each row's printed sentence says how): FnMany: laid · FnExactStrokeMany: laid.
  DERIVED. THE GIVEN ROWS OF THIS SEAT. 2 by the template 'for every input the law returns true; each argument reads behind the call as it read before'; 0 by the template 'total and deterministic' (their statements: YtmphfdibijbjeaaDoorTotals.lean).
  GIVEN WITH THE SEED: the statements are not yours to turn. If you find one false, say at which input.
  Laid BY PROGRAM, IN A SANDBOX (cutbox-rows.mjs): the forced cells as the released guide's own fill.sh prints them over the translation bed128c2d0c1f41b… (all of the seat's roots in one cut). By AI agents, Wed Nov 11 2026. No macro, syntax, notation, axiom, sorry.
-/
import Derived.Test.YtmphfdibijbjeaaDoorChecked
import GoSem.Claim
import GoSem.ClaimJoined
import GoSem.ClaimMapViews
import Derived.JoinedTies
import Derived.KernelRfl
namespace Go.Proofs.YtmphfdibijbjeaaDoor
/- THE CELL 'sum', in the pinned program and in every row, IS THE sha256 OF THE DUMP (.gsa) THAT YtmphfdibijbjeaaDoorProg.lean LOADS. Nothing in Lean hashes anything: it is a label: what it is worth is what the hold of that sum in a sandbox is worth. -/
noncomputable def Tryd.pinned : Pinned := { name := "ytmphfdibijbjeaadoor", sum := "bed128c2d0c1f41b747670ce15ea4c014bc83129872895371cd233a98fe463e2", checked := Tryd.checked }
namespace Rows
def none {H : Type} : Left H := { results := [], args := [] }

/- WHAT THE LISTED PACKAGE-LEVEL VARIABLES READ AS WHEN THE CALL BEGINS. Each datum BY PROGRAM (the guide's laid-datum.mjs) off the statement by which the dump's own 'gosem.cut.vars' lays the variable. In a bare row this is a premise. The card (YtmphfdibijbjeaaDoorCards.lean) ties it to the program's text. -/
def laid_loop_example_peoplesnumerals_impl_digitKinds {H : Type} : DataW H := .agg [.slice [] [], .slice [.lit (.int .i64 0)] [], .slice [.lit (.int .i64 1)] [], .slice [.lit (.int .i64 2)] [], .slice [.lit (.int .i64 3)] [], .slice [.lit (.int .i64 0), .lit (.int .i64 3)] [], .slice [.lit (.int .i64 4)] [], .slice [.lit (.int .i64 0), .lit (.int .i64 4)] [], .slice [.lit (.int .i64 1), .lit (.int .i64 4)] [], .slice [.lit (.int .i64 0), .lit (.int .i64 1), .lit (.int .i64 4)] []]

/-- 'laws.FnMany': WHATEVER THE INPUT: true; the input reads as it did. -/
def fnManySpec : ChangeSpec := { name := "fnMany", vars := ["loop.example/peoplesnumerals/impl.digitKinds"], fn := fun _ => fun
  | [d, g1] => { results := [.lit (.bool true)], args := [d], vars := [g1] }
  | _ => none }
def fnManyRow : OpenClaim := { program := "ytmphfdibijbjeaadoor", sum := "bed128c2d0c1f41b747670ce15ea4c014bc83129872895371cd233a98fe463e2", func := "loop.example/peoplesnumerals/laws.FnMany", spec := "fnMany", inPlace := ["(*sync.WaitGroup).Add", "internal/race.ReleaseMerge", "internal/race.Disable", "internal/race.Enable", "internal/synctest.IsInBubble", "internal/synctest.Associate[sync.WaitGroup]", "sync.fatal", "sync/atomic.OrUint64", "sync/atomic.AddUint64", "internal/race.Read", "sync/atomic.LoadUint64", "sync/atomic.StoreUint64", "internal/synctest.Disassociate[sync.WaitGroup]", "sync.runtime_Semrelease", "(*sync.WaitGroup).Done", "(*sync.WaitGroup).Wait", "internal/race.Acquire", "internal/synctest.IsAssociated[sync.WaitGroup]", "sync/atomic.CompareAndSwapUint64", "internal/race.Write", "sync.runtime_SemacquireWaitGroup"], unfollowed := true, recurses := true, named := ["loop.example/peoplesnumerals/impl.digitKinds"], leaving := true, apart := false, laid := [("loop.example/peoplesnumerals/impl.digitKinds", laid_loop_example_peoplesnumerals_impl_digitKinds)] }
def FnManySaid : Prop := fnManyRow.holds Tryd.pinned (OpenSpec.ofChange fnManySpec)

/-- ITS FALSE NEIGHBOUR: 'it returns false'. Refute it at one input. -/
def fnManyWrong : ChangeSpec := { name := "fnMany", vars := ["loop.example/peoplesnumerals/impl.digitKinds"], fn := fun _ => fun
  | [d, g1] => { results := [.lit (.bool false)], args := [d], vars := [g1] }
  | _ => none }
def FnManyWrongFalsely : Prop := fnManyRow.holds Tryd.pinned (OpenSpec.ofChange fnManyWrong)

/-- 'laws.FnExactStrokeMany': WHATEVER THE INPUT: true; the input reads as it did. -/
def fnExactStrokeManySpec : ChangeSpec := { name := "fnExactStrokeMany", vars := ["loop.example/peoplesnumerals/impl.digitKinds"], fn := fun _ => fun
  | [d, g1] => { results := [.lit (.bool true)], args := [d], vars := [g1] }
  | _ => none }
def fnExactStrokeManyRow : OpenClaim := { program := "ytmphfdibijbjeaadoor", sum := "bed128c2d0c1f41b747670ce15ea4c014bc83129872895371cd233a98fe463e2", func := "loop.example/peoplesnumerals/laws.FnExactStrokeMany", spec := "fnExactStrokeMany", inPlace := ["(*sync.WaitGroup).Add", "internal/race.ReleaseMerge", "internal/race.Disable", "internal/race.Enable", "internal/synctest.IsInBubble", "internal/synctest.Associate[sync.WaitGroup]", "sync.fatal", "sync/atomic.OrUint64", "sync/atomic.AddUint64", "internal/race.Read", "sync/atomic.LoadUint64", "sync/atomic.StoreUint64", "internal/synctest.Disassociate[sync.WaitGroup]", "sync.runtime_Semrelease", "(*sync.WaitGroup).Done", "(*sync.WaitGroup).Wait", "internal/race.Acquire", "internal/synctest.IsAssociated[sync.WaitGroup]", "sync/atomic.CompareAndSwapUint64", "internal/race.Write", "sync.runtime_SemacquireWaitGroup"], unfollowed := true, recurses := true, named := ["loop.example/peoplesnumerals/impl.digitKinds"], leaving := true, apart := false, laid := [("loop.example/peoplesnumerals/impl.digitKinds", laid_loop_example_peoplesnumerals_impl_digitKinds)] }
def FnExactStrokeManySaid : Prop := fnExactStrokeManyRow.holds Tryd.pinned (OpenSpec.ofChange fnExactStrokeManySpec)

/-- ITS FALSE NEIGHBOUR: 'it returns false'. Refute it at one input. -/
def fnExactStrokeManyWrong : ChangeSpec := { name := "fnExactStrokeMany", vars := ["loop.example/peoplesnumerals/impl.digitKinds"], fn := fun _ => fun
  | [d, g1] => { results := [.lit (.bool false)], args := [d], vars := [g1] }
  | _ => none }
def FnExactStrokeManyWrongFalsely : Prop := fnExactStrokeManyRow.holds Tryd.pinned (OpenSpec.ofChange fnExactStrokeManyWrong)

/- THE SECOND FORM. 'bulk': how many values and letters a reading holds, each counted each time it is reached (what is shared counts as often as it is met; a slice's spare places count too). A statement '..UptoSaid' is the law's where the arguments, and the package variables that the reading takes, are together of bulk at most 1048576: NARROWER than '..Said'. Prove '..Said' where nothing that the law and all that it calls make is longer than what came in: it says more and counts as full. Else prove '..UptoSaid'. A law counts once. -/
mutual
def uptoBulk {H : Type} : DataW H → Nat
  | .lit (.string bytes) => bytes.length + 1
  | .lit _ => 1
  | .nil => 1
  | .ptr d => uptoBulk d + 1
  | .slice elems spare => uptoBulkAll elems + uptoBulkAll spare + 1
  | .agg parts => uptoBulkAll parts + 1
  | .iface _ d => uptoBulk d + 1
  | .map entries => uptoBulkEntries entries + 1
  | .held _ => 1
def uptoBulkAll {H : Type} : List (DataW H) → Nat
  | [] => 0
  | d :: r => uptoBulk d + uptoBulkAll r
def uptoBulkEntries {H : Type} : List (Lit × DataW H) → Nat
  | [] => 0
  | x :: r => uptoBulkEntry x + uptoBulkEntries r
def uptoBulkEntry {H : Type} : Lit × DataW H → Nat
  | (.string bytes, d) => bytes.length + uptoBulk d + 1
  | (_, d) => uptoBulk d + 1
 end
def uptoSmall : (H : Type) → List (DataW H) → Bool := fun _ ds => decide (uptoBulkAll ds ≤ 1048576)
def OpenSpec.upto (s : _root_.Go.ChangeSpec) : _root_.Go.OpenSpec := { _root_.Go.OpenSpec.ofChange s with cond := some uptoSmall }

/-- 'laws.FnMany', WHERE WHAT IT READS IS OF BULK AT MOST 1048576: true; the input reads as it did. -/
def fnManyUptoRow : OpenClaim := { program := "ytmphfdibijbjeaadoor", sum := "bed128c2d0c1f41b747670ce15ea4c014bc83129872895371cd233a98fe463e2", func := "loop.example/peoplesnumerals/laws.FnMany", spec := "fnMany", inPlace := ["(*sync.WaitGroup).Add", "internal/race.ReleaseMerge", "internal/race.Disable", "internal/race.Enable", "internal/synctest.IsInBubble", "internal/synctest.Associate[sync.WaitGroup]", "sync.fatal", "sync/atomic.OrUint64", "sync/atomic.AddUint64", "internal/race.Read", "sync/atomic.LoadUint64", "sync/atomic.StoreUint64", "internal/synctest.Disassociate[sync.WaitGroup]", "sync.runtime_Semrelease", "(*sync.WaitGroup).Done", "(*sync.WaitGroup).Wait", "internal/race.Acquire", "internal/synctest.IsAssociated[sync.WaitGroup]", "sync/atomic.CompareAndSwapUint64", "internal/race.Write", "sync.runtime_SemacquireWaitGroup"], unfollowed := true, recurses := true, named := ["loop.example/peoplesnumerals/impl.digitKinds"], leaving := true, apart := false, laid := [("loop.example/peoplesnumerals/impl.digitKinds", laid_loop_example_peoplesnumerals_impl_digitKinds)], narrowed := true }
def FnManyUptoSaid : Prop := fnManyUptoRow.holds Tryd.pinned (OpenSpec.upto fnManySpec)

/-- 'laws.FnExactStrokeMany', WHERE WHAT IT READS IS OF BULK AT MOST 1048576: true; the input reads as it did. -/
def fnExactStrokeManyUptoRow : OpenClaim := { program := "ytmphfdibijbjeaadoor", sum := "bed128c2d0c1f41b747670ce15ea4c014bc83129872895371cd233a98fe463e2", func := "loop.example/peoplesnumerals/laws.FnExactStrokeMany", spec := "fnExactStrokeMany", inPlace := ["(*sync.WaitGroup).Add", "internal/race.ReleaseMerge", "internal/race.Disable", "internal/race.Enable", "internal/synctest.IsInBubble", "internal/synctest.Associate[sync.WaitGroup]", "sync.fatal", "sync/atomic.OrUint64", "sync/atomic.AddUint64", "internal/race.Read", "sync/atomic.LoadUint64", "sync/atomic.StoreUint64", "internal/synctest.Disassociate[sync.WaitGroup]", "sync.runtime_Semrelease", "(*sync.WaitGroup).Done", "(*sync.WaitGroup).Wait", "internal/race.Acquire", "internal/synctest.IsAssociated[sync.WaitGroup]", "sync/atomic.CompareAndSwapUint64", "internal/race.Write", "sync.runtime_SemacquireWaitGroup"], unfollowed := true, recurses := true, named := ["loop.example/peoplesnumerals/impl.digitKinds"], leaving := true, apart := false, laid := [("loop.example/peoplesnumerals/impl.digitKinds", laid_loop_example_peoplesnumerals_impl_digitKinds)], narrowed := true }
def FnExactStrokeManyUptoSaid : Prop := fnExactStrokeManyUptoRow.holds Tryd.pinned (OpenSpec.upto fnExactStrokeManySpec)

end Rows
end Go.Proofs.YtmphfdibijbjeaaDoor
