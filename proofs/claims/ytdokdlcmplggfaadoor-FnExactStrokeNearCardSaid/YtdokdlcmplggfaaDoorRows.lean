/-
  NARROWER THAN 'FOR EVERY INPUT', by the rows' own cells (each row's printed sentence says how): FnStroke: laid · FnStrokeRead: laid · FnStrokes: laid · FnStrokeTurned: laid · FnMirror: laid · FnNear: laid · FnExactStrokeOf: laid · FnExactStrokeRead: laid · FnExactStrokeCount: laid · FnExactStrokeTurned: laid · FnExactStrokeMirror: laid · FnExactStrokeNear: laid.
  DERIVED. THE GIVEN ROWS OF THIS SEAT. 12 by the template 'for every input the law returns true; each argument reads behind the call as it read before'; 0 by the template 'total and deterministic' (their statements: YtdokdlcmplggfaaDoorTotals.lean).
  GIVEN WITH THE SEED: the statements are not yours to turn. If you find one false, say at which input.
  Laid BY PROGRAM, IN A SANDBOX (cutbox-rows.mjs): the forced cells as the released guide's own fill.sh prints them over the translation 99943220f7df1b97… (all of the seat's roots in one cut). By AI agents, Wed Nov 11 2026. No macro, syntax, notation, axiom, sorry.
-/
import Derived.Test.YtdokdlcmplggfaaDoorChecked
import GoSem.Claim
import GoSem.ClaimJoined
import GoSem.ClaimMapViews
import Derived.JoinedTies
import Derived.KernelRfl
namespace Go.Proofs.YtdokdlcmplggfaaDoor
/- THE CELL 'sum', in the pinned program and in every row, IS THE sha256 OF THE DUMP (.gsa) THAT YtdokdlcmplggfaaDoorProg.lean LOADS. Nothing in Lean hashes anything: it is a label: what it is worth is what the hold of that sum in a sandbox is worth. -/
noncomputable def Tryd.pinned : Pinned := { name := "ytdokdlcmplggfaadoor", sum := "99943220f7df1b979f504a0513e473c2337f8c962257444da110e7221f0af3a8", checked := Tryd.checked }
namespace Rows
def none {H : Type} : Left H := { results := [], args := [] }

/- WHAT THE LISTED PACKAGE-LEVEL VARIABLES READ AS WHEN THE CALL BEGINS. Each datum BY PROGRAM (the guide's laid-datum.mjs) off the statement by which the dump's own 'gosem.cut.vars' lays the variable. In a bare row this is a premise. The card (YtdokdlcmplggfaaDoorCards.lean) ties it to the program's text. -/
def laid_loop_example_peoplesnumerals_impl_digitKinds {H : Type} : DataW H := .agg [.slice [] [], .slice [.lit (.int .i64 0)] [], .slice [.lit (.int .i64 1)] [], .slice [.lit (.int .i64 2)] [], .slice [.lit (.int .i64 3)] [], .slice [.lit (.int .i64 0), .lit (.int .i64 3)] [], .slice [.lit (.int .i64 4)] [], .slice [.lit (.int .i64 0), .lit (.int .i64 4)] [], .slice [.lit (.int .i64 1), .lit (.int .i64 4)] [], .slice [.lit (.int .i64 0), .lit (.int .i64 1), .lit (.int .i64 4)] []]
def laid_loop_example_peoplesnumerals_impl_turnedPlaces {H : Type} : DataW H := .agg [.lit (.int .i64 3), .lit (.int .i64 2), .lit (.int .i64 1), .lit (.int .i64 0)]
def laid_loop_example_peoplesnumerals_impl_mirroredPlaces {H : Type} : DataW H := .agg [.lit (.int .i64 1), .lit (.int .i64 0), .lit (.int .i64 3), .lit (.int .i64 2)]

/-- 'laws.FnStroke': WHATEVER THE INPUT: true; the input reads as it did. -/
def fnStrokeSpec : ChangeSpec := { name := "fnStroke", vars := ["loop.example/peoplesnumerals/impl.digitKinds"], fn := fun _ => fun
  | [d, g1] => { results := [.lit (.bool true)], args := [d], vars := [g1] }
  | _ => none }
def fnStrokeRow : OpenClaim := { program := "ytdokdlcmplggfaadoor", sum := "99943220f7df1b979f504a0513e473c2337f8c962257444da110e7221f0af3a8", func := "loop.example/peoplesnumerals/laws.FnStroke", spec := "fnStroke", named := ["loop.example/peoplesnumerals/impl.digitKinds"], apart := false, laid := [("loop.example/peoplesnumerals/impl.digitKinds", laid_loop_example_peoplesnumerals_impl_digitKinds)] }
def FnStrokeSaid : Prop := fnStrokeRow.holds Tryd.pinned (OpenSpec.ofChange fnStrokeSpec)

/-- ITS FALSE NEIGHBOUR: 'it returns false'. Refute it at one input. -/
def fnStrokeWrong : ChangeSpec := { name := "fnStroke", vars := ["loop.example/peoplesnumerals/impl.digitKinds"], fn := fun _ => fun
  | [d, g1] => { results := [.lit (.bool false)], args := [d], vars := [g1] }
  | _ => none }
def FnStrokeWrongFalsely : Prop := fnStrokeRow.holds Tryd.pinned (OpenSpec.ofChange fnStrokeWrong)

/-- 'laws.FnStrokeRead': WHATEVER THE INPUT: true; the input reads as it did. -/
def fnStrokeReadSpec : ChangeSpec := { name := "fnStrokeRead", vars := ["loop.example/peoplesnumerals/impl.digitKinds"], fn := fun _ => fun
  | [d, g1] => { results := [.lit (.bool true)], args := [d], vars := [g1] }
  | _ => none }
def fnStrokeReadRow : OpenClaim := { program := "ytdokdlcmplggfaadoor", sum := "99943220f7df1b979f504a0513e473c2337f8c962257444da110e7221f0af3a8", func := "loop.example/peoplesnumerals/laws.FnStrokeRead", spec := "fnStrokeRead", named := ["loop.example/peoplesnumerals/impl.digitKinds"], apart := false, laid := [("loop.example/peoplesnumerals/impl.digitKinds", laid_loop_example_peoplesnumerals_impl_digitKinds)] }
def FnStrokeReadSaid : Prop := fnStrokeReadRow.holds Tryd.pinned (OpenSpec.ofChange fnStrokeReadSpec)

/-- ITS FALSE NEIGHBOUR: 'it returns false'. Refute it at one input. -/
def fnStrokeReadWrong : ChangeSpec := { name := "fnStrokeRead", vars := ["loop.example/peoplesnumerals/impl.digitKinds"], fn := fun _ => fun
  | [d, g1] => { results := [.lit (.bool false)], args := [d], vars := [g1] }
  | _ => none }
def FnStrokeReadWrongFalsely : Prop := fnStrokeReadRow.holds Tryd.pinned (OpenSpec.ofChange fnStrokeReadWrong)

/-- 'laws.FnStrokes': WHATEVER THE INPUT: true; the input reads as it did. -/
def fnStrokesSpec : ChangeSpec := { name := "fnStrokes", vars := ["loop.example/peoplesnumerals/impl.digitKinds", "loop.example/peoplesnumerals/impl.turnedPlaces", "loop.example/peoplesnumerals/impl.mirroredPlaces"], fn := fun _ => fun
  | [d, g1, g2, g3] => { results := [.lit (.bool true)], args := [d], vars := [g1, g2, g3] }
  | _ => none }
def fnStrokesRow : OpenClaim := { program := "ytdokdlcmplggfaadoor", sum := "99943220f7df1b979f504a0513e473c2337f8c962257444da110e7221f0af3a8", func := "loop.example/peoplesnumerals/laws.FnStrokes", spec := "fnStrokes", unfollowed := true, recurses := true, named := ["loop.example/peoplesnumerals/impl.digitKinds", "loop.example/peoplesnumerals/impl.turnedPlaces", "loop.example/peoplesnumerals/impl.mirroredPlaces"], apart := false, laid := [("loop.example/peoplesnumerals/impl.turnedPlaces", laid_loop_example_peoplesnumerals_impl_turnedPlaces), ("loop.example/peoplesnumerals/impl.mirroredPlaces", laid_loop_example_peoplesnumerals_impl_mirroredPlaces), ("loop.example/peoplesnumerals/impl.digitKinds", laid_loop_example_peoplesnumerals_impl_digitKinds)] }
def FnStrokesSaid : Prop := fnStrokesRow.holds Tryd.pinned (OpenSpec.ofChange fnStrokesSpec)

/-- ITS FALSE NEIGHBOUR: 'it returns false'. Refute it at one input. -/
def fnStrokesWrong : ChangeSpec := { name := "fnStrokes", vars := ["loop.example/peoplesnumerals/impl.digitKinds", "loop.example/peoplesnumerals/impl.turnedPlaces", "loop.example/peoplesnumerals/impl.mirroredPlaces"], fn := fun _ => fun
  | [d, g1, g2, g3] => { results := [.lit (.bool false)], args := [d], vars := [g1, g2, g3] }
  | _ => none }
def FnStrokesWrongFalsely : Prop := fnStrokesRow.holds Tryd.pinned (OpenSpec.ofChange fnStrokesWrong)

/-- 'laws.FnStrokeTurned': WHATEVER THE INPUT: true; the input reads as it did. -/
def fnStrokeTurnedSpec : ChangeSpec := { name := "fnStrokeTurned", vars := ["loop.example/peoplesnumerals/impl.digitKinds", "loop.example/peoplesnumerals/impl.turnedPlaces", "loop.example/peoplesnumerals/impl.mirroredPlaces"], fn := fun _ => fun
  | [d, g1, g2, g3] => { results := [.lit (.bool true)], args := [d], vars := [g1, g2, g3] }
  | _ => none }
def fnStrokeTurnedRow : OpenClaim := { program := "ytdokdlcmplggfaadoor", sum := "99943220f7df1b979f504a0513e473c2337f8c962257444da110e7221f0af3a8", func := "loop.example/peoplesnumerals/laws.FnStrokeTurned", spec := "fnStrokeTurned", unfollowed := true, recurses := true, named := ["loop.example/peoplesnumerals/impl.digitKinds", "loop.example/peoplesnumerals/impl.turnedPlaces", "loop.example/peoplesnumerals/impl.mirroredPlaces"], apart := false, laid := [("loop.example/peoplesnumerals/impl.turnedPlaces", laid_loop_example_peoplesnumerals_impl_turnedPlaces), ("loop.example/peoplesnumerals/impl.mirroredPlaces", laid_loop_example_peoplesnumerals_impl_mirroredPlaces), ("loop.example/peoplesnumerals/impl.digitKinds", laid_loop_example_peoplesnumerals_impl_digitKinds)] }
def FnStrokeTurnedSaid : Prop := fnStrokeTurnedRow.holds Tryd.pinned (OpenSpec.ofChange fnStrokeTurnedSpec)

/-- ITS FALSE NEIGHBOUR: 'it returns false'. Refute it at one input. -/
def fnStrokeTurnedWrong : ChangeSpec := { name := "fnStrokeTurned", vars := ["loop.example/peoplesnumerals/impl.digitKinds", "loop.example/peoplesnumerals/impl.turnedPlaces", "loop.example/peoplesnumerals/impl.mirroredPlaces"], fn := fun _ => fun
  | [d, g1, g2, g3] => { results := [.lit (.bool false)], args := [d], vars := [g1, g2, g3] }
  | _ => none }
def FnStrokeTurnedWrongFalsely : Prop := fnStrokeTurnedRow.holds Tryd.pinned (OpenSpec.ofChange fnStrokeTurnedWrong)

/-- 'laws.FnMirror': WHATEVER THE INPUT: true; the input reads as it did. -/
def fnMirrorSpec : ChangeSpec := { name := "fnMirror", vars := ["loop.example/peoplesnumerals/impl.digitKinds", "loop.example/peoplesnumerals/impl.mirroredPlaces"], fn := fun _ => fun
  | [d, g1, g2] => { results := [.lit (.bool true)], args := [d], vars := [g1, g2] }
  | _ => none }
def fnMirrorRow : OpenClaim := { program := "ytdokdlcmplggfaadoor", sum := "99943220f7df1b979f504a0513e473c2337f8c962257444da110e7221f0af3a8", func := "loop.example/peoplesnumerals/laws.FnMirror", spec := "fnMirror", unfollowed := true, recurses := true, named := ["loop.example/peoplesnumerals/impl.digitKinds", "loop.example/peoplesnumerals/impl.mirroredPlaces"], apart := false, laid := [("loop.example/peoplesnumerals/impl.mirroredPlaces", laid_loop_example_peoplesnumerals_impl_mirroredPlaces), ("loop.example/peoplesnumerals/impl.digitKinds", laid_loop_example_peoplesnumerals_impl_digitKinds)] }
def FnMirrorSaid : Prop := fnMirrorRow.holds Tryd.pinned (OpenSpec.ofChange fnMirrorSpec)

/-- ITS FALSE NEIGHBOUR: 'it returns false'. Refute it at one input. -/
def fnMirrorWrong : ChangeSpec := { name := "fnMirror", vars := ["loop.example/peoplesnumerals/impl.digitKinds", "loop.example/peoplesnumerals/impl.mirroredPlaces"], fn := fun _ => fun
  | [d, g1, g2] => { results := [.lit (.bool false)], args := [d], vars := [g1, g2] }
  | _ => none }
def FnMirrorWrongFalsely : Prop := fnMirrorRow.holds Tryd.pinned (OpenSpec.ofChange fnMirrorWrong)

/-- 'laws.FnNear': WHATEVER THE INPUT: true; the input reads as it did. -/
def fnNearSpec : ChangeSpec := { name := "fnNear", vars := ["loop.example/peoplesnumerals/impl.digitKinds"], fn := fun _ => fun
  | [d, g1] => { results := [.lit (.bool true)], args := [d], vars := [g1] }
  | _ => none }
def fnNearRow : OpenClaim := { program := "ytdokdlcmplggfaadoor", sum := "99943220f7df1b979f504a0513e473c2337f8c962257444da110e7221f0af3a8", func := "loop.example/peoplesnumerals/laws.FnNear", spec := "fnNear", named := ["loop.example/peoplesnumerals/impl.digitKinds"], apart := false, laid := [("loop.example/peoplesnumerals/impl.digitKinds", laid_loop_example_peoplesnumerals_impl_digitKinds)] }
def FnNearSaid : Prop := fnNearRow.holds Tryd.pinned (OpenSpec.ofChange fnNearSpec)

/-- ITS FALSE NEIGHBOUR: 'it returns false'. Refute it at one input. -/
def fnNearWrong : ChangeSpec := { name := "fnNear", vars := ["loop.example/peoplesnumerals/impl.digitKinds"], fn := fun _ => fun
  | [d, g1] => { results := [.lit (.bool false)], args := [d], vars := [g1] }
  | _ => none }
def FnNearWrongFalsely : Prop := fnNearRow.holds Tryd.pinned (OpenSpec.ofChange fnNearWrong)

/-- 'laws.FnExactStrokeOf': WHATEVER THE INPUT: true; the input reads as it did. -/
def fnExactStrokeOfSpec : ChangeSpec := { name := "fnExactStrokeOf", vars := ["loop.example/peoplesnumerals/impl.digitKinds"], fn := fun _ => fun
  | [d, g1] => { results := [.lit (.bool true)], args := [d], vars := [g1] }
  | _ => none }
def fnExactStrokeOfRow : OpenClaim := { program := "ytdokdlcmplggfaadoor", sum := "99943220f7df1b979f504a0513e473c2337f8c962257444da110e7221f0af3a8", func := "loop.example/peoplesnumerals/laws.FnExactStrokeOf", spec := "fnExactStrokeOf", named := ["loop.example/peoplesnumerals/impl.digitKinds"], apart := false, laid := [("loop.example/peoplesnumerals/impl.digitKinds", laid_loop_example_peoplesnumerals_impl_digitKinds)] }
def FnExactStrokeOfSaid : Prop := fnExactStrokeOfRow.holds Tryd.pinned (OpenSpec.ofChange fnExactStrokeOfSpec)

/-- ITS FALSE NEIGHBOUR: 'it returns false'. Refute it at one input. -/
def fnExactStrokeOfWrong : ChangeSpec := { name := "fnExactStrokeOf", vars := ["loop.example/peoplesnumerals/impl.digitKinds"], fn := fun _ => fun
  | [d, g1] => { results := [.lit (.bool false)], args := [d], vars := [g1] }
  | _ => none }
def FnExactStrokeOfWrongFalsely : Prop := fnExactStrokeOfRow.holds Tryd.pinned (OpenSpec.ofChange fnExactStrokeOfWrong)

/-- 'laws.FnExactStrokeRead': WHATEVER THE INPUT: true; the input reads as it did. -/
def fnExactStrokeReadSpec : ChangeSpec := { name := "fnExactStrokeRead", vars := ["loop.example/peoplesnumerals/impl.digitKinds"], fn := fun _ => fun
  | [d, g1] => { results := [.lit (.bool true)], args := [d], vars := [g1] }
  | _ => none }
def fnExactStrokeReadRow : OpenClaim := { program := "ytdokdlcmplggfaadoor", sum := "99943220f7df1b979f504a0513e473c2337f8c962257444da110e7221f0af3a8", func := "loop.example/peoplesnumerals/laws.FnExactStrokeRead", spec := "fnExactStrokeRead", named := ["loop.example/peoplesnumerals/impl.digitKinds"], apart := false, laid := [("loop.example/peoplesnumerals/impl.digitKinds", laid_loop_example_peoplesnumerals_impl_digitKinds)] }
def FnExactStrokeReadSaid : Prop := fnExactStrokeReadRow.holds Tryd.pinned (OpenSpec.ofChange fnExactStrokeReadSpec)

/-- ITS FALSE NEIGHBOUR: 'it returns false'. Refute it at one input. -/
def fnExactStrokeReadWrong : ChangeSpec := { name := "fnExactStrokeRead", vars := ["loop.example/peoplesnumerals/impl.digitKinds"], fn := fun _ => fun
  | [d, g1] => { results := [.lit (.bool false)], args := [d], vars := [g1] }
  | _ => none }
def FnExactStrokeReadWrongFalsely : Prop := fnExactStrokeReadRow.holds Tryd.pinned (OpenSpec.ofChange fnExactStrokeReadWrong)

/-- 'laws.FnExactStrokeCount': WHATEVER THE INPUT: true; the input reads as it did. -/
def fnExactStrokeCountSpec : ChangeSpec := { name := "fnExactStrokeCount", vars := ["loop.example/peoplesnumerals/impl.digitKinds"], fn := fun _ => fun
  | [d, g1] => { results := [.lit (.bool true)], args := [d], vars := [g1] }
  | _ => none }
def fnExactStrokeCountRow : OpenClaim := { program := "ytdokdlcmplggfaadoor", sum := "99943220f7df1b979f504a0513e473c2337f8c962257444da110e7221f0af3a8", func := "loop.example/peoplesnumerals/laws.FnExactStrokeCount", spec := "fnExactStrokeCount", named := ["loop.example/peoplesnumerals/impl.digitKinds"], apart := false, laid := [("loop.example/peoplesnumerals/impl.digitKinds", laid_loop_example_peoplesnumerals_impl_digitKinds)] }
def FnExactStrokeCountSaid : Prop := fnExactStrokeCountRow.holds Tryd.pinned (OpenSpec.ofChange fnExactStrokeCountSpec)

/-- ITS FALSE NEIGHBOUR: 'it returns false'. Refute it at one input. -/
def fnExactStrokeCountWrong : ChangeSpec := { name := "fnExactStrokeCount", vars := ["loop.example/peoplesnumerals/impl.digitKinds"], fn := fun _ => fun
  | [d, g1] => { results := [.lit (.bool false)], args := [d], vars := [g1] }
  | _ => none }
def FnExactStrokeCountWrongFalsely : Prop := fnExactStrokeCountRow.holds Tryd.pinned (OpenSpec.ofChange fnExactStrokeCountWrong)

/-- 'laws.FnExactStrokeTurned': WHATEVER THE INPUT: true; the input reads as it did. -/
def fnExactStrokeTurnedSpec : ChangeSpec := { name := "fnExactStrokeTurned", vars := ["loop.example/peoplesnumerals/impl.digitKinds", "loop.example/peoplesnumerals/impl.turnedPlaces"], fn := fun _ => fun
  | [d, g1, g2] => { results := [.lit (.bool true)], args := [d], vars := [g1, g2] }
  | _ => none }
def fnExactStrokeTurnedRow : OpenClaim := { program := "ytdokdlcmplggfaadoor", sum := "99943220f7df1b979f504a0513e473c2337f8c962257444da110e7221f0af3a8", func := "loop.example/peoplesnumerals/laws.FnExactStrokeTurned", spec := "fnExactStrokeTurned", unfollowed := true, recurses := true, named := ["loop.example/peoplesnumerals/impl.digitKinds", "loop.example/peoplesnumerals/impl.turnedPlaces"], apart := false, laid := [("loop.example/peoplesnumerals/impl.turnedPlaces", laid_loop_example_peoplesnumerals_impl_turnedPlaces), ("loop.example/peoplesnumerals/impl.digitKinds", laid_loop_example_peoplesnumerals_impl_digitKinds)] }
def FnExactStrokeTurnedSaid : Prop := fnExactStrokeTurnedRow.holds Tryd.pinned (OpenSpec.ofChange fnExactStrokeTurnedSpec)

/-- ITS FALSE NEIGHBOUR: 'it returns false'. Refute it at one input. -/
def fnExactStrokeTurnedWrong : ChangeSpec := { name := "fnExactStrokeTurned", vars := ["loop.example/peoplesnumerals/impl.digitKinds", "loop.example/peoplesnumerals/impl.turnedPlaces"], fn := fun _ => fun
  | [d, g1, g2] => { results := [.lit (.bool false)], args := [d], vars := [g1, g2] }
  | _ => none }
def FnExactStrokeTurnedWrongFalsely : Prop := fnExactStrokeTurnedRow.holds Tryd.pinned (OpenSpec.ofChange fnExactStrokeTurnedWrong)

/-- 'laws.FnExactStrokeMirror': WHATEVER THE INPUT: true; the input reads as it did. -/
def fnExactStrokeMirrorSpec : ChangeSpec := { name := "fnExactStrokeMirror", vars := ["loop.example/peoplesnumerals/impl.digitKinds", "loop.example/peoplesnumerals/impl.mirroredPlaces"], fn := fun _ => fun
  | [d, g1, g2] => { results := [.lit (.bool true)], args := [d], vars := [g1, g2] }
  | _ => none }
def fnExactStrokeMirrorRow : OpenClaim := { program := "ytdokdlcmplggfaadoor", sum := "99943220f7df1b979f504a0513e473c2337f8c962257444da110e7221f0af3a8", func := "loop.example/peoplesnumerals/laws.FnExactStrokeMirror", spec := "fnExactStrokeMirror", unfollowed := true, recurses := true, named := ["loop.example/peoplesnumerals/impl.digitKinds", "loop.example/peoplesnumerals/impl.mirroredPlaces"], apart := false, laid := [("loop.example/peoplesnumerals/impl.mirroredPlaces", laid_loop_example_peoplesnumerals_impl_mirroredPlaces), ("loop.example/peoplesnumerals/impl.digitKinds", laid_loop_example_peoplesnumerals_impl_digitKinds)] }
def FnExactStrokeMirrorSaid : Prop := fnExactStrokeMirrorRow.holds Tryd.pinned (OpenSpec.ofChange fnExactStrokeMirrorSpec)

/-- ITS FALSE NEIGHBOUR: 'it returns false'. Refute it at one input. -/
def fnExactStrokeMirrorWrong : ChangeSpec := { name := "fnExactStrokeMirror", vars := ["loop.example/peoplesnumerals/impl.digitKinds", "loop.example/peoplesnumerals/impl.mirroredPlaces"], fn := fun _ => fun
  | [d, g1, g2] => { results := [.lit (.bool false)], args := [d], vars := [g1, g2] }
  | _ => none }
def FnExactStrokeMirrorWrongFalsely : Prop := fnExactStrokeMirrorRow.holds Tryd.pinned (OpenSpec.ofChange fnExactStrokeMirrorWrong)

/-- 'laws.FnExactStrokeNear': WHATEVER THE INPUT: true; the input reads as it did. -/
def fnExactStrokeNearSpec : ChangeSpec := { name := "fnExactStrokeNear", vars := ["loop.example/peoplesnumerals/impl.digitKinds"], fn := fun _ => fun
  | [d1, d2, g1] => { results := [.lit (.bool true)], args := [d1, d2], vars := [g1] }
  | _ => none }
def fnExactStrokeNearRow : OpenClaim := { program := "ytdokdlcmplggfaadoor", sum := "99943220f7df1b979f504a0513e473c2337f8c962257444da110e7221f0af3a8", func := "loop.example/peoplesnumerals/laws.FnExactStrokeNear", spec := "fnExactStrokeNear", named := ["loop.example/peoplesnumerals/impl.digitKinds"], apart := false, laid := [("loop.example/peoplesnumerals/impl.digitKinds", laid_loop_example_peoplesnumerals_impl_digitKinds)] }
def FnExactStrokeNearSaid : Prop := fnExactStrokeNearRow.holds Tryd.pinned (OpenSpec.ofChange fnExactStrokeNearSpec)

/-- ITS FALSE NEIGHBOUR: 'it returns false'. Refute it at one input. -/
def fnExactStrokeNearWrong : ChangeSpec := { name := "fnExactStrokeNear", vars := ["loop.example/peoplesnumerals/impl.digitKinds"], fn := fun _ => fun
  | [d1, d2, g1] => { results := [.lit (.bool false)], args := [d1, d2], vars := [g1] }
  | _ => none }
def FnExactStrokeNearWrongFalsely : Prop := fnExactStrokeNearRow.holds Tryd.pinned (OpenSpec.ofChange fnExactStrokeNearWrong)

/- THE SECOND FORM. 'bulk': how many values and letters a reading holds, each counted each time it is reached (what is shared counts as often as it is met; a slice's spare places count too). A statement '..UptoSaid' is the law's where the arguments, and the package variables that the reading takes, are together of bulk at most 1048576: NARROWER than '..Said'. Prove '..Said' where nothing that the law and all that it calls make is longer than what came in: it says more and counts as full. Else prove '..UptoSaid'. A law counts once. -/
mutual
def uptoBulk {H : Type} : DataW H → Nat
  | .lit (.string bytes) => bytes.length + 1
  | .lit _ => 1
  | .nil => 1
  | .ptr d => uptoBulk d + 1
  | .slice elems spare => uptoBulkAll elems + uptoBulkAll spare + 1
  | .agg parts => uptoBulkAll parts + 1
  | .iface _ d => uptoBulk d + 1
  | .map entries => uptoBulkEntries entries + 1
  | .held _ => 1
def uptoBulkAll {H : Type} : List (DataW H) → Nat
  | [] => 0
  | d :: r => uptoBulk d + uptoBulkAll r
def uptoBulkEntries {H : Type} : List (Lit × DataW H) → Nat
  | [] => 0
  | x :: r => uptoBulkEntry x + uptoBulkEntries r
def uptoBulkEntry {H : Type} : Lit × DataW H → Nat
  | (.string bytes, d) => bytes.length + uptoBulk d + 1
  | (_, d) => uptoBulk d + 1
 end
def uptoSmall : (H : Type) → List (DataW H) → Bool := fun _ ds => decide (uptoBulkAll ds ≤ 1048576)
def OpenSpec.upto (s : _root_.Go.ChangeSpec) : _root_.Go.OpenSpec := { _root_.Go.OpenSpec.ofChange s with cond := some uptoSmall }

/-- 'laws.FnStroke', WHERE WHAT IT READS IS OF BULK AT MOST 1048576: true; the input reads as it did. -/
def fnStrokeUptoRow : OpenClaim := { program := "ytdokdlcmplggfaadoor", sum := "99943220f7df1b979f504a0513e473c2337f8c962257444da110e7221f0af3a8", func := "loop.example/peoplesnumerals/laws.FnStroke", spec := "fnStroke", named := ["loop.example/peoplesnumerals/impl.digitKinds"], apart := false, laid := [("loop.example/peoplesnumerals/impl.digitKinds", laid_loop_example_peoplesnumerals_impl_digitKinds)], narrowed := true }
def FnStrokeUptoSaid : Prop := fnStrokeUptoRow.holds Tryd.pinned (OpenSpec.upto fnStrokeSpec)

/-- 'laws.FnStrokeRead', WHERE WHAT IT READS IS OF BULK AT MOST 1048576: true; the input reads as it did. -/
def fnStrokeReadUptoRow : OpenClaim := { program := "ytdokdlcmplggfaadoor", sum := "99943220f7df1b979f504a0513e473c2337f8c962257444da110e7221f0af3a8", func := "loop.example/peoplesnumerals/laws.FnStrokeRead", spec := "fnStrokeRead", named := ["loop.example/peoplesnumerals/impl.digitKinds"], apart := false, laid := [("loop.example/peoplesnumerals/impl.digitKinds", laid_loop_example_peoplesnumerals_impl_digitKinds)], narrowed := true }
def FnStrokeReadUptoSaid : Prop := fnStrokeReadUptoRow.holds Tryd.pinned (OpenSpec.upto fnStrokeReadSpec)

/-- 'laws.FnStrokes', WHERE WHAT IT READS IS OF BULK AT MOST 1048576: true; the input reads as it did. -/
def fnStrokesUptoRow : OpenClaim := { program := "ytdokdlcmplggfaadoor", sum := "99943220f7df1b979f504a0513e473c2337f8c962257444da110e7221f0af3a8", func := "loop.example/peoplesnumerals/laws.FnStrokes", spec := "fnStrokes", unfollowed := true, recurses := true, named := ["loop.example/peoplesnumerals/impl.digitKinds", "loop.example/peoplesnumerals/impl.turnedPlaces", "loop.example/peoplesnumerals/impl.mirroredPlaces"], apart := false, laid := [("loop.example/peoplesnumerals/impl.turnedPlaces", laid_loop_example_peoplesnumerals_impl_turnedPlaces), ("loop.example/peoplesnumerals/impl.mirroredPlaces", laid_loop_example_peoplesnumerals_impl_mirroredPlaces), ("loop.example/peoplesnumerals/impl.digitKinds", laid_loop_example_peoplesnumerals_impl_digitKinds)], narrowed := true }
def FnStrokesUptoSaid : Prop := fnStrokesUptoRow.holds Tryd.pinned (OpenSpec.upto fnStrokesSpec)

/-- 'laws.FnStrokeTurned', WHERE WHAT IT READS IS OF BULK AT MOST 1048576: true; the input reads as it did. -/
def fnStrokeTurnedUptoRow : OpenClaim := { program := "ytdokdlcmplggfaadoor", sum := "99943220f7df1b979f504a0513e473c2337f8c962257444da110e7221f0af3a8", func := "loop.example/peoplesnumerals/laws.FnStrokeTurned", spec := "fnStrokeTurned", unfollowed := true, recurses := true, named := ["loop.example/peoplesnumerals/impl.digitKinds", "loop.example/peoplesnumerals/impl.turnedPlaces", "loop.example/peoplesnumerals/impl.mirroredPlaces"], apart := false, laid := [("loop.example/peoplesnumerals/impl.turnedPlaces", laid_loop_example_peoplesnumerals_impl_turnedPlaces), ("loop.example/peoplesnumerals/impl.mirroredPlaces", laid_loop_example_peoplesnumerals_impl_mirroredPlaces), ("loop.example/peoplesnumerals/impl.digitKinds", laid_loop_example_peoplesnumerals_impl_digitKinds)], narrowed := true }
def FnStrokeTurnedUptoSaid : Prop := fnStrokeTurnedUptoRow.holds Tryd.pinned (OpenSpec.upto fnStrokeTurnedSpec)

/-- 'laws.FnMirror', WHERE WHAT IT READS IS OF BULK AT MOST 1048576: true; the input reads as it did. -/
def fnMirrorUptoRow : OpenClaim := { program := "ytdokdlcmplggfaadoor", sum := "99943220f7df1b979f504a0513e473c2337f8c962257444da110e7221f0af3a8", func := "loop.example/peoplesnumerals/laws.FnMirror", spec := "fnMirror", unfollowed := true, recurses := true, named := ["loop.example/peoplesnumerals/impl.digitKinds", "loop.example/peoplesnumerals/impl.mirroredPlaces"], apart := false, laid := [("loop.example/peoplesnumerals/impl.mirroredPlaces", laid_loop_example_peoplesnumerals_impl_mirroredPlaces), ("loop.example/peoplesnumerals/impl.digitKinds", laid_loop_example_peoplesnumerals_impl_digitKinds)], narrowed := true }
def FnMirrorUptoSaid : Prop := fnMirrorUptoRow.holds Tryd.pinned (OpenSpec.upto fnMirrorSpec)

/-- 'laws.FnNear', WHERE WHAT IT READS IS OF BULK AT MOST 1048576: true; the input reads as it did. -/
def fnNearUptoRow : OpenClaim := { program := "ytdokdlcmplggfaadoor", sum := "99943220f7df1b979f504a0513e473c2337f8c962257444da110e7221f0af3a8", func := "loop.example/peoplesnumerals/laws.FnNear", spec := "fnNear", named := ["loop.example/peoplesnumerals/impl.digitKinds"], apart := false, laid := [("loop.example/peoplesnumerals/impl.digitKinds", laid_loop_example_peoplesnumerals_impl_digitKinds)], narrowed := true }
def FnNearUptoSaid : Prop := fnNearUptoRow.holds Tryd.pinned (OpenSpec.upto fnNearSpec)

/-- 'laws.FnExactStrokeOf', WHERE WHAT IT READS IS OF BULK AT MOST 1048576: true; the input reads as it did. -/
def fnExactStrokeOfUptoRow : OpenClaim := { program := "ytdokdlcmplggfaadoor", sum := "99943220f7df1b979f504a0513e473c2337f8c962257444da110e7221f0af3a8", func := "loop.example/peoplesnumerals/laws.FnExactStrokeOf", spec := "fnExactStrokeOf", named := ["loop.example/peoplesnumerals/impl.digitKinds"], apart := false, laid := [("loop.example/peoplesnumerals/impl.digitKinds", laid_loop_example_peoplesnumerals_impl_digitKinds)], narrowed := true }
def FnExactStrokeOfUptoSaid : Prop := fnExactStrokeOfUptoRow.holds Tryd.pinned (OpenSpec.upto fnExactStrokeOfSpec)

/-- 'laws.FnExactStrokeRead', WHERE WHAT IT READS IS OF BULK AT MOST 1048576: true; the input reads as it did. -/
def fnExactStrokeReadUptoRow : OpenClaim := { program := "ytdokdlcmplggfaadoor", sum := "99943220f7df1b979f504a0513e473c2337f8c962257444da110e7221f0af3a8", func := "loop.example/peoplesnumerals/laws.FnExactStrokeRead", spec := "fnExactStrokeRead", named := ["loop.example/peoplesnumerals/impl.digitKinds"], apart := false, laid := [("loop.example/peoplesnumerals/impl.digitKinds", laid_loop_example_peoplesnumerals_impl_digitKinds)], narrowed := true }
def FnExactStrokeReadUptoSaid : Prop := fnExactStrokeReadUptoRow.holds Tryd.pinned (OpenSpec.upto fnExactStrokeReadSpec)

/-- 'laws.FnExactStrokeCount', WHERE WHAT IT READS IS OF BULK AT MOST 1048576: true; the input reads as it did. -/
def fnExactStrokeCountUptoRow : OpenClaim := { program := "ytdokdlcmplggfaadoor", sum := "99943220f7df1b979f504a0513e473c2337f8c962257444da110e7221f0af3a8", func := "loop.example/peoplesnumerals/laws.FnExactStrokeCount", spec := "fnExactStrokeCount", named := ["loop.example/peoplesnumerals/impl.digitKinds"], apart := false, laid := [("loop.example/peoplesnumerals/impl.digitKinds", laid_loop_example_peoplesnumerals_impl_digitKinds)], narrowed := true }
def FnExactStrokeCountUptoSaid : Prop := fnExactStrokeCountUptoRow.holds Tryd.pinned (OpenSpec.upto fnExactStrokeCountSpec)

/-- 'laws.FnExactStrokeTurned', WHERE WHAT IT READS IS OF BULK AT MOST 1048576: true; the input reads as it did. -/
def fnExactStrokeTurnedUptoRow : OpenClaim := { program := "ytdokdlcmplggfaadoor", sum := "99943220f7df1b979f504a0513e473c2337f8c962257444da110e7221f0af3a8", func := "loop.example/peoplesnumerals/laws.FnExactStrokeTurned", spec := "fnExactStrokeTurned", unfollowed := true, recurses := true, named := ["loop.example/peoplesnumerals/impl.digitKinds", "loop.example/peoplesnumerals/impl.turnedPlaces"], apart := false, laid := [("loop.example/peoplesnumerals/impl.turnedPlaces", laid_loop_example_peoplesnumerals_impl_turnedPlaces), ("loop.example/peoplesnumerals/impl.digitKinds", laid_loop_example_peoplesnumerals_impl_digitKinds)], narrowed := true }
def FnExactStrokeTurnedUptoSaid : Prop := fnExactStrokeTurnedUptoRow.holds Tryd.pinned (OpenSpec.upto fnExactStrokeTurnedSpec)

/-- 'laws.FnExactStrokeMirror', WHERE WHAT IT READS IS OF BULK AT MOST 1048576: true; the input reads as it did. -/
def fnExactStrokeMirrorUptoRow : OpenClaim := { program := "ytdokdlcmplggfaadoor", sum := "99943220f7df1b979f504a0513e473c2337f8c962257444da110e7221f0af3a8", func := "loop.example/peoplesnumerals/laws.FnExactStrokeMirror", spec := "fnExactStrokeMirror", unfollowed := true, recurses := true, named := ["loop.example/peoplesnumerals/impl.digitKinds", "loop.example/peoplesnumerals/impl.mirroredPlaces"], apart := false, laid := [("loop.example/peoplesnumerals/impl.mirroredPlaces", laid_loop_example_peoplesnumerals_impl_mirroredPlaces), ("loop.example/peoplesnumerals/impl.digitKinds", laid_loop_example_peoplesnumerals_impl_digitKinds)], narrowed := true }
def FnExactStrokeMirrorUptoSaid : Prop := fnExactStrokeMirrorUptoRow.holds Tryd.pinned (OpenSpec.upto fnExactStrokeMirrorSpec)

/-- 'laws.FnExactStrokeNear', WHERE WHAT IT READS IS OF BULK AT MOST 1048576: true; the input reads as it did. -/
def fnExactStrokeNearUptoRow : OpenClaim := { program := "ytdokdlcmplggfaadoor", sum := "99943220f7df1b979f504a0513e473c2337f8c962257444da110e7221f0af3a8", func := "loop.example/peoplesnumerals/laws.FnExactStrokeNear", spec := "fnExactStrokeNear", named := ["loop.example/peoplesnumerals/impl.digitKinds"], apart := false, laid := [("loop.example/peoplesnumerals/impl.digitKinds", laid_loop_example_peoplesnumerals_impl_digitKinds)], narrowed := true }
def FnExactStrokeNearUptoSaid : Prop := fnExactStrokeNearUptoRow.holds Tryd.pinned (OpenSpec.upto fnExactStrokeNearSpec)

end Rows
end Go.Proofs.YtdokdlcmplggfaaDoor
