/-
  DERIVED. GIVEN WITH THE SEED: THE PROGRAM's TIES (one call each: nine closed facts by the kernel) AND EACH ROW's TIE, after the 31st guide's Derived/Test/Toyas{Tie, Card}.lean. No idea stands in it: it is a product of the set-up. Laid BY PROGRAM, IN A SANDBOX (cutbox-door.mjs). By AI agents, Wed Nov 11 2026. No macro, syntax, notation, axiom, sorry.
-/
import Derived.Test.YtdokdlcmplggfaaDoorRows
import Derived.LaidByTextLater
import Derived.SevenTiedAt
import Derived.LaidSub
import Derived.LaidOnce
namespace Go.Proofs.YtdokdlcmplggfaaDoor
open Go
set_option maxRecDepth 100000
theorem seatTie1 : Tryd.prog.laidByTextLater [("loop.example/peoplesnumerals/impl.turnedPlaces", Rows.laid_loop_example_peoplesnumerals_impl_turnedPlaces), ("loop.example/peoplesnumerals/impl.mirroredPlaces", Rows.laid_loop_example_peoplesnumerals_impl_mirroredPlaces), ("loop.example/peoplesnumerals/impl.digitKinds", Rows.laid_loop_example_peoplesnumerals_impl_digitKinds)] [.data, .data, .data] true :=
  Program.laidByTextLater_by_one 34 8 11 (by kernel_rfl) (by kernel_rfl) (by kernel_rfl) (by kernel_rfl) (by kernel_rfl) (by kernel_rfl) (fun _ _ => by kernel_rfl)
theorem noOwnUnsafe : Tryd.pinned.checked.prog.headLifts.contains "ownunsafe" = false := by kernel_rfl
theorem tie : Tryd.prog.laidByTextLater [("loop.example/peoplesnumerals/impl.digitKinds", Rows.laid_loop_example_peoplesnumerals_impl_digitKinds)] [.data] true :=
  Program.laidByTextLater.sub seatTie1 ["loop.example/peoplesnumerals/impl.digitKinds"] (by kernel_rfl) (by kernel_rfl)
theorem fnStroke_row_tie : Rows.fnStrokeRow.laidByTextAt .later Tryd.pinned [.data] true :=
  OpenClaim.laidByTextAt_later rfl rfl tie noOwnUnsafe
theorem fnStrokeRead_row_tie : Rows.fnStrokeReadRow.laidByTextAt .later Tryd.pinned [.data] true :=
  OpenClaim.laidByTextAt_later rfl rfl tie noOwnUnsafe
theorem fnNear_row_tie : Rows.fnNearRow.laidByTextAt .later Tryd.pinned [.data] true :=
  OpenClaim.laidByTextAt_later rfl rfl tie noOwnUnsafe
theorem fnExactStrokeOf_row_tie : Rows.fnExactStrokeOfRow.laidByTextAt .later Tryd.pinned [.data] true :=
  OpenClaim.laidByTextAt_later rfl rfl tie noOwnUnsafe
theorem fnExactStrokeRead_row_tie : Rows.fnExactStrokeReadRow.laidByTextAt .later Tryd.pinned [.data] true :=
  OpenClaim.laidByTextAt_later rfl rfl tie noOwnUnsafe
theorem fnExactStrokeCount_row_tie : Rows.fnExactStrokeCountRow.laidByTextAt .later Tryd.pinned [.data] true :=
  OpenClaim.laidByTextAt_later rfl rfl tie noOwnUnsafe
theorem fnExactStrokeNear_row_tie : Rows.fnExactStrokeNearRow.laidByTextAt .later Tryd.pinned [.data] true :=
  OpenClaim.laidByTextAt_later rfl rfl tie noOwnUnsafe
theorem tie2 : Tryd.prog.laidByTextLater [("loop.example/peoplesnumerals/impl.turnedPlaces", Rows.laid_loop_example_peoplesnumerals_impl_turnedPlaces), ("loop.example/peoplesnumerals/impl.mirroredPlaces", Rows.laid_loop_example_peoplesnumerals_impl_mirroredPlaces), ("loop.example/peoplesnumerals/impl.digitKinds", Rows.laid_loop_example_peoplesnumerals_impl_digitKinds)] [.data, .data, .data] true :=
  Program.laidByTextLater.sub seatTie1 ["loop.example/peoplesnumerals/impl.turnedPlaces", "loop.example/peoplesnumerals/impl.mirroredPlaces", "loop.example/peoplesnumerals/impl.digitKinds"] (by kernel_rfl) (by kernel_rfl)
theorem fnStrokes_row_tie : Rows.fnStrokesRow.laidByTextAt .later Tryd.pinned [.data, .data, .data] true :=
  OpenClaim.laidByTextAt_later rfl rfl tie2 noOwnUnsafe
theorem fnStrokeTurned_row_tie : Rows.fnStrokeTurnedRow.laidByTextAt .later Tryd.pinned [.data, .data, .data] true :=
  OpenClaim.laidByTextAt_later rfl rfl tie2 noOwnUnsafe
theorem tie3 : Tryd.prog.laidByTextLater [("loop.example/peoplesnumerals/impl.mirroredPlaces", Rows.laid_loop_example_peoplesnumerals_impl_mirroredPlaces), ("loop.example/peoplesnumerals/impl.digitKinds", Rows.laid_loop_example_peoplesnumerals_impl_digitKinds)] [.data, .data] true :=
  Program.laidByTextLater.sub seatTie1 ["loop.example/peoplesnumerals/impl.mirroredPlaces", "loop.example/peoplesnumerals/impl.digitKinds"] (by kernel_rfl) (by kernel_rfl)
theorem fnMirror_row_tie : Rows.fnMirrorRow.laidByTextAt .later Tryd.pinned [.data, .data] true :=
  OpenClaim.laidByTextAt_later rfl rfl tie3 noOwnUnsafe
theorem fnExactStrokeMirror_row_tie : Rows.fnExactStrokeMirrorRow.laidByTextAt .later Tryd.pinned [.data, .data] true :=
  OpenClaim.laidByTextAt_later rfl rfl tie3 noOwnUnsafe
theorem tie4 : Tryd.prog.laidByTextLater [("loop.example/peoplesnumerals/impl.turnedPlaces", Rows.laid_loop_example_peoplesnumerals_impl_turnedPlaces), ("loop.example/peoplesnumerals/impl.digitKinds", Rows.laid_loop_example_peoplesnumerals_impl_digitKinds)] [.data, .data] true :=
  Program.laidByTextLater.sub seatTie1 ["loop.example/peoplesnumerals/impl.turnedPlaces", "loop.example/peoplesnumerals/impl.digitKinds"] (by kernel_rfl) (by kernel_rfl)
theorem fnExactStrokeTurned_row_tie : Rows.fnExactStrokeTurnedRow.laidByTextAt .later Tryd.pinned [.data, .data] true :=
  OpenClaim.laidByTextAt_later rfl rfl tie4 noOwnUnsafe
theorem fnStrokeUpto_row_tie : Rows.fnStrokeUptoRow.laidByTextAt .later Tryd.pinned [.data] true :=
  OpenClaim.laidByTextAt_later rfl rfl tie noOwnUnsafe
theorem fnStrokeReadUpto_row_tie : Rows.fnStrokeReadUptoRow.laidByTextAt .later Tryd.pinned [.data] true :=
  OpenClaim.laidByTextAt_later rfl rfl tie noOwnUnsafe
theorem fnStrokesUpto_row_tie : Rows.fnStrokesUptoRow.laidByTextAt .later Tryd.pinned [.data, .data, .data] true :=
  OpenClaim.laidByTextAt_later rfl rfl tie2 noOwnUnsafe
theorem fnStrokeTurnedUpto_row_tie : Rows.fnStrokeTurnedUptoRow.laidByTextAt .later Tryd.pinned [.data, .data, .data] true :=
  OpenClaim.laidByTextAt_later rfl rfl tie2 noOwnUnsafe
theorem fnMirrorUpto_row_tie : Rows.fnMirrorUptoRow.laidByTextAt .later Tryd.pinned [.data, .data] true :=
  OpenClaim.laidByTextAt_later rfl rfl tie3 noOwnUnsafe
theorem fnNearUpto_row_tie : Rows.fnNearUptoRow.laidByTextAt .later Tryd.pinned [.data] true :=
  OpenClaim.laidByTextAt_later rfl rfl tie noOwnUnsafe
theorem fnExactStrokeOfUpto_row_tie : Rows.fnExactStrokeOfUptoRow.laidByTextAt .later Tryd.pinned [.data] true :=
  OpenClaim.laidByTextAt_later rfl rfl tie noOwnUnsafe
theorem fnExactStrokeReadUpto_row_tie : Rows.fnExactStrokeReadUptoRow.laidByTextAt .later Tryd.pinned [.data] true :=
  OpenClaim.laidByTextAt_later rfl rfl tie noOwnUnsafe
theorem fnExactStrokeCountUpto_row_tie : Rows.fnExactStrokeCountUptoRow.laidByTextAt .later Tryd.pinned [.data] true :=
  OpenClaim.laidByTextAt_later rfl rfl tie noOwnUnsafe
theorem fnExactStrokeTurnedUpto_row_tie : Rows.fnExactStrokeTurnedUptoRow.laidByTextAt .later Tryd.pinned [.data, .data] true :=
  OpenClaim.laidByTextAt_later rfl rfl tie4 noOwnUnsafe
theorem fnExactStrokeMirrorUpto_row_tie : Rows.fnExactStrokeMirrorUptoRow.laidByTextAt .later Tryd.pinned [.data, .data] true :=
  OpenClaim.laidByTextAt_later rfl rfl tie3 noOwnUnsafe
theorem fnExactStrokeNearUpto_row_tie : Rows.fnExactStrokeNearUptoRow.laidByTextAt .later Tryd.pinned [.data] true :=
  OpenClaim.laidByTextAt_later rfl rfl tie noOwnUnsafe
end Go.Proofs.YtdokdlcmplggfaaDoor
