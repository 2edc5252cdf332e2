/- The exact laws of chapter 7: their walks (printed by genv.py). -/
import Derived.Test.YtdokdlcmplggfaaDoorVD
import Derived.Test.YtdokdlcmplggfaaDoorVX
namespace Go.Proofs.YtdokdlcmplggfaaDoor
open Go.RowKit
set_option linter.unusedVariables false
set_option maxRecDepth 100000
theorem srR_form (s : Int) : ∃ (x : Int) (b : Bool), srR s = .tuple #[.int .i64 x, .bool b] := by
  unfold srR
  split
  · exact ⟨_, _, rfl⟩
  · exact ⟨0, _, rfl⟩
theorem smR_form (k : Int) : ∃ (x : Nat) (b : Bool), smR k = .tuple #[.int .i64 x, .bool b] := by
  unfold smR
  split
  · exact ⟨_, _, rfl⟩
  · exact ⟨0, _, rfl⟩
theorem nrV_form (m n : Int) : ∃ (x : Nat) (b : Bool), nrV m n = .tuple #[.int .i64 x, .bool b] := by
  unfold nrV
  split
  · exact ⟨_, _, rfl⟩
  · exact ⟨0, _, rfl⟩
set_option maxHeartbeats 1000000 in
theorem wFnExactStrokeOf (x0 : Int) (u0 : World) (h0 : (Lit.int .i64 x0).wf = true) (hTB : TBs false false u0) : Calls Tryd.prog 9 #[.int .i64 x0] u0 fun e w' => e = .returned (.bool true) ∧ Below u0.heap.size u0 w' := by
  have wf0 := st_ok h0
  have HR := Lib.hid hTB
  clear h0 hTB
  obtain ⟨x, b, hx⟩ := skR_form x0 vsg
  have C1 := Lib.hid (fun w : World => sStrokeOf_any x0 w)
  have C2 := Lib.hid (fun (w : World) (hT : TBs false false w) => iStrokeOf_any x0 w wf0 hT)
  rw [hx] at C1 C2
  clear hx wf0
  go_enter Tryd.func9, Tryd.ntmps9
  go_wp2_with fail
  refine (C1.out _).mono ?_
  rintro e u1 ⟨rfl, hb⟩
  have G1 := Lib.hid hb; clear hb C1
  go_wp2_with fail
  refine (C2.out _ (HR.out.step G1.out)).mono ?_
  rintro e u2 ⟨rfl, hb⟩
  have G2 := Lib.hid (bel_chain G1.out hb); clear hb C2 G1
  go_wp2_with fail
  go_ret
  exact ⟨rfl, G2.out⟩
set_option maxHeartbeats 1000000 in
theorem wFnExactStrokeRead (x0 : Int) (u0 : World) (h0 : (Lit.int .i64 x0).wf = true) (hTB : TBs false false u0) : Calls Tryd.prog 10 #[.int .i64 x0] u0 fun e w' => e = .returned (.bool true) ∧ Below u0.heap.size u0 w' := by
  have wf0 := st_ok h0
  have HR := Lib.hid hTB
  clear h0 hTB
  obtain ⟨x, b, hx⟩ := srR_form x0
  have C1 := Lib.hid (fun w : World => sStrokeRead_any x0 w)
  have C2 := Lib.hid (fun (w : World) (hT : TBs false false w) => iStrokeRead_any x0 w wf0 hT)
  rw [hx] at C1 C2
  clear hx wf0
  go_enter Tryd.func10, Tryd.ntmps10
  go_wp2_with fail
  refine (C1.out _).mono ?_
  rintro e u1 ⟨rfl, hb⟩
  have G1 := Lib.hid hb; clear hb C1
  go_wp2_with fail
  refine (C2.out _ (HR.out.step G1.out)).mono ?_
  rintro e u2 ⟨rfl, hb⟩
  have G2 := Lib.hid (bel_chain G1.out hb); clear hb C2 G1
  go_wp2_with fail
  go_ret
  exact ⟨rfl, G2.out⟩
set_option maxHeartbeats 1000000 in
theorem wFnExactStrokeCount (x0 : Int) (u0 : World) (h0 : (Lit.int .i64 x0).wf = true) (hTB : TBs false false u0) : Calls Tryd.prog 11 #[.int .i64 x0] u0 fun e w' => e = .returned (.bool true) ∧ Below u0.heap.size u0 w' := by
  have wf0 := st_ok h0
  have HR := Lib.hid hTB
  clear h0 hTB
  obtain ⟨x, b, hx⟩ := skR_form x0 (fun u => bc (vsg u))
  have C1 := Lib.hid (fun w : World => sStrokeCount_any x0 w)
  have C2 := Lib.hid (fun (w : World) (hT : TBs false false w) => iStrokeCount_any x0 w wf0 hT)
  rw [hx] at C1 C2
  clear hx wf0
  go_enter Tryd.func11, Tryd.ntmps11
  go_wp2_with fail
  refine (C1.out _).mono ?_
  rintro e u1 ⟨rfl, hb⟩
  have G1 := Lib.hid hb; clear hb C1
  go_wp2_with fail
  refine (C2.out _ (HR.out.step G1.out)).mono ?_
  rintro e u2 ⟨rfl, hb⟩
  have G2 := Lib.hid (bel_chain G1.out hb); clear hb C2 G1
  go_wp2_with fail
  go_ret
  exact ⟨rfl, G2.out⟩
set_option maxHeartbeats 1000000 in
theorem wFnExactStrokeTurned (x0 : Int) (u0 : World) (h0 : (Lit.int .i64 x0).wf = true) (hTB : TBs true false u0) : Calls Tryd.prog 12 #[.int .i64 x0] u0 fun e w' => e = .returned (.bool true) ∧ Below u0.heap.size u0 w' := by
  have wf0 := st_ok h0
  have HR := Lib.hid hTB
  clear h0 hTB
  obtain ⟨x, b, hx⟩ := skR_form x0 tnd
  have C1 := Lib.hid (fun w : World => sStrokeTurned_any x0 w)
  have C2 := Lib.hid (fun (w : World) (hT : TBs true false w) => iStrokeTurned_any x0 w wf0 hT)
  rw [hx] at C1 C2
  clear hx wf0
  go_enter Tryd.func12, Tryd.ntmps12
  go_wp2_with fail
  refine (C1.out _).mono ?_
  rintro e u1 ⟨rfl, hb⟩
  have G1 := Lib.hid hb; clear hb C1
  go_wp2_with fail
  refine (C2.out _ (HR.out.step G1.out)).mono ?_
  rintro e u2 ⟨rfl, hb⟩
  have G2 := Lib.hid (bel_chain G1.out hb); clear hb C2 G1
  go_wp2_with fail
  go_ret
  exact ⟨rfl, G2.out⟩
set_option maxHeartbeats 1000000 in
theorem wFnExactStrokeMirror (x0 : Int) (u0 : World) (h0 : (Lit.int .i64 x0).wf = true) (hTB : TBs false true u0) : Calls Tryd.prog 13 #[.int .i64 x0] u0 fun e w' => e = .returned (.bool true) ∧ Below u0.heap.size u0 w' := by
  have wf0 := st_ok h0
  have HR := Lib.hid hTB
  clear h0 hTB
  obtain ⟨x, b, hx⟩ := skR_form x0 mrd
  have C1 := Lib.hid (fun w : World => sStrokeMirror_any x0 w)
  have C2 := Lib.hid (fun (w : World) (hT : TBs false true w) => iStrokeMirror_any x0 w wf0 hT)
  rw [hx] at C1 C2
  clear hx wf0
  go_enter Tryd.func13, Tryd.ntmps13
  go_wp2_with fail
  refine (C1.out _).mono ?_
  rintro e u1 ⟨rfl, hb⟩
  have G1 := Lib.hid hb; clear hb C1
  go_wp2_with fail
  refine (C2.out _ (HR.out.step G1.out)).mono ?_
  rintro e u2 ⟨rfl, hb⟩
  have G2 := Lib.hid (bel_chain G1.out hb); clear hb C2 G1
  go_wp2_with fail
  go_ret
  exact ⟨rfl, G2.out⟩
set_option maxHeartbeats 1000000 in
theorem wFnExactStrokeNear (x0 x1 : Int) (u0 : World) (h0 : (Lit.int .i64 x0).wf = true) (h1 : (Lit.int .i64 x1).wf = true) (hTB : TBs false false u0) : Calls Tryd.prog 14 #[.int .i64 x0, .int .i64 x1] u0 fun e w' => e = .returned (.bool true) ∧ Below u0.heap.size u0 w' := by
  have wf0 := st_ok h0
  have wf1 := st_ok h1
  have HR := Lib.hid hTB
  clear h0 h1 hTB
  obtain ⟨x, b, hx⟩ := nrV_form x0 x1
  have C1 := Lib.hid (fun w : World => sStrokeNear_any x0 x1 w)
  have C2 := Lib.hid (fun (w : World) (hT : TBs false false w) => iStrokeNear_any x0 x1 w wf0 wf1 hT)
  rw [hx] at C1 C2
  clear hx wf0 wf1
  go_enter Tryd.func14, Tryd.ntmps14
  go_wp2_with fail
  refine (C1.out _).mono ?_
  rintro e u1 ⟨rfl, hb⟩
  have G1 := Lib.hid hb; clear hb C1
  go_wp2_with fail
  refine (C2.out _ (HR.out.step G1.out)).mono ?_
  rintro e u2 ⟨rfl, hb⟩
  have G2 := Lib.hid (bel_chain G1.out hb); clear hb C2 G1
  go_wp2_with fail
  go_ret
  exact ⟨rfl, G2.out⟩
end Go.Proofs.YtdokdlcmplggfaaDoor
