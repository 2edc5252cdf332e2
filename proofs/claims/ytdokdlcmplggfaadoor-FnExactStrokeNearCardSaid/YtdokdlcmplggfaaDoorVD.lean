/- The draws of chapter 7 (package spec). -/
import Derived.Test.YtdokdlcmplggfaaDoorVC
import Derived.Test.YtdokdlcmplggfaaDoorDs
namespace Go.Proofs.YtdokdlcmplggfaaDoor
open Go.RowKit
set_option linter.unusedVariables false
set_option maxRecDepth 100000
def StOk (x : Int) : Prop := -9223372036854775808 ≤ x ∧ x ≤ 9223372036854775807
theorem st_ok {x : Int} (h : (Lit.int .i64 x).wf = true) : StOk x := by
  simp only [Lit.wf, Bool.and_eq_true, decide_eq_true_eq] at h
  exact h
theorem great_any (r : Nat) (a : Option Addr) (len cap : Nat) (p : Nat) (w : World) (h : Rd w r a len cap p) (hp : p ≤ 900000) :
    Calls Tryd.prog 40 #[.pointer (some ⟨r, 0, none⟩)] w fun e w' => ∃ (x : Int) (p' : Nat), -20000 ≤ x ∧ x ≤ 20000 ∧ e = .returned (.int .i64 x) ∧ Rd w' r a len cap p' ∧ p' ≤ p + 6 ∧ w.grownBy w' (some r) := by
  have H := Lib.hid h; clear h
  go_enter Tryd.func40, Tryd.ntmps40
  go_wp2_with fail
  refine (pick_any r a len cap p _ _ H.out (by omega) (by omega) (by omega)).mono ?_
  rintro e w1 ⟨x, hx0, hx1, rfl, hr1, g1⟩
  have H1 := Lib.hid hr1; have G1 := Lib.hid g1; clear hr1 g1
  go_wp2_with fail
  refine (pick_any r a len cap _ _ _ H1.out (by omega) (by omega) (by omega)).mono ?_
  rintro e w2 ⟨y, hy0, hy1, rfl, hr2, g2⟩
  have H2 := Lib.hid hr2; have G2 := Lib.hid (grown_trans G1.out g2); clear hr2 g2
  go_wp2_with fail
  refine (pick_any r a len cap _ _ _ H2.out (by omega) (by omega) (by omega)).mono ?_
  rintro e w3 ⟨z, hz0, hz1, rfl, hr3, g3⟩
  have H3 := Lib.hid hr3; have G3 := Lib.hid (grown_trans G2.out g3); clear hr3 g3
  go_wp2_with fail
  refine (pick_any r a len cap _ _ _ H3.out (by omega) (by omega) (by omega)).mono ?_
  rintro e w4 ⟨u, hu0, hu1, rfl, hr4, g4⟩
  have H4 := Lib.hid hr4; have G4 := Lib.hid (grown_trans G3.out g4); clear hr4 g4
  go_wp2_with fail
  refine (pick_any r a len cap _ _ _ H4.out (by omega) (by omega) (by omega)).mono ?_
  rintro e w5 ⟨v, hv0, hv1, rfl, hr5, g5⟩
  have H5 := Lib.hid hr5; have G5 := Lib.hid (grown_trans G4.out g5); clear hr5 g5
  go_wp2_with fail
  refine (pick_any r a len cap _ _ _ H5.out (by omega) (by omega) (by omega)).mono ?_
  rintro e w6 ⟨t, ht0, ht1, rfl, hr6, g6⟩
  have H6 := Lib.hid hr6; have G6 := Lib.hid (grown_trans G5.out g6); clear hr6 g6
  go_wp2_with fail
  go_ret
  exact ⟨_, p + 6, by omega, by omega, rfl, H6.out, by omega, G6.out⟩
theorem l92Four_any (a : Option Addr) (len cap : Nat) (zs : List Int) (w : World) (h : IsRow .u8 w a len cap zs) :
    Calls Tryd.prog 33 #[.slice a len cap] w fun e w' => ∃ x : Int, -20000 ≤ x ∧ x ≤ 20000 ∧ e = .returned (.int .i64 x) ∧ Below w.heap.size w w' := by
  have H := Lib.hid h; clear h
  go_enter Tryd.func33, Tryd.ntmps33
  go_wp2_with fail
  refine (l6Open_any a len cap zs _ H.out).mono ?_
  rintro e w1 ⟨a', l, c, rfl, hr, g1⟩
  have H1 := Lib.hid hr; clear hr
  go_wp2_with fail
  refine (great_any _ a' l c 0 _ H1.out (by omega)).mono ?_
  rintro e w2 ⟨x, p', hx0, hx1, rfl, hr2, hp', g2⟩
  go_wp2_with fail
  go_ret
  exact ⟨x, hx0, hx1, rfl, bel_grown g1 g2 g1.size (Nat.le_refl _)⟩
theorem drawStrokeOf_any (a : Option Addr) (len cap : Nat) (zs : List Int) (w : World) (h : IsRow .u8 w a len cap zs) :
    Calls Tryd.prog 15 #[.slice a len cap] w fun e w' => ∃ x : Int, -20000 ≤ x ∧ x ≤ 20000 ∧ e = .returned (.int .i64 x) ∧ Below w.heap.size w w' := by
  have C := Lib.hid (l92Four_any a len cap zs w h); clear h
  go_enter Tryd.func15, Tryd.ntmps15
  go_wp2_with fail
  refine C.out.mono ?_
  rintro e w1 ⟨x, hx0, hx1, rfl, g1⟩
  have G1 := Lib.hid g1; clear g1 C
  go_wp2_with fail
  go_ret
  exact ⟨x, hx0, hx1, rfl, G1.out⟩
theorem drawStrokeCount_any (a : Option Addr) (len cap : Nat) (zs : List Int) (w : World) (h : IsRow .u8 w a len cap zs) :
    Calls Tryd.prog 21 #[.slice a len cap] w fun e w' => ∃ x : Int, -20000 ≤ x ∧ x ≤ 20000 ∧ e = .returned (.int .i64 x) ∧ Below w.heap.size w w' := by
  have C := Lib.hid (l92Four_any a len cap zs w h); clear h
  go_enter Tryd.func21, Tryd.ntmps21
  go_wp2_with fail
  refine C.out.mono ?_
  rintro e w1 ⟨x, hx0, hx1, rfl, g1⟩
  have G1 := Lib.hid g1; clear g1 C
  go_wp2_with fail
  go_ret
  exact ⟨x, hx0, hx1, rfl, G1.out⟩
theorem drawStrokeTurned_any (a : Option Addr) (len cap : Nat) (zs : List Int) (w : World) (h : IsRow .u8 w a len cap zs) :
    Calls Tryd.prog 26 #[.slice a len cap] w fun e w' => ∃ x : Int, -20000 ≤ x ∧ x ≤ 20000 ∧ e = .returned (.int .i64 x) ∧ Below w.heap.size w w' := by
  have C := Lib.hid (l92Four_any a len cap zs w h); clear h
  go_enter Tryd.func26, Tryd.ntmps26
  go_wp2_with fail
  refine C.out.mono ?_
  rintro e w1 ⟨x, hx0, hx1, rfl, g1⟩
  have G1 := Lib.hid g1; clear g1 C
  go_wp2_with fail
  go_ret
  exact ⟨x, hx0, hx1, rfl, G1.out⟩
theorem drawStrokeMirror_any (a : Option Addr) (len cap : Nat) (zs : List Int) (w : World) (h : IsRow .u8 w a len cap zs) :
    Calls Tryd.prog 28 #[.slice a len cap] w fun e w' => ∃ x : Int, -20000 ≤ x ∧ x ≤ 20000 ∧ e = .returned (.int .i64 x) ∧ Below w.heap.size w w' := by
  have C := Lib.hid (l92Four_any a len cap zs w h); clear h
  go_enter Tryd.func28, Tryd.ntmps28
  go_wp2_with fail
  refine C.out.mono ?_
  rintro e w1 ⟨x, hx0, hx1, rfl, g1⟩
  have G1 := Lib.hid g1; clear g1 C
  go_wp2_with fail
  go_ret
  exact ⟨x, hx0, hx1, rfl, G1.out⟩
theorem drawStrokeNear_any (a : Option Addr) (len cap : Nat) (zs : List Int) (w : World) (h : IsRow .u8 w a len cap zs) :
    Calls Tryd.prog 30 #[.slice a len cap] w fun e w' => ∃ x y : Int, -20000 ≤ x ∧ x ≤ 20000 ∧ -20000 ≤ y ∧ y ≤ 20000 ∧ e = .returned (.tuple #[.int .i64 x, .int .i64 y]) ∧ Below w.heap.size w w' := by
  have H := Lib.hid h; clear h
  go_enter Tryd.func30, Tryd.ntmps30
  go_wp2_with fail
  refine (l6Open_any a len cap zs _ H.out).mono ?_
  rintro e w1 ⟨a', l, c, rfl, hr, g1⟩
  have H1 := Lib.hid hr; have G1 := Lib.hid g1; clear hr g1
  go_wp2_with fail
  refine (great_any _ a' l c 0 _ H1.out (by omega)).mono ?_
  rintro e w2 ⟨x, p', hx0, hx1, rfl, hr2, hp', g2⟩
  have H2 := Lib.hid hr2; have G2 := Lib.hid g2; clear hr2 g2
  go_wp2_with fail
  refine (great_any _ a' l c _ _ H2.out (by omega)).mono ?_
  rintro e w3 ⟨y, p2, hy0, hy1, rfl, hr3, hp2, g3⟩
  have G3 := Lib.hid (bel_grown G1.out (grown_trans G2.out g3) G1.out.size (Nat.le_refl _)); clear hr3 g3
  go_wp2_with fail
  go_ret2
  exact ⟨x, y, hx0, hx1, hy0, hy1, rfl, G3.out⟩
/-- StrokeOf's answer -/
theorem skR_form (n : Int) (v : Nat → Nat) : ∃ (x : Nat) (b : Bool), skR n v = .tuple #[.int .i64 x, .bool b] := by
  unfold skR
  split
  · exact ⟨_, _, rfl⟩
  · exact ⟨0, _, rfl⟩
theorem drawStrokeRead_any (a : Option Addr) (len cap : Nat) (zs : List Int) (w : World) (h : IsRow .u8 w a len cap zs) :
    Calls Tryd.prog 19 #[.slice a len cap] w fun e w' => ∃ x : Int, -10 ≤ x ∧ x ≤ 2000000 ∧ e = .returned (.int .i64 x) ∧ Below w.heap.size w w' := by
  have H := Lib.hid h; clear h
  go_enter Tryd.func19, Tryd.ntmps19
  go_wp2_with fail
  refine (l6Open_any a len cap zs _ H.out).mono ?_
  rintro e w1 ⟨a', l, c, rfl, hr, g1⟩
  have H1 := Lib.hid hr; have G1 := Lib.hid g1; clear hr g1
  go_wp2_with fail
  refine (great_any _ a' l c 0 _ H1.out (by omega)).mono ?_
  rintro e w2 ⟨n, p', hx0, hx1, rfl, hr2, hp', g2⟩
  have H2 := Lib.hid hr2; have G2 := Lib.hid g2; clear hr2 g2
  have hsk : (∃ x : Nat, x < 1048576 ∧ skR n vsg = .tuple #[.int .i64 x, .bool true]) ∨ skR n vsg = .tuple #[.int .i64 0, .bool false] := by
    by_cases h : 0 ≤ n ∧ n ≤ 9999
    · exact .inl ⟨vsg n.toNat, sg_lt _, by unfold skR; rw [if_pos h]⟩
    · exact .inr (skR_no n vsg h)
  have C := Lib.hid (fun w => sStrokeOf_any n w)
  rcases hsk with ⟨x, hx, hk⟩ | hk
  · rw [hk] at C
    clear hk
    go_wp2_with fail
    refine (C.out _).mono ?_
    rintro e w3 ⟨rfl, g3⟩
    have H3 := Lib.hid (H2.out.below g3); have G3 := Lib.hid (grown_trans G2.out (grown_of_below _ g3)); clear g3 C
    go_wp2_with fail
    refine (pick_any _ a' l c _ _ _ H3.out (by omega) (by omega) (by omega)).mono ?_
    rintro e w4 ⟨u, hu0, hu1, rfl, hr4, g4⟩
    have H4 := Lib.hid hr4; have G4 := Lib.hid (grown_trans G3.out g4); clear hr4 g4
    by_cases hu : u = 0
    · subst hu
      go_wp2_with fail
      refine (pick_any _ a' l c _ _ _ H4.out (by omega) (by omega) (by omega)).mono ?_
      rintro e w5 ⟨v, hv0, hv1, rfl, hr5, g5⟩
      have H5 := Lib.hid hr5; have G5 := Lib.hid (grown_trans G4.out g5); clear hr5 g5
      go_wp2_with fail
      refine (pick_any _ a' l c _ _ _ H5.out (by omega) (by omega) (by omega)).mono ?_
      rintro e w6 ⟨t, ht0, ht1, rfl, hr6, g6⟩
      have G6 := Lib.hid (bel_grown G1.out (grown_trans G5.out g6) G1.out.size (Nat.le_refl _)); clear hr6 g6
      go_wp2_with fail
      go_ret
      exact ⟨_, by omega, by omega, rfl, G6.out⟩
    · have G6 := Lib.hid (bel_grown G1.out G4.out G1.out.size (Nat.le_refl _))
      go_wp2_with fail
      go_ret
      exact ⟨_, by omega, by omega, rfl, G6.out⟩
  · rw [hk] at C
    clear hk
    go_wp2_with fail
    refine (C.out _).mono ?_
    rintro e w3 ⟨rfl, g3⟩
    have H3 := Lib.hid (H2.out.below g3); have G3 := Lib.hid (grown_trans G2.out (grown_of_below _ g3)); clear g3 C
    go_wp2_with fail
    refine (pick_any _ a' l c _ _ _ H3.out (by omega) (by omega) (by omega)).mono ?_
    rintro e w5 ⟨v, hv0, hv1, rfl, hr5, g5⟩
    have H5 := Lib.hid hr5; have G5 := Lib.hid (grown_trans G3.out g5); clear hr5 g5
    go_wp2_with fail
    refine (pick_any _ a' l c _ _ _ H5.out (by omega) (by omega) (by omega)).mono ?_
    rintro e w6 ⟨t, ht0, ht1, rfl, hr6, g6⟩
    have G6 := Lib.hid (bel_grown G1.out (grown_trans G5.out g6) G1.out.size (Nat.le_refl _)); clear hr6 g6
    go_wp2_with fail
    go_ret
    exact ⟨_, by omega, by omega, rfl, G6.out⟩
end Go.Proofs.YtdokdlcmplggfaaDoor
