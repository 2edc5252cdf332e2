/- The draws of chapter 4 (package spec): numbers and texts. -/
import Derived.Test.YtejhiilkbckobaaDs
import Derived.Test.YtejhiilkbckobaaCS
namespace Go.Proofs.Ytejhiilkbckobaa
open Go.RowKit
set_option linter.unusedVariables false
set_option maxRecDepth 100000
theorem drawPlaceDays_any (a : Option Addr) (len cap : Nat) (zs : List Int) (w : World) (h : IsRow .u8 w a len cap zs) :
    Calls Try.prog 12 #[.slice a len cap] w fun e w' => ∃ x : Int, -3000000 ≤ x ∧ x ≤ 6000000 ∧ e = .returned (.int .i64 x) ∧ Below w.heap.size w w' := by
  have H := Lib.hid h; clear h
  go_enter Try.func12, Try.ntmps12
  go_wp2_with fail
  refine (l6Open_any a len cap zs _ H.out).mono ?_
  rintro e w1 ⟨a', l, c, rfl, hr, g1⟩
  have H1 := Lib.hid hr; clear hr
  go_wp2_with fail
  refine (pick_any _ a' l c 0 _ _ H1.out (by omega) (by omega) (by omega)).mono ?_
  rintro e w2 ⟨x, hx0, hx1, rfl, hr2, g2⟩
  have H2 := Lib.hid hr2; have G2 := Lib.hid g2; clear hr2 g2
  go_wp2_with fail
  refine (pick_any _ a' l c _ _ _ H2.out (by omega) (by omega) (by omega)).mono ?_
  rintro e w3 ⟨y, hy0, hy1, rfl, hr3, g3⟩
  have H3 := Lib.hid hr3; have G3 := Lib.hid (grown_trans G2.out g3); clear hr3 g3
  go_wp2_with fail
  refine (pick_any _ a' l c _ _ _ H3.out (by omega) (by omega) (by omega)).mono ?_
  rintro e w4 ⟨z, hz0, hz1, rfl, hr4, g4⟩
  have H4 := Lib.hid hr4; have G4 := Lib.hid (grown_trans G3.out g4); clear hr4 g4
  go_wp2_with fail
  refine (pick_any _ a' l c _ _ _ H4.out (by omega) (by omega) (by omega)).mono ?_
  rintro e w5 ⟨u, hu0, hu1, rfl, hr5, g5⟩
  have H5 := Lib.hid hr5; have G5 := Lib.hid (grown_trans G4.out g5); clear hr5 g5
  go_wp2_with fail
  refine (pick_any _ a' l c _ _ _ H5.out (by omega) (by omega) (by omega)).mono ?_
  rintro e w6 ⟨t, ht0, ht1, rfl, hr6, g6⟩
  have G6 := Lib.hid (grown_trans G5.out g6); clear hr6 g6
  go_wp2_with fail
  go_ret
  exact ⟨_, by omega, by omega, rfl, bel_grown g1 G6.out g1.size (Nat.le_refl _)⟩
end Go.Proofs.Ytejhiilkbckobaa
