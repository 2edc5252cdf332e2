/- The draws of chapter 4 (package spec): numbers and texts. -/
import Derived.Test.YtejhiilkbckobaaDoorDs
import Derived.Test.YtejhiilkbckobaaDoorCS
namespace Go.Proofs.YtejhiilkbckobaaDoor
open Go.RowKit
set_option linter.unusedVariables false
set_option maxRecDepth 100000
theorem l92Sixty_any (r : Nat) (a : Option Addr) (len cap : Nat) (p : Nat) (w : World) (h : Rd w r a len cap p) (hp : p ≤ 900000) :
    Calls Tryd.prog 21 #[.pointer (some ⟨r, 0, none⟩)] w fun e w' => ∃ (x : Int) (p' : Nat), -100 ≤ x ∧ x ≤ 26000000 ∧ e = .returned (.int .i64 x) ∧ Rd w' r a len cap p' ∧ p' ≤ p + 10 ∧ w.grownBy w' (some r) := by
  have H := Lib.hid h; clear h
  go_enter Tryd.func21, Tryd.ntmps21
  go_wp2_with fail
  refine (pick_any r a len cap p _ _ H.out (by omega) (by omega) (by omega)).mono ?_
  rintro e w1 ⟨x, hx0, hx1, rfl, hr1, g1⟩
  have H1 := Lib.hid hr1; have G1 := Lib.hid g1; clear hr1 g1
  go_wp2_with fail
  refine (pick_any r a len cap _ _ _ H1.out (by omega) (by omega) (by omega)).mono ?_
  rintro e w2 ⟨y, hy0, hy1, rfl, hr2, g2⟩
  have H2 := Lib.hid hr2; have G2 := Lib.hid (grown_trans G1.out g2); clear hr2 g2
  go_wp2_with fail
  go_loopw [3, 5] (fun m i wr => ∃ (k p' : Nat) (v : Int), m = .int .i64 v ∧ i = .int .i64 k ∧ (k : Int) ≤ y ∧ 0 ≤ v ∧ (k = 0 → v ≤ 59) ∧ (k = 1 → v ≤ 3599) ∧ (k = 2 → v ≤ 215999) ∧ (k = 3 → v ≤ 12959999) ∧ Rd wr r a len cap p' ∧ p' = p + 2 + k ∧ w.grownBy wr (some r)) (fun _ i _ => 4 - (intOf i).toNat)
  case atStart => exact ⟨0, p + 2, x, rfl, rfl, by omega, hx0, by omega, by omega, by omega, by omega, H2.out, rfl, G2.out⟩
  case round =>
    clear H2 G2
    obtain ⟨k, p', v, rfl, rfl, hk, hv0, b0, b1, b2, b3, hr, hp', g⟩ := hrel
    have HR := Lib.hid hr; have G := Lib.hid g; clear hr g
    have hvb : v ≤ 12959999 := by omega
    have hp2 : p' ≤ p + 6 := by omega
    by_cases hlt : (k : Int) < y
    · have Hb : Hid ((k = 0 → v ≤ 59) ∧ (k = 1 → v ≤ 3599) ∧ (k = 2 → v ≤ 215999)) := Lib.hid ⟨b0, b1, b2⟩
      have Hp' := Lib.hid hp'
      clear b0 b1 b2 b3 hp'
      go_wp2_with fail
      refine (pick_any r a len cap p' _ _ HR.out (by omega) (by omega) (by omega)).mono ?_
      rintro e w3 ⟨z, hz0, hz1, rfl, hr3, g3⟩
      have H3 := Lib.hid hr3; have G3 := Lib.hid (grown_trans G.out g3); clear hr3 g3
      go_wp2_with fail
      go_roundw
      case rel => exact ⟨k + 1, p' + 1, 60 * v + z, rfl, by go_num, by omega, by omega, by omega, by have := Hb.out; omega, by have := Hb.out; omega, by have := Hb.out; omega, H3.out, by have := Hp'.out; omega, G3.out⟩
      case measure => simp [intOf]; omega
    · clear b0 b1 b2 b3
      go_wp2_with fail
      refine (pick_any r a len cap p' _ _ HR.out (by omega) (by omega) (by omega)).mono ?_
      rintro e w3 ⟨z, hz0, hz1, rfl, hr3, g3⟩
      have H3 := Lib.hid hr3; have G3 := Lib.hid (grown_trans G.out g3); clear hr3 g3
      go_wp2_with fail
      refine (pick_any r a len cap _ _ _ H3.out (by omega) (by omega) (by omega)).mono ?_
      rintro e w4 ⟨u, hu0, hu1, rfl, hr4, g4⟩
      have H4 := Lib.hid hr4; have G4 := Lib.hid (grown_trans G3.out g4); clear hr4 g4
      go_wp2_with fail
      go_ret
      exact ⟨_, _, by omega, by omega, rfl, H4.out, by omega, G4.out⟩
theorem drawPlaceOf_any (a : Option Addr) (len cap : Nat) (zs : List Int) (w : World) (h : IsRow .u8 w a len cap zs) :
    Calls Tryd.prog 8 #[.slice a len cap] w fun e w' => ∃ x : Int, -100 ≤ x ∧ x ≤ 26000000 ∧ e = .returned (.int .i64 x) ∧ Below w.heap.size w w' := by
  have H := Lib.hid h; clear h
  go_enter Tryd.func8, Tryd.ntmps8
  go_wp2_with fail
  refine (l6Open_any a len cap zs _ H.out).mono ?_
  rintro e w1 ⟨a', l, c, rfl, hr, g1⟩
  have H1 := Lib.hid hr; clear hr
  go_wp2_with fail
  refine (l92Sixty_any _ a' l c 0 _ H1.out (by omega)).mono ?_
  rintro e w2 ⟨x, p', hx0, hx1, rfl, hr2, hp', g2⟩
  go_wp2_with fail
  go_ret
  exact ⟨x, hx0, hx1, rfl, bel_grown g1 g2 g1.size (Nat.le_refl _)⟩
end Go.Proofs.YtejhiilkbckobaaDoor
