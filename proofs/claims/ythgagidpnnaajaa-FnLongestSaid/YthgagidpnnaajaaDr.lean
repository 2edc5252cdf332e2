/- The draws of chapter 1 (package spec): a number. -/
import Derived.Test.YthgagidpnnaajaaD
namespace Go.Proofs.Ythgagidpnnaajaa
open Go.RowKit
set_option linter.unusedVariables false
set_option maxRecDepth 100000
theorem grown_trans {w1 w2 w3 : World} {r : Nat} (h : w1.grownBy w2 (some r)) (k : w2.grownBy w3 (some r)) : w1.grownBy w3 (some r) :=
  ⟨k.os.trans h.os, k.tape.trans h.tape, k.output.trans h.output, Nat.le_trans h.size k.size, fun i hi hne => (k.block i (Nat.lt_of_lt_of_le hi h.size) hne).trans (h.block i hi hne)⟩
theorem bel_grown {B r : Nat} {w w1 w2 : World} (h : Below B w w1) (g : w1.grownBy w2 (some r)) (hB : B ≤ w1.heap.size) (hr : B ≤ r) : Below B w w2 := h.grown g hB (fun k hk => by simp at hk; omega)
theorem l91Small_any (r : Nat) (a : Option Addr) (len cap : Nat) (p : Nat) (w : World) (h : Rd w r a len cap p) (hp : p ≤ 900000) :
    Calls Try.prog 23 #[.pointer (some ⟨r, 0, none⟩)] w fun e w' => ∃ (x : Int) (p' : Nat), 0 ≤ x ∧ x ≤ 4000 ∧ e = .returned (.int .i64 x) ∧ Rd w' r a len cap p' ∧ p' ≤ p + 5 ∧ w.grownBy w' (some r) := by
  have H := Lib.hid h; clear h
  go_enter Try.func23, Try.ntmps23
  go_wp2_with fail
  refine (pick_any r a len cap p _ _ H.out (by omega) (by omega) (by omega)).mono ?_
  rintro e w1 ⟨x, hx0, hx1, rfl, hr1, g1⟩
  have H1 := Lib.hid hr1; have G1 := Lib.hid g1; clear hr1 g1
  by_cases h0 : x = 0
  · subst h0
    go_wp2_with fail
    go_ret
    exact ⟨0, p + 1, by omega, by omega, rfl, H1.out, by omega, G1.out⟩
  by_cases h1 : x = 1
  · subst h1
    go_wp2_with fail
    go_ret
    exact ⟨4000, p + 1, by omega, by omega, rfl, H1.out, by omega, G1.out⟩
  by_cases h2 : x = 2
  · subst h2
    go_wp2_with fail
    refine (pick_any r a len cap _ _ _ H1.out (by omega) (by omega) (by omega)).mono ?_
    rintro e w2 ⟨y, hy0, hy1, rfl, hr2, g2⟩
    have H2 := Lib.hid hr2; have G2 := Lib.hid g2; clear hr2 g2
    go_wp2_with fail
    go_ret
    exact ⟨1 + y, p + 2, by omega, by omega, rfl, H2.out, by omega, grown_trans G1.out G2.out⟩
  · go_wp2_with fail
    refine (pick_any r a len cap _ _ _ H1.out (by omega) (by omega) (by omega)).mono ?_
    rintro e w2 ⟨y, hy0, hy1, rfl, hr2, g2⟩
    have H2 := Lib.hid hr2; have G2 := Lib.hid g2; clear hr2 g2
    go_wp2_with fail
    refine (pick_any r a len cap _ _ _ H2.out (by omega) (by omega) (by omega)).mono ?_
    rintro e w3 ⟨z, hz0, hz1, rfl, hr3, g3⟩
    have H3 := Lib.hid hr3; have G3 := Lib.hid g3; clear hr3 g3
    go_wp2_with fail
    refine (pick_any r a len cap _ _ _ H3.out (by omega) (by omega) (by omega)).mono ?_
    rintro e w4 ⟨u, hu0, hu1, rfl, hr4, g4⟩
    have H4 := Lib.hid hr4; have G4 := Lib.hid g4; clear hr4 g4
    go_wp2_with fail
    refine (pick_any r a len cap _ _ _ H4.out (by omega) (by omega) (by omega)).mono ?_
    rintro e w5 ⟨v, hv0, hv1, rfl, hr5, g5⟩
    have H5 := Lib.hid hr5; have G5 := Lib.hid g5; clear hr5 g5
    go_wp2_with fail
    go_ret
    exact ⟨_, p + 5, by omega, by omega, rfl, H5.out, by omega, grown_trans G1.out (grown_trans G2.out (grown_trans G3.out (grown_trans G4.out G5.out)))⟩
theorem l91One_any (a : Option Addr) (len cap : Nat) (zs : List Int) (w : World) (h : IsRow .u8 w a len cap zs) :
    Calls Try.prog 14 #[.slice a len cap] w fun e w' => ∃ x : Int, 0 ≤ x ∧ x ≤ 4000 ∧ e = .returned (.int .i64 x) ∧ Below w.heap.size w w' := by
  have H := Lib.hid h; clear h
  go_enter Try.func14, Try.ntmps14
  go_wp2_with fail
  refine (l6Open_any a len cap zs _ H.out).mono ?_
  rintro e w1 ⟨a', l, c, rfl, hr, g1⟩
  have H1 := Lib.hid hr; clear hr
  go_wp2_with fail
  refine (l91Small_any _ a' l c 0 _ H1.out (by omega)).mono ?_
  rintro e w2 ⟨x, p', hx0, hx1, rfl, hr2, hp', g2⟩
  go_wp2_with fail
  go_ret
  exact ⟨x, hx0, hx1, rfl, bel_grown g1 g2 g1.size (Nat.le_refl _)⟩
end Go.Proofs.Ythgagidpnnaajaa
