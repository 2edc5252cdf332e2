/- The draws of chapter 6 (package spec): a number of up to eight digits; DrawRankOf, DrawRankNoughts, DrawRankShort, DrawRankLong. -/
import Derived.Test.YtagipmfkmikagaaDoorUE
import Derived.Test.YtagipmfkmikagaaDoorDs
namespace Go.Proofs.YtagipmfkmikagaaDoor
open Go.RowKit
set_option linter.unusedVariables false
set_option maxRecDepth 100000
set_option maxHeartbeats 1000000 in
theorem l92Eight_any (r : Nat) (a : Option Addr) (len cap : Nat) (p : Nat) (w : World) (h : Rd w r a len cap p) (hp : p ≤ 900000) :
    Calls Tryd.prog 43 #[.pointer (some ⟨r, 0, none⟩)] w fun e w' => ∃ (x : Int) (p' : Nat), -2 ≤ x ∧ x ≤ 199999999 ∧ e = .returned (.int .i64 x) ∧ Rd w' r a len cap p' ∧ p' ≤ p + 20 ∧ w.grownBy w' (some r) := by
  have H := Lib.hid h; clear h
  go_enter Tryd.func43, Tryd.ntmps43
  go_wp2_with fail
  refine (pick_any r a len cap p _ _ H.out (by omega) (by omega) (by omega)).mono ?_
  rintro e w1 ⟨k, hk0, hk1, rfl, hr1, g1⟩
  have H1 := Lib.hid hr1; have G1 := Lib.hid g1; clear hr1 g1
  go_wp2_with fail
  go_loopw [3, 5] (fun n i wr => ∃ (j p' : Nat) (x : Int), i = .int .i64 j ∧ (j : Int) ≤ k ∧ n = .int .i64 x ∧ 0 ≤ x ∧ x < ((10 ^ j : Nat) : Int) ∧ Rd wr r a len cap p' ∧ p' = p + 1 + 2 * j ∧ w.grownBy wr (some r)) (fun _ i _ => 9 - (intOf i).toNat)
  case atStart => exact ⟨0, p + 1, 0, rfl, by omega, rfl, by omega, by decide, H1.out, rfl, G1.out⟩
  case round =>
    obtain ⟨j, p', x, rfl, hj, rfl, hx0, hx1, hr, hp', g⟩ := hrel
    have HR := Lib.hid hr; have G := Lib.hid g; have Hp' := Lib.hid hp'
    have hp2 : p' ≤ 900017 := by omega
    clear hr g hp' H1 G1
    have e8 : 10 ^ j ≤ 10 ^ 8 := Nat.pow_le_pow_right (by omega) (by omega)
    have e9 : (10 : Nat) ^ 8 = 100000000 := by decide
    have hx2 : x < 100000000 := by omega
    by_cases hlt : (j : Int) < k
    · have hs : 10 ^ (j + 1) = 10 ^ j * 10 := Nat.pow_succ _ _
      have Hx : Hid (∀ d : Int, d ≤ 9 → 10 * x + d < ((10 ^ (j + 1) : Nat) : Int)) := fun d hd => by rw [hs]; omega
      clear hs e8 e9 hx1
      go_wp2_with fail
      refine (pick_any r a len cap _ _ _ HR.out (by omega) (by omega) (by omega)).mono ?_
      rintro e w2 ⟨y, hy0, hy1, rfl, hr2, g2⟩
      have H2 := Lib.hid hr2; have G2 := Lib.hid (grown_trans G.out g2); clear hr2 g2
      go_wp2_with fail
      refine (pick_any r a len cap _ _ _ H2.out (by omega) (by omega) (by omega)).mono ?_
      rintro e w3 ⟨z, hz0, hz1, rfl, hr3, g3⟩
      have H3 := Lib.hid hr3; have G3 := Lib.hid (grown_trans G2.out g3); clear hr3 g3
      rcases (show z = 0 ∨ z = 1 by omega) with rfl | rfl
      · go_wp2_with fail
        go_roundw
        case rel => exact ⟨j + 1, p' + 1 + 1, 10 * x + 0, by go_num, by omega, by go_num, by omega, Hx.out 0 (by omega), H3.out, by have := Hp'.out; omega, G3.out⟩
        case measure => simp [intOf]; omega
      · go_wp2_with fail
        go_roundw
        case rel => exact ⟨j + 1, p' + 1 + 1, 10 * x + y, by go_num, by omega, by go_num, by omega, Hx.out y (by omega), H3.out, by have := Hp'.out; omega, G3.out⟩
        case measure => simp [intOf]; omega
    · clear e8 e9 hx1
      go_wp2_with fail
      refine (pick_any r a len cap _ _ _ HR.out (by omega) (by omega) (by omega)).mono ?_
      rintro e w2 ⟨y, hy0, hy1, rfl, hr2, g2⟩
      have H2 := Lib.hid hr2; have G2 := Lib.hid (grown_trans G.out g2); clear hr2 g2
      go_wp2_with fail
      refine (pick_any r a len cap _ _ _ H2.out (by omega) (by omega) (by omega)).mono ?_
      rintro e w3 ⟨z, hz0, hz1, rfl, hr3, g3⟩
      have H3 := Lib.hid hr3; have G3 := Lib.hid (grown_trans G2.out g3); clear hr3 g3
      go_wp2_with fail
      go_ret
      exact ⟨_, p' + 1 + 1, by omega, by omega, rfl, H3.out, by have := Hp'.out; omega, G3.out⟩
set_option maxHeartbeats 1000000 in
theorem l92Ranked_any (r : Nat) (a : Option Addr) (l c : Nat) (p : Nat) (w : World) (h : Rd w r a l c p) (hp : p ≤ 900000) :
    Calls Tryd.prog 44 #[.pointer (some ⟨r, 0, none⟩)] w fun e w' => ∃ (x : ByteArray) (p' : Nat), x.size ≤ 30 ∧ e = .returned (.string x) ∧ Rd w' r a l c p' ∧ p' ≤ p + 22 ∧ w.grownBy w' (some r) := by
  have H := Lib.hid h; clear h
  go_enter Tryd.func44, Tryd.ntmps44
  go_wp2_with fail
  refine (l92Eight_any r a l c p _ H.out hp).mono ?_
  rintro e w1 ⟨n, p1, hn0, hn1, rfl, hr1, hp1, g1⟩
  have H1 := Lib.hid hr1; have G1 := Lib.hid g1; clear hr1 g1
  obtain ⟨x, b, hx, hxs, _⟩ := rkR_form n
  have Hx := Lib.hid hx; clear hx
  have hxz : (⟨x.toArray⟩ : ByteArray).size ≤ 30 := by show x.toArray.size ≤ 30; simp; omega
  generalize (⟨x.toArray⟩ : ByteArray) = X at *
  go_wp2_with fail
  refine (sRankOf_any n _).mono ?_
  rw [Hx.out]
  rintro e w2 ⟨rfl, g2⟩
  have H2 := Lib.hid (H1.out.below g2); have G2 := Lib.hid (grown_trans G1.out (grown_of_below r g2)); clear g2
  cases b with
  | false =>
    have hrow := strRow_new w2 [⟨#[]⟩, ⟨#[115]⟩, ⟨#[49, 49]⟩, ⟨#[49, 115, 49, 115]⟩, ⟨#[111, 49]⟩, ⟨#[49, 119, 111]⟩, ⟨#[49, 119, 49, 98]⟩, ⟨#[49, 98, 49]⟩, ⟨#[120]⟩, ⟨#[48]⟩, ⟨#[50, 113, 50, 98, 50, 115, 50, 119, 50, 113, 50, 98, 50, 115, 50, 119, 50, 113, 50, 98, 50, 115]⟩] 9 (by decide) (0, 0)
    have HRow := Lib.hid hrow; clear hrow
    go_wp2_with fail
    refine (of_any _ a l c p1 w2.heap.size 11 _ (H2.out.alloc _) HRow.out (by have := lt_of_block' H2.out.blk; omega) (by omega) (by omega) (by omega)).mono ?_
    rintro e w5 ⟨z, hz, rfl, hr5, g5⟩
    have H5 := Lib.hid hr5
    have G5 := Lib.hid (grown_trans G2.out (grown_trans (World.grownBy_alloc w2 _ (some _)) g5)); clear hr5 g5
    go_wp2_with fail
    go_ret
    exact ⟨z, p1 + 1, hz, rfl, H5.out, by omega, G5.out⟩
  | true =>
    go_wp2_with fail
    refine (pick_any _ a l c p1 _ _ H2.out (by omega) (by omega) (by omega)).mono ?_
    rintro e w3 ⟨u, hu0, hu1, rfl, hr3, g3⟩
    have H3 := Lib.hid hr3; have G3 := Lib.hid (grown_trans G2.out g3); clear hr3 g3
    by_cases hu : u = 0
    · subst hu
      have hrow := strRow_new w3 [⟨#[]⟩, ⟨#[115]⟩, ⟨#[49, 49]⟩, ⟨#[49, 115, 49, 115]⟩, ⟨#[111, 49]⟩, ⟨#[49, 119, 111]⟩, ⟨#[49, 119, 49, 98]⟩, ⟨#[49, 98, 49]⟩, ⟨#[120]⟩, ⟨#[48]⟩, ⟨#[50, 113, 50, 98, 50, 115, 50, 119, 50, 113, 50, 98, 50, 115, 50, 119, 50, 113, 50, 98, 50, 115]⟩] 9 (by decide) (0, 0)
      have HRow := Lib.hid hrow; clear hrow
      go_wp2_with fail
      refine (of_any _ a l c (p1 + 1) w3.heap.size 11 _ (H3.out.alloc _) HRow.out (by have := lt_of_block' H3.out.blk; omega) (by omega) (by omega) (by omega)).mono ?_
      rintro e w5 ⟨z, hz, rfl, hr5, g5⟩
      have H5 := Lib.hid hr5
      have G5 := Lib.hid (grown_trans G3.out (grown_trans (World.grownBy_alloc w3 _ (some _)) g5)); clear hr5 g5
      go_wp2_with fail
      go_ret
      exact ⟨z, (p1 + 1) + 1, hz, rfl, H5.out, by omega, G5.out⟩
    · go_wp2_with fail
      go_ret
      exact ⟨X, p1 + 1, hxz, rfl, H3.out, by omega, G3.out⟩
theorem drawRankOf_any (a : Option Addr) (len cap : Nat) (zs : List Int) (w : World) (h : IsRow .u8 w a len cap zs) :
    Calls Tryd.prog 29 #[.slice a len cap] w fun e w' => ∃ x : Int, -2 ≤ x ∧ x ≤ 199999999 ∧ e = .returned (.int .i64 x) ∧ Below w.heap.size w w' := by
  have H := Lib.hid h; clear h
  go_enter Tryd.func29, Tryd.ntmps29
  go_wp2_with fail
  refine (l6Open_any a len cap zs _ H.out).mono ?_
  rintro e w1 ⟨a', l, c, rfl, hr, g1⟩
  have H1 := Lib.hid hr; have G1 := Lib.hid g1; clear hr g1
  go_wp2_with fail
  refine (l92Eight_any _ a' l c 0 _ H1.out (by omega)).mono ?_
  rintro e w2 ⟨n, p', hn0, hn1, rfl, hr2, hp', g2⟩
  have G2 := Lib.hid (bel_grown G1.out g2 G1.out.size (Nat.le_refl _)); clear hr2 g2
  go_wp2_with fail
  go_ret
  exact ⟨n, hn0, hn1, rfl, G2.out⟩
theorem drawRankNoughts_any (a : Option Addr) (len cap : Nat) (zs : List Int) (w : World) (h : IsRow .u8 w a len cap zs) :
    Calls Tryd.prog 28 #[.slice a len cap] w fun e w' => ∃ x : Int, -2 ≤ x ∧ x ≤ 199999999 ∧ e = .returned (.int .i64 x) ∧ Below w.heap.size w w' := by
  have H := Lib.hid h; clear h
  go_enter Tryd.func28, Tryd.ntmps28
  go_wp2_with fail
  refine (l6Open_any a len cap zs _ H.out).mono ?_
  rintro e w1 ⟨a', l, c, rfl, hr, g1⟩
  have H1 := Lib.hid hr; have G1 := Lib.hid g1; clear hr g1
  go_wp2_with fail
  refine (l92Eight_any _ a' l c 0 _ H1.out (by omega)).mono ?_
  rintro e w2 ⟨n, p', hn0, hn1, rfl, hr2, hp', g2⟩
  have G2 := Lib.hid (bel_grown G1.out g2 G1.out.size (Nat.le_refl _)); clear hr2 g2
  go_wp2_with fail
  go_ret
  exact ⟨n, hn0, hn1, rfl, G2.out⟩
theorem drawRankShort_any (a : Option Addr) (len cap : Nat) (zs : List Int) (w : World) (h : IsRow .u8 w a len cap zs) :
    Calls Tryd.prog 31 #[.slice a len cap] w fun e w' => ∃ x : Int, -2 ≤ x ∧ x ≤ 199999999 ∧ e = .returned (.int .i64 x) ∧ Below w.heap.size w w' := by
  have H := Lib.hid h; clear h
  go_enter Tryd.func31, Tryd.ntmps31
  go_wp2_with fail
  refine (l6Open_any a len cap zs _ H.out).mono ?_
  rintro e w1 ⟨a', l, c, rfl, hr, g1⟩
  have H1 := Lib.hid hr; have G1 := Lib.hid g1; clear hr g1
  go_wp2_with fail
  refine (pick_any _ a' l c 0 _ _ H1.out (by omega) (by omega) (by omega)).mono ?_
  rintro e w2 ⟨u, hu0, hu1, rfl, hr2, g2⟩
  have H2 := Lib.hid hr2; have G2 := Lib.hid g2; clear hr2 g2
  by_cases hu : u = 0
  · subst hu
    go_wp2_with fail
    refine (pick_any _ a' l c 1 _ _ H2.out (by omega) (by omega) (by omega)).mono ?_
    rintro e w3 ⟨v, hv0, hv1, rfl, hr3, g3⟩
    have G3 := Lib.hid (bel_grown G1.out (grown_trans G2.out g3) G1.out.size (Nat.le_refl _)); clear hr3 g3
    go_wp2_with fail
    go_ret
    exact ⟨_, by omega, by omega, rfl, G3.out⟩
  · go_wp2_with fail
    refine (l92Eight_any _ a' l c 1 _ H2.out (by omega)).mono ?_
    rintro e w3 ⟨n, p', hn0, hn1, rfl, hr3, hp', g3⟩
    have G3 := Lib.hid (bel_grown G1.out (grown_trans G2.out g3) G1.out.size (Nat.le_refl _)); clear hr3 g3
    go_wp2_with fail
    go_ret
    exact ⟨n, hn0, hn1, rfl, G3.out⟩
theorem drawRankLong_any (a : Option Addr) (len cap : Nat) (zs : List Int) (w : World) (h : IsRow .u8 w a len cap zs) :
    Calls Tryd.prog 27 #[.slice a len cap] w fun e w' => ∃ x : Int, -300 ≤ x ∧ x ≤ 2099 ∧ e = .returned (.int .i64 x) ∧ Below w.heap.size w w' := by
  have H := Lib.hid h; clear h
  go_enter Tryd.func27, Tryd.ntmps27
  go_wp2_with fail
  refine (l6Open_any a len cap zs _ H.out).mono ?_
  rintro e w1 ⟨a', l, c, rfl, hr, g1⟩
  have H1 := Lib.hid hr; have G1 := Lib.hid g1; clear hr g1
  go_wp2_with fail
  refine (pick_any _ a' l c 0 _ _ H1.out (by omega) (by omega) (by omega)).mono ?_
  rintro e w2 ⟨u, hu0, hu1, rfl, hr2, g2⟩
  have H2 := Lib.hid hr2; have G2 := Lib.hid g2; clear hr2 g2
  go_wp2_with fail
  refine (pick_any _ a' l c 1 _ _ H2.out (by omega) (by omega) (by omega)).mono ?_
  rintro e w3 ⟨v, hv0, hv1, rfl, hr3, g3⟩
  have H3 := Lib.hid hr3; have G3 := Lib.hid (grown_trans G2.out g3); clear hr3 g3
  go_wp2_with fail
  refine (pick_any _ a' l c 2 _ _ H3.out (by omega) (by omega) (by omega)).mono ?_
  rintro e w4 ⟨x, hx0, hx1, rfl, hr4, g4⟩
  have G4 := Lib.hid (bel_grown G1.out (grown_trans G3.out g4) G1.out.size (Nat.le_refl _)); clear hr4 g4
  go_wp2_with fail
  go_ret
  exact ⟨_, by omega, by omega, rfl, G4.out⟩
theorem drawRankRead_any (a : Option Addr) (len cap : Nat) (zs : List Int) (w : World) (h : IsRow .u8 w a len cap zs) :
    Calls Tryd.prog 30 #[.slice a len cap] w fun e w' => ∃ x : ByteArray, x.size ≤ 30 ∧ e = .returned (.string x) ∧ Below w.heap.size w w' := by
  have H := Lib.hid h; clear h
  go_enter Tryd.func30, Tryd.ntmps30
  go_wp2_with fail
  refine (l6Open_any a len cap zs _ H.out).mono ?_
  rintro e w1 ⟨a', l, c, rfl, hr, g1⟩
  have H1 := Lib.hid hr; have G1 := Lib.hid g1; clear hr g1
  go_wp2_with fail
  refine (l92Ranked_any _ a' l c 0 _ H1.out (by omega)).mono ?_
  rintro e w2 ⟨x, p', hx, rfl, hr2, hp', g2⟩
  have G2 := Lib.hid (bel_grown G1.out g2 G1.out.size (Nat.le_refl _)); clear hr2 g2
  go_wp2_with fail
  go_ret
  exact ⟨x, hx, rfl, G2.out⟩
theorem drawRankSum_any (a : Option Addr) (len cap : Nat) (zs : List Int) (w : World) (h : IsRow .u8 w a len cap zs) :
    Calls Tryd.prog 32 #[.slice a len cap] w fun e w' => ∃ x y : ByteArray, x.size ≤ 30 ∧ y.size ≤ 30 ∧ e = .returned (.tuple #[.string x, .string y]) ∧ Below w.heap.size w w' := by
  have H := Lib.hid h; clear h
  go_enter Tryd.func32, Tryd.ntmps32
  go_wp2_with fail
  refine (l6Open_any a len cap zs _ H.out).mono ?_
  rintro e w1 ⟨a', l, c, rfl, hr, g1⟩
  have H1 := Lib.hid hr; have G1 := Lib.hid g1; clear hr g1
  go_wp2_with fail
  refine (l92Ranked_any _ a' l c 0 _ H1.out (by omega)).mono ?_
  rintro e w2 ⟨x, p', hx, rfl, hr2, hp', g2⟩
  have H2 := Lib.hid hr2; have G2 := Lib.hid g2; clear hr2 g2
  go_wp2_with fail
  refine (l92Ranked_any _ a' l c p' _ H2.out (by omega)).mono ?_
  rintro e w3 ⟨y, p2, hy, rfl, hr3, hp2, g3⟩
  have G3 := Lib.hid (bel_grown G1.out (grown_trans G2.out g3) G1.out.size (Nat.le_refl _)); clear hr3 g3
  go_wp2_with fail
  go_ret2
  exact ⟨x, y, hx, hy, rfl, G3.out⟩
end Go.Proofs.YtagipmfkmikagaaDoor
