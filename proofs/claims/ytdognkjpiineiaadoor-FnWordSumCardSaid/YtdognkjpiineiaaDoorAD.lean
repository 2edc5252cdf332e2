/- The draws of chapter 3 (package spec). -/
import Derived.Test.YtdognkjpiineiaaDoorDs
import Derived.Test.YtdognkjpiineiaaDoorAT
namespace Go.Proofs.YtdognkjpiineiaaDoor
open Go.RowKit
set_option linter.unusedVariables false
set_option maxRecDepth 100000
theorem l91Great_any (r : Nat) (a : Option Addr) (len cap : Nat) (p : Nat) (w : World) (h : Rd w r a len cap p) (hp : p ≤ 900000) :
    Calls Tryd.prog 42 #[.pointer (some ⟨r, 0, none⟩)] w fun e w' => ∃ (x : Int) (p' : Nat), -20000 ≤ x ∧ x ≤ 20000 ∧ e = .returned (.int .i64 x) ∧ Rd w' r a len cap p' ∧ p' ≤ p + 6 ∧ w.grownBy w' (some r) := by
  have H := Lib.hid h; clear h
  go_enter Tryd.func42, Tryd.ntmps42
  go_wp2_with fail
  refine (pick_any r a len cap p _ _ H.out (by omega) (by omega) (by omega)).mono ?_
  rintro e w1 ⟨x, hx0, hx1, rfl, hr1, g1⟩
  have H1 := Lib.hid hr1; have G1 := Lib.hid g1; clear hr1 g1
  go_wp2_with fail
  refine (pick_any r a len cap _ _ _ H1.out (by omega) (by omega) (by omega)).mono ?_
  rintro e w2 ⟨y, hy0, hy1, rfl, hr2, g2⟩
  have H2 := Lib.hid hr2; have G2 := Lib.hid (grown_trans G1.out g2); clear hr2 g2
  go_wp2_with fail
  refine (pick_any r a len cap _ _ _ H2.out (by omega) (by omega) (by omega)).mono ?_
  rintro e w3 ⟨z, hz0, hz1, rfl, hr3, g3⟩
  have H3 := Lib.hid hr3; have G3 := Lib.hid (grown_trans G2.out g3); clear hr3 g3
  go_wp2_with fail
  refine (pick_any r a len cap _ _ _ H3.out (by omega) (by omega) (by omega)).mono ?_
  rintro e w4 ⟨u, hu0, hu1, rfl, hr4, g4⟩
  have H4 := Lib.hid hr4; have G4 := Lib.hid (grown_trans G3.out g4); clear hr4 g4
  go_wp2_with fail
  refine (pick_any r a len cap _ _ _ H4.out (by omega) (by omega) (by omega)).mono ?_
  rintro e w5 ⟨v, hv0, hv1, rfl, hr5, g5⟩
  have H5 := Lib.hid hr5; have G5 := Lib.hid (grown_trans G4.out g5); clear hr5 g5
  go_wp2_with fail
  refine (pick_any r a len cap _ _ _ H5.out (by omega) (by omega) (by omega)).mono ?_
  rintro e w6 ⟨t, ht0, ht1, rfl, hr6, g6⟩
  have H6 := Lib.hid hr6; have G6 := Lib.hid (grown_trans G5.out g6); clear hr6 g6
  go_wp2_with fail
  go_ret
  exact ⟨_, p + 6, by omega, by omega, rfl, H6.out, by omega, G6.out⟩
def all27 : ByteArray := ⟨#[42, 97, 98, 99, 100, 101, 102, 103, 104, 105, 106, 107, 108, 109, 110, 111, 112, 113, 114, 115, 116, 117, 118, 119, 120, 121, 122]⟩
theorem l3All_any (w : World) : Calls Tryd.prog 49 #[] w fun e w' => e = .returned (.string all27) ∧ w = w' := by
  go_enter Tryd.func49, Tryd.ntmps49
  go_wp2
  go_ret
  exact ⟨rfl, rfl⟩
theorem all27_size : all27.size = 27 := rfl
theorem all27_cut (k : Nat) (h : k < 27) : (all27.extract k (k + 1)).size = 1 := by
  rw [ByteArray.size_extract, all27_size]; omega
theorem l91Word_any (r : Nat) (a : Option Addr) (len cap : Nat) (p : Nat) (w : World) (h : Rd w r a len cap p) (hp : p ≤ 900000) :
    Calls Tryd.prog 46 #[.pointer (some ⟨r, 0, none⟩)] w fun e w' => ∃ (x : ByteArray) (p' : Nat), x.size ≤ 300 ∧ e = .returned (.string x) ∧ Rd w' r a len cap p' ∧ p' ≤ p + 20 ∧ w.grownBy w' (some r) := by
  have hrw : r < w.heap.size := lt_of_block' h.blk
  have H := Lib.hid h; clear h
  have hasz := all27_size
  have hacut := all27_cut
  have Hacut := Lib.hid hacut; clear hacut
  have Hall := Lib.hid l3All_any
  generalize all27 = A at *
  go_enter Tryd.func46, Tryd.ntmps46
  go_wp2_with fail
  refine (pick_any r a len cap p _ _ H.out (by omega) (by omega) (by omega)).mono ?_
  rintro e w1 ⟨x, hx0, hx1, rfl, hr1, g1⟩
  have H1 := Lib.hid hr1; have G1 := Lib.hid g1; clear hr1 g1
  go_wp2_with fail
  go_loopw [3, 5] (fun s i wr => ∃ (k : Nat) (y : ByteArray) (p' : Nat), i = .int .i64 k ∧ (k : Int) ≤ 1 + x ∧ s = .string y ∧ y.size ≤ k ∧ Rd wr r a len cap p' ∧ p' = p + 1 + k ∧ w.grownBy wr (some r)) (fun _ i _ => (1 + x).toNat - (intOf i).toNat)
  case atStart => exact ⟨0, ⟨#[]⟩, p + 1, rfl, by omega, rfl, by decide, H1.out, rfl, G1.out⟩
  case round =>
    obtain ⟨k, y, p', rfl, hk, rfl, hy, hr, hp', g⟩ := hrel
    have hrw' := Nat.lt_of_lt_of_le hrw g.size
    have Hp' := Lib.hid hp'
    have hp2 : p' ≤ p + 10 := by omega
    clear hp'
    have HR := Lib.hid hr; have G := Lib.hid g; clear hr g
    by_cases hlt : (k : Int) < 1 + x
    · go_wp2_with fail
      refine (pick_any r a len cap p' _ _ HR.out (by omega) (by omega) (by omega)).mono ?_
      rintro e w3 ⟨j, hj0, hj1, rfl, hr3, g3⟩
      obtain ⟨j, rfl⟩ := Int.eq_ofNat_of_zero_le hj0
      have hzs := Hacut.out j (by omega)
      have H3 := Lib.hid hr3; have G3 := Lib.hid (grown_trans G.out g3); clear hr3 g3
      have hyz2 : Hid ((y ++ A.extract j (j + 1)).size ≤ k + 1) := by show _ ≤ _; rw [ByteArray.size_append]; omega
      go_wp2_with fail
      refine (Hall.out _).mono ?_
      rintro e w4 ⟨rfl, rfl⟩
      go_wp2_with fail
      go_roundw
      case rel => exact ⟨k + 1, y ++ A.extract j (j + 1), p' + 1, by go_num, by omega, rfl, hyz2.out, H3.out, by have := Hp'.out; omega, G3.out⟩
      case measure => simp [intOf]; omega
    · go_wp2_with fail
      refine (pick_any r a len cap p' _ _ HR.out (by omega) (by omega) (by omega)).mono ?_
      rintro e w3 ⟨u, hu0, hu1, rfl, hr3, g3⟩
      have hrw3 := Nat.lt_of_lt_of_le hrw' g3.size
      have H3 := Lib.hid hr3; have G3 := Lib.hid (grown_trans G.out g3); clear hr3 g3
      by_cases hu : u = 0
      · subst hu
        have hrow := strRow_new w3 [⟨#[65]⟩, ⟨#[39]⟩, ⟨#[97, 97, 97, 97, 97, 97, 97, 97, 97, 97, 97, 97, 97, 97, 97, 97, 97, 97, 97, 97, 97]⟩] 9 (by decide) (0, 0)
        have HRow := Lib.hid hrow; clear hrow
        go_wp2_with fail
        refine (of_any r a len cap (p' + 1) w3.heap.size 3 _ (H3.out.alloc _) HRow.out (by omega) (by omega) (by omega) (by omega)).mono ?_
        rintro e w4 ⟨z, hz, rfl, hr4, g4⟩
        have H4 := Lib.hid hr4; have G4 := Lib.hid (grown_trans G3.out (grown_trans (World.grownBy_alloc w3 _ (some r)) g4)); clear hr4 g4
        have hyz : y.size + z.size ≤ 9223372036854775807 := by omega
        have hyz2 : Hid ((y ++ z).size ≤ 300) := by show _ ≤ _; rw [ByteArray.size_append]; omega
        go_wp2_with fail
        go_ret
        exact ⟨y ++ z, p' + 2, hyz2.out, rfl, H4.out, by omega, G4.out⟩
      · go_wp2_with fail
        go_ret
        exact ⟨y, p' + 1, by omega, rfl, H3.out, by omega, G3.out⟩
theorem l91Letters_any (r : Nat) (a : Option Addr) (len cap : Nat) (p : Nat) (w : World) (h : Rd w r a len cap p) (hp : p ≤ 800000) :
    Calls Tryd.prog 39 #[.pointer (some ⟨r, 0, none⟩)] w fun e w' => ∃ (x : ByteArray) (p' : Nat), x.size ≤ 300 ∧ e = .returned (.string x) ∧ Rd w' r a len cap p' ∧ p' ≤ p + 40 ∧ w.grownBy w' (some r) := by
  have H := Lib.hid h; clear h
  go_enter Tryd.func39, Tryd.ntmps39
  go_wp2_with fail
  refine (l91Great_any r a len cap p _ H.out (by omega)).mono ?_
  rintro e w1 ⟨n, p1, hn0, hn1, rfl, hr1, hp1, g1⟩
  have H1 := Lib.hid hr1; have G1 := Lib.hid g1; clear hr1 g1
  have c := sAlphaOf_any n
  unfold alphaOfR at c
  by_cases hn : 1 ≤ n ∧ n ≤ 9999
  · rw [if_pos hn] at c
    have hsl := aof_len n.toNat
    generalize aof n.toNat = S at *
    have hsz : (⟨S.toArray⟩ : ByteArray).size ≤ 300 := by
      have e : (⟨S.toArray⟩ : ByteArray).size = S.length := by show S.toArray.size = S.length; simp
      omega
    have Hsz := Lib.hid hsz
    have C := Lib.hid c; clear c hn hsz
    go_wp2_with fail
    refine (C.out _).mono ?_
    rintro e w2 ⟨rfl, g2⟩
    have H2 := Lib.hid (H1.out.below g2); have G2 := Lib.hid (grown_trans G1.out (grown_of_below r g2)); clear g2
    go_wp2_with fail
    refine (pick_any r a len cap p1 _ _ H2.out (by omega) (by omega) (by omega)).mono ?_
    rintro e w3 ⟨x, hx0, hx1, rfl, hr3, g3⟩
    have H3 := Lib.hid hr3; have G3 := Lib.hid (grown_trans G2.out g3); clear hr3 g3
    by_cases hx : x = 0
    · subst hx
      go_wp2_with fail
      refine (l91Word_any r a len cap _ _ H3.out (by omega)).mono ?_
      rintro e w4 ⟨y, p4, hy, rfl, hr4, hp4, g4⟩
      have H4 := Lib.hid hr4; have G4 := Lib.hid (grown_trans G3.out g4); clear hr4 g4
      go_wp2_with fail
      go_ret
      exact ⟨y, p4, hy, rfl, H4.out, by omega, G4.out⟩
    · go_wp2_with fail
      go_ret
      exact ⟨_, _, Hsz.out, rfl, H3.out, by omega, G3.out⟩
  · rw [if_neg hn] at c
    have C := Lib.hid c; clear c hn
    go_wp2_with fail
    refine (C.out _).mono ?_
    rintro e w2 ⟨rfl, g2⟩
    have H2 := Lib.hid (H1.out.below g2); have G2 := Lib.hid (grown_trans G1.out (grown_of_below r g2)); clear g2
    go_wp2_with fail
    refine (l91Word_any r a len cap _ _ H2.out (by omega)).mono ?_
    rintro e w4 ⟨y, p4, hy, rfl, hr4, hp4, g4⟩
    have H4 := Lib.hid hr4; have G4 := Lib.hid (grown_trans G2.out g4); clear hr4 g4
    go_wp2_with fail
    go_ret
    exact ⟨y, p4, hy, rfl, H4.out, by omega, G4.out⟩
theorem drawAlphaOf_any (a : Option Addr) (len cap : Nat) (zs : List Int) (w : World) (h : IsRow .u8 w a len cap zs) :
    Calls Tryd.prog 21 #[.slice a len cap] w fun e w' => ∃ x : Int, -20000 ≤ x ∧ x ≤ 20000 ∧ e = .returned (.int .i64 x) ∧ Below w.heap.size w w' := by
  have H := Lib.hid h; clear h
  go_enter Tryd.func21, Tryd.ntmps21
  go_wp2_with fail
  refine (l6Open_any a len cap zs _ H.out).mono ?_
  rintro e w1 ⟨a', l, c, rfl, hr, g1⟩
  have H1 := Lib.hid hr; clear hr
  go_wp2_with fail
  refine (l91Great_any _ a' l c 0 _ H1.out (by omega)).mono ?_
  rintro e w2 ⟨x, p', hx0, hx1, rfl, hr2, hp', g2⟩
  go_wp2_with fail
  go_ret
  exact ⟨x, hx0, hx1, rfl, bel_grown g1 g2 g1.size (Nat.le_refl _)⟩
theorem drawAlphaRead_any (a : Option Addr) (len cap : Nat) (zs : List Int) (w : World) (h : IsRow .u8 w a len cap zs) :
    Calls Tryd.prog 36 #[.slice a len cap] w fun e w' => ∃ x : ByteArray, x.size ≤ 300 ∧ e = .returned (.string x) ∧ Below w.heap.size w w' := by
  have H := Lib.hid h; clear h
  go_enter Tryd.func36, Tryd.ntmps36
  go_wp2_with fail
  refine (l6Open_any a len cap zs _ H.out).mono ?_
  rintro e w1 ⟨a', l, c, rfl, hr, g1⟩
  have H1 := Lib.hid hr; clear hr
  go_wp2_with fail
  refine (l91Letters_any _ a' l c 0 _ H1.out (by omega)).mono ?_
  rintro e w2 ⟨x, p', hx, rfl, hr2, hp', g2⟩
  go_wp2_with fail
  go_ret
  exact ⟨x, hx, rfl, bel_grown g1 g2 g1.size (Nat.le_refl _)⟩
theorem drawAlphaSum_any (a : Option Addr) (len cap : Nat) (zs : List Int) (w : World) (h : IsRow .u8 w a len cap zs) :
    Calls Tryd.prog 37 #[.slice a len cap] w fun e w' => ∃ x : ByteArray, x.size ≤ 300 ∧ e = .returned (.string x) ∧ Below w.heap.size w w' := by
  have H := Lib.hid h; clear h
  go_enter Tryd.func37, Tryd.ntmps37
  go_wp2_with fail
  refine (l6Open_any a len cap zs _ H.out).mono ?_
  rintro e w1 ⟨a', l, c, rfl, hr, g1⟩
  have H1 := Lib.hid hr; clear hr
  go_wp2_with fail
  refine (l91Word_any _ a' l c 0 _ H1.out (by omega)).mono ?_
  rintro e w2 ⟨x, p', hx, rfl, hr2, hp', g2⟩
  go_wp2_with fail
  go_ret
  exact ⟨x, hx, rfl, bel_grown g1 g2 g1.size (Nat.le_refl _)⟩
theorem drawAlphaNines_any (a : Option Addr) (len cap : Nat) (zs : List Int) (w : World) (h : IsRow .u8 w a len cap zs) :
    Calls Tryd.prog 35 #[.slice a len cap] w fun e w' => ∃ x : ByteArray, x.size ≤ 300 ∧ e = .returned (.string x) ∧ Below w.heap.size w w' := by
  have H := Lib.hid h; clear h
  go_enter Tryd.func35, Tryd.ntmps35
  go_wp2_with fail
  refine (l6Open_any a len cap zs _ H.out).mono ?_
  rintro e w1 ⟨a', l, c, rfl, hr, g1⟩
  have H1 := Lib.hid hr; clear hr
  go_wp2_with fail
  refine (l91Word_any _ a' l c 0 _ H1.out (by omega)).mono ?_
  rintro e w2 ⟨x, p', hx, rfl, hr2, hp', g2⟩
  go_wp2_with fail
  go_ret
  exact ⟨x, hx, rfl, bel_grown g1 g2 g1.size (Nat.le_refl _)⟩
theorem drawAlphaAdd_any (a : Option Addr) (len cap : Nat) (zs : List Int) (w : World) (h : IsRow .u8 w a len cap zs) :
    Calls Tryd.prog 17 #[.slice a len cap] w fun e w' => ∃ x y : ByteArray, x.size ≤ 300 ∧ y.size ≤ 300 ∧ e = .returned (.tuple #[.string x, .string y]) ∧ Below w.heap.size w w' := by
  have H := Lib.hid h; clear h
  go_enter Tryd.func17, Tryd.ntmps17
  go_wp2_with fail
  refine (l6Open_any a len cap zs _ H.out).mono ?_
  rintro e w1 ⟨a', l, c, rfl, hr, g1⟩
  have H1 := Lib.hid hr; clear hr
  go_wp2_with fail
  refine (l91Letters_any _ a' l c 0 _ H1.out (by omega)).mono ?_
  rintro e w2 ⟨x, p', hx, rfl, hr2, hp', g2⟩
  have H2 := Lib.hid hr2; clear hr2
  go_wp2_with fail
  refine (l91Letters_any _ a' l c p' _ H2.out (by omega)).mono ?_
  rintro e w3 ⟨y, p3, hy, rfl, hr3, hp3, g3⟩
  go_wp2_with fail
  go_ret2
  exact ⟨x, y, hx, hy, rfl, bel_grown g1 (grown_trans g2 g3) g1.size (Nat.le_refl _)⟩
theorem drawAlphaLeast_any (a : Option Addr) (len cap : Nat) (zs : List Int) (w : World) (h : IsRow .u8 w a len cap zs) :
    Calls Tryd.prog 34 #[.slice a len cap] w fun e w' => ∃ x : Int, 0 ≤ x ∧ x ≤ 10000 ∧ e = .returned (.int .i64 x) ∧ Below w.heap.size w w' := by
  have H := Lib.hid h; clear h
  go_enter Tryd.func34, Tryd.ntmps34
  go_wp2_with fail
  refine (l6Open_any a len cap zs _ H.out).mono ?_
  rintro e w1 ⟨a', l, c, rfl, hr, g1⟩
  have H1 := Lib.hid hr; clear hr
  go_wp2_with fail
  refine (pick_any _ a' l c 0 _ _ H1.out (by omega) (by omega) (by omega)).mono ?_
  rintro e w2 ⟨x, hx0, hx1, rfl, hr2, g2⟩
  have H2 := Lib.hid hr2; have G2 := Lib.hid g2; clear hr2 g2
  go_wp2_with fail
  refine (pick_any _ a' l c _ _ _ H2.out (by omega) (by omega) (by omega)).mono ?_
  rintro e w3 ⟨y, hy0, hy1, rfl, hr3, g3⟩
  have H3 := Lib.hid hr3; have G3 := Lib.hid (grown_trans G2.out g3); clear hr3 g3
  go_wp2_with fail
  refine (pick_any _ a' l c _ _ _ H3.out (by omega) (by omega) (by omega)).mono ?_
  rintro e w4 ⟨z, hz0, hz1, rfl, hr4, g4⟩
  have G4 := Lib.hid (grown_trans G3.out g4); clear hr4 g4
  go_wp2_with fail
  go_ret
  exact ⟨_, by omega, by omega, rfl, bel_grown g1 G4.out g1.size (Nat.le_refl _)⟩
end Go.Proofs.YtdognkjpiineiaaDoor
