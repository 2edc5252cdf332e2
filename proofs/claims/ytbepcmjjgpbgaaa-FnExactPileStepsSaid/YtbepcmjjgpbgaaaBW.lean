/- The exact laws of chapter 2: their walks. -/
import Derived.Test.YtbepcmjjgpbgaaaBI9
import Derived.Test.YtbepcmjjgpbgaaaBL
namespace Go.Proofs.Ytbepcmjjgpbgaaa
open Go.RowKit
set_option linter.unusedVariables false
set_option maxRecDepth 100000
theorem markIntS_int (lo hi : Nat) (a : Option Addr) (n c : Nat) (f : Nat → Int) (k0 : Int) (w : World) (h : Res w lo hi a n f) (hn : n ≤ 10000000) (hk : 0 ≤ k0) (hk0 : k0 ≤ 1000000000) :
    Calls Try.prog 46 #[.slice a n c, .int .i64 k0] w fun e w' => e = .returned (.int .i64 (k0 + n)) ∧ Res w' lo hi a n (fun j => k0 + j) ∧ Mid lo hi w w' := by
  obtain ⟨k, rfl⟩ := Int.eq_ofNat_of_zero_le hk
  exact markIntS_any lo hi a n c f k w h hn (by omega)
theorem heldIntS_int (a : Option Addr) (n c : Nat) (f : Nat → Int) (k0 : Int) (w : World) (h : Ls w a n f) (hn : n ≤ 10000000) (hk : 0 ≤ k0) (hk0 : k0 ≤ 1000000000) (e : ∀ j, j < n → f j = k0 + j) :
    Calls Try.prog 47 #[.slice a n c, .int .i64 k0] w fun e w' => e = .returned (.int .i64 (k0 + n)) ∧ w = w' := by
  obtain ⟨k, rfl⟩ := Int.eq_ofNat_of_zero_le hk
  exact heldIntS_yes a n c f k w h hn (by omega) e
set_option maxRecDepth 100000 in
set_option maxHeartbeats 1000000 in
theorem wFnExactPileIn (a0 : Option Addr) (n0 c0 : Nat) (z0 : List Int) (u0 : World) (h0 : IsRow .i64 u0 a0 n0 c0 z0) : Calls Try.prog 11 #[.slice a0 n0 c0] u0 fun e w' => e = .returned (.bool true) ∧ Below u0.heap.size u0 w' := by
  have l0 := h0.ls
  have t0 : Fit (fun k => z0.getD k 0) n0 := fun j hj => (h0.fit j hj).2
  have m0 := h0.max
  clear h0
  generalize (fun k => z0.getD k 0) = f0 at *
  by_cases big0 : 1048576 < n0
  · go_enter Try.func11, Try.ntmps11
    go_wp2_with fail
    go_ret
    exact ⟨rfl, Below.refl _ _⟩
  have L0 := Lib.hid l0; have T0 := Lib.hid t0; clear l0 t0
  have G0 := Lib.hid (Below.refl u0.heap.size u0)
  go_enter Try.func11, Try.ntmps11
  go_wp2_with fail
  refine (toIntS_any a0 n0 c0 f0 u0 (L0.out.below G0.out) (by omega)).mono ?_
  rintro e u1 ⟨rfl, ho, hb, hs⟩
  have g1 : Below u0.heap.size u0 u1 := hb
  have s1 : u0.heap.size ≤ u1.heap.size := g1.size
  have G1 := Lib.hid (bel_chain G0.out g1)
  have RA01 := Lib.hid (show Res u1 u0.heap.size u1.heap.size (some ⟨u0.heap.size, 0, none⟩) n0 f0 from .inr ⟨_, rfl, Nat.le_refl _, by omega, ho⟩)
  clear ho hb hs g1
  go_wp2_with fail
  refine (sPileIn_any (some ⟨u0.heap.size, 0, none⟩) n0 _ f0 u1 RA01.out.ls (by omega)).mono ?_
  rintro e u2 ⟨rfl, hm⟩
  have g2 : Below u1.heap.size u1 u2 := hm.bel0
  have s2 : u1.heap.size ≤ u2.heap.size := g2.size
  have RA02 := Lib.hid (RA01.out.below g2)
  clear RA01
  have G2 := Lib.hid (bel_chain G1.out g2)
  clear hm g2
  clear RA02
  go_wp2_with fail
  refine (toIntS_any a0 n0 c0 f0 u2 (L0.out.below G2.out) (by omega)).mono ?_
  rintro e u3 ⟨rfl, ho, hb, hs⟩
  have g3 : Below u2.heap.size u2 u3 := hb
  have s3 : u2.heap.size ≤ u3.heap.size := g3.size
  have G3 := Lib.hid (bel_chain G2.out g3)
  have RX03 := Lib.hid (show Res u3 u2.heap.size u3.heap.size (some ⟨u2.heap.size, 0, none⟩) n0 f0 from .inr ⟨_, rfl, Nat.le_refl _, by omega, ho⟩)
  clear ho hb hs g3
  go_wp2_with fail
  refine (iPileIn_any (some ⟨u2.heap.size, 0, none⟩) n0 _ f0 u3 RX03.out.ls (by omega) T0.out).mono ?_
  rintro e u4 ⟨rfl, hb⟩
  have g4 : Below u3.heap.size u3 u4 := hb
  have s4 : u3.heap.size ≤ u4.heap.size := g4.size
  have RX04 := Lib.hid (RX03.out.below g4)
  clear RX03
  have G4 := Lib.hid (bel_chain G3.out g4)
  clear hb g4
  go_wp2_with fail
  refine (toIntS_any a0 n0 c0 f0 u4 (L0.out.below G4.out) (by omega)).mono ?_
  rintro e u5 ⟨rfl, ho, hb, hs⟩
  have g5 : Below u4.heap.size u4 u5 := hb
  have s5 : u4.heap.size ≤ u5.heap.size := g5.size
  have RX05 := Lib.hid (RX04.out.below g5)
  clear RX04
  have G5 := Lib.hid (bel_chain G4.out g5)
  have RY5 := Lib.hid (show Res u5 u4.heap.size u5.heap.size (some ⟨u4.heap.size, 0, none⟩) n0 f0 from .inr ⟨_, rfl, Nat.le_refl _, by omega, ho⟩)
  clear ho hb hs g5
  go_wp2_with fail
  refine (eqIntS_yes (some ⟨u2.heap.size, 0, none⟩) (some ⟨u4.heap.size, 0, none⟩) n0 _ _ f0 f0 u5 RX05.out.ls RY5.out.ls (by omega) (fun _ _ => rfl)).mono ?_
  rintro e u6 ⟨rfl, hm⟩
  have g6 : Below u5.heap.size u5 u6 := hm.bel0
  have s6 : u5.heap.size ≤ u6.heap.size := g6.size
  have RX06 := Lib.hid (RX05.out.below g6)
  have RY6 := Lib.hid (RY5.out.below g6)
  clear RX05 RY5
  have G6 := Lib.hid (bel_chain G5.out g6)
  clear hm g6
  clear RY6
  go_wp2_with fail
  go_ret
  exact ⟨rfl, G6.out⟩
set_option maxRecDepth 100000 in
set_option maxHeartbeats 1000000 in
theorem wFnExactPileValue (a0 : Option Addr) (n0 c0 : Nat) (z0 : List Int) (a1 : Option Addr) (n1 c1 : Nat) (z1 : List Int) (u0 : World) (h0 : IsRow .i64 u0 a0 n0 c0 z0) (h1 : IsRow .i64 u0 a1 n1 c1 z1) : Calls Try.prog 13 #[.slice a0 n0 c0, .slice a1 n1 c1] u0 fun e w' => e = .returned (.bool true) ∧ Below u0.heap.size u0 w' := by
  have l0 := h0.ls
  have t0 : Fit (fun k => z0.getD k 0) n0 := fun j hj => (h0.fit j hj).2
  have m0 := h0.max
  clear h0
  generalize (fun k => z0.getD k 0) = f0 at *
  have l1 := h1.ls
  have t1 : Fit (fun k => z1.getD k 0) n1 := fun j hj => (h1.fit j hj).2
  have m1 := h1.max
  clear h1
  generalize (fun k => z1.getD k 0) = f1 at *
  by_cases big0 : 1048576 < n0
  · go_enter Try.func13, Try.ntmps13
    go_wp2_with fail
    go_ret
    exact ⟨rfl, Below.refl _ _⟩
  by_cases big1 : 1048576 < n1
  · go_enter Try.func13, Try.ntmps13
    go_wp2_with fail
    go_ret
    exact ⟨rfl, Below.refl _ _⟩
  have L0 := Lib.hid l0; have T0 := Lib.hid t0; clear l0 t0
  have L1 := Lib.hid l1; have T1 := Lib.hid t1; clear l1 t1
  have G0 := Lib.hid (Below.refl u0.heap.size u0)
  go_enter Try.func13, Try.ntmps13
  go_wp2_with fail
  refine (toIntS_any a0 n0 c0 f0 u0 (L0.out.below G0.out) (by omega)).mono ?_
  rintro e u1 ⟨rfl, ho, hb, hs⟩
  have g1 : Below u0.heap.size u0 u1 := hb
  have s1 : u0.heap.size ≤ u1.heap.size := g1.size
  have G1 := Lib.hid (bel_chain G0.out g1)
  have RA01 := Lib.hid (show Res u1 u0.heap.size u1.heap.size (some ⟨u0.heap.size, 0, none⟩) n0 f0 from .inr ⟨_, rfl, Nat.le_refl _, by omega, ho⟩)
  clear ho hb hs g1
  go_wp2_with fail
  refine (toIntS_any a1 n1 c1 f1 u1 (L1.out.below G1.out) (by omega)).mono ?_
  rintro e u2 ⟨rfl, ho, hb, hs⟩
  have g2 : Below u1.heap.size u1 u2 := hb
  have s2 : u1.heap.size ≤ u2.heap.size := g2.size
  have RA02 := Lib.hid (RA01.out.below g2)
  clear RA01
  have G2 := Lib.hid (bel_chain G1.out g2)
  have RA12 := Lib.hid (show Res u2 u1.heap.size u2.heap.size (some ⟨u1.heap.size, 0, none⟩) n1 f1 from .inr ⟨_, rfl, Nat.le_refl _, by omega, ho⟩)
  clear ho hb hs g2
  go_wp2_with fail
  refine (sPileValue_any (some ⟨u0.heap.size, 0, none⟩) (some ⟨u1.heap.size, 0, none⟩) n0 n1 _ _ f0 f1 u2 RA02.out.ls RA12.out.ls (by omega) (by omega)).mono ?_
  rintro e u3 ⟨rfl, hm⟩
  have g3 : Below u2.heap.size u2 u3 := hm.bel0
  have s3 : u2.heap.size ≤ u3.heap.size := g3.size
  have RA03 := Lib.hid (RA02.out.below g3)
  have RA13 := Lib.hid (RA12.out.below g3)
  clear RA02 RA12
  have G3 := Lib.hid (bel_chain G2.out g3)
  clear hm g3
  clear RA03
  clear RA13
  go_wp2_with fail
  refine (toIntS_any a0 n0 c0 f0 u3 (L0.out.below G3.out) (by omega)).mono ?_
  rintro e u4 ⟨rfl, ho, hb, hs⟩
  have g4 : Below u3.heap.size u3 u4 := hb
  have s4 : u3.heap.size ≤ u4.heap.size := g4.size
  have G4 := Lib.hid (bel_chain G3.out g4)
  have RX04 := Lib.hid (show Res u4 u3.heap.size u4.heap.size (some ⟨u3.heap.size, 0, none⟩) n0 f0 from .inr ⟨_, rfl, Nat.le_refl _, by omega, ho⟩)
  clear ho hb hs g4
  go_wp2_with fail
  refine (toIntS_any a1 n1 c1 f1 u4 (L1.out.below G4.out) (by omega)).mono ?_
  rintro e u5 ⟨rfl, ho, hb, hs⟩
  have g5 : Below u4.heap.size u4 u5 := hb
  have s5 : u4.heap.size ≤ u5.heap.size := g5.size
  have RX05 := Lib.hid (RX04.out.below g5)
  clear RX04
  have G5 := Lib.hid (bel_chain G4.out g5)
  have RX15 := Lib.hid (show Res u5 u4.heap.size u5.heap.size (some ⟨u4.heap.size, 0, none⟩) n1 f1 from .inr ⟨_, rfl, Nat.le_refl _, by omega, ho⟩)
  clear ho hb hs g5
  go_wp2_with fail
  refine (iPileValue_any (some ⟨u3.heap.size, 0, none⟩) (some ⟨u4.heap.size, 0, none⟩) n0 n1 _ _ f0 f1 u5 RX05.out.ls RX15.out.ls (by omega) (by omega) T0.out).mono ?_
  rintro e u6 ⟨rfl, hb⟩
  have g6 : Below u5.heap.size u5 u6 := hb
  have s6 : u5.heap.size ≤ u6.heap.size := g6.size
  have RX06 := Lib.hid (RX05.out.below g6)
  have RX16 := Lib.hid (RX15.out.below g6)
  clear RX05 RX15
  have G6 := Lib.hid (bel_chain G5.out g6)
  clear hb g6
  go_wp2_with fail
  refine (toIntS_any a0 n0 c0 f0 u6 (L0.out.below G6.out) (by omega)).mono ?_
  rintro e u7 ⟨rfl, ho, hb, hs⟩
  have g7 : Below u6.heap.size u6 u7 := hb
  have s7 : u6.heap.size ≤ u7.heap.size := g7.size
  have RX07 := Lib.hid (RX06.out.below g7)
  have RX17 := Lib.hid (RX16.out.below g7)
  clear RX06 RX16
  have G7 := Lib.hid (bel_chain G6.out g7)
  have RY7 := Lib.hid (show Res u7 u6.heap.size u7.heap.size (some ⟨u6.heap.size, 0, none⟩) n0 f0 from .inr ⟨_, rfl, Nat.le_refl _, by omega, ho⟩)
  clear ho hb hs g7
  go_wp2_with fail
  refine (eqIntS_yes (some ⟨u3.heap.size, 0, none⟩) (some ⟨u6.heap.size, 0, none⟩) n0 _ _ f0 f0 u7 RX07.out.ls RY7.out.ls (by omega) (fun _ _ => rfl)).mono ?_
  rintro e u8 ⟨rfl, hm⟩
  have g8 : Below u7.heap.size u7 u8 := hm.bel0
  have s8 : u7.heap.size ≤ u8.heap.size := g8.size
  have RX08 := Lib.hid (RX07.out.below g8)
  have RX18 := Lib.hid (RX17.out.below g8)
  have RY8 := Lib.hid (RY7.out.below g8)
  clear RX07 RX17 RY7
  have G8 := Lib.hid (bel_chain G7.out g8)
  clear hm g8
  clear RY8
  go_wp2_with fail
  refine (toIntS_any a1 n1 c1 f1 u8 (L1.out.below G8.out) (by omega)).mono ?_
  rintro e u9 ⟨rfl, ho, hb, hs⟩
  have g9 : Below u8.heap.size u8 u9 := hb
  have s9 : u8.heap.size ≤ u9.heap.size := g9.size
  have RX09 := Lib.hid (RX08.out.below g9)
  have RX19 := Lib.hid (RX18.out.below g9)
  clear RX08 RX18
  have G9 := Lib.hid (bel_chain G8.out g9)
  have RY9 := Lib.hid (show Res u9 u8.heap.size u9.heap.size (some ⟨u8.heap.size, 0, none⟩) n1 f1 from .inr ⟨_, rfl, Nat.le_refl _, by omega, ho⟩)
  clear ho hb hs g9
  go_wp2_with fail
  refine (eqIntS_yes (some ⟨u4.heap.size, 0, none⟩) (some ⟨u8.heap.size, 0, none⟩) n1 _ _ f1 f1 u9 RX19.out.ls RY9.out.ls (by omega) (fun _ _ => rfl)).mono ?_
  rintro e u10 ⟨rfl, hm⟩
  have g10 : Below u9.heap.size u9 u10 := hm.bel0
  have s10 : u9.heap.size ≤ u10.heap.size := g10.size
  have RX010 := Lib.hid (RX09.out.below g10)
  have RX110 := Lib.hid (RX19.out.below g10)
  have RY10 := Lib.hid (RY9.out.below g10)
  clear RX09 RX19 RY9
  have G10 := Lib.hid (bel_chain G9.out g10)
  clear hm g10
  clear RY10
  go_wp2_with fail
  go_ret
  exact ⟨rfl, G10.out⟩
set_option maxRecDepth 100000 in
set_option maxHeartbeats 1000000 in
theorem wFnExactPilePlain (a0 : Option Addr) (n0 c0 : Nat) (z0 : List Int) (a1 : Option Addr) (n1 c1 : Nat) (z1 : List Int) (u0 : World) (h0 : IsRow .i64 u0 a0 n0 c0 z0) (h1 : IsRow .i64 u0 a1 n1 c1 z1) : Calls Try.prog 14 #[.slice a0 n0 c0, .slice a1 n1 c1] u0 fun e w' => e = .returned (.bool true) ∧ Below u0.heap.size u0 w' := by
  have l0 := h0.ls
  have t0 : Fit (fun k => z0.getD k 0) n0 := fun j hj => (h0.fit j hj).2
  have m0 := h0.max
  clear h0
  generalize (fun k => z0.getD k 0) = f0 at *
  have l1 := h1.ls
  have t1 : Fit (fun k => z1.getD k 0) n1 := fun j hj => (h1.fit j hj).2
  have m1 := h1.max
  clear h1
  generalize (fun k => z1.getD k 0) = f1 at *
  by_cases big0 : 1048576 < n0
  · go_enter Try.func14, Try.ntmps14
    go_wp2_with fail
    go_ret
    exact ⟨rfl, Below.refl _ _⟩
  by_cases big1 : 1048576 < n1
  · go_enter Try.func14, Try.ntmps14
    go_wp2_with fail
    go_ret
    exact ⟨rfl, Below.refl _ _⟩
  have L0 := Lib.hid l0; have T0 := Lib.hid t0; clear l0 t0
  have L1 := Lib.hid l1; have T1 := Lib.hid t1; clear l1 t1
  have G0 := Lib.hid (Below.refl u0.heap.size u0)
  go_enter Try.func14, Try.ntmps14
  go_wp2_with fail
  refine (toIntS_any a0 n0 c0 f0 u0 (L0.out.below G0.out) (by omega)).mono ?_
  rintro e u1 ⟨rfl, ho, hb, hs⟩
  have g1 : Below u0.heap.size u0 u1 := hb
  have s1 : u0.heap.size ≤ u1.heap.size := g1.size
  have G1 := Lib.hid (bel_chain G0.out g1)
  have RA01 := Lib.hid (show Res u1 u0.heap.size u1.heap.size (some ⟨u0.heap.size, 0, none⟩) n0 f0 from .inr ⟨_, rfl, Nat.le_refl _, by omega, ho⟩)
  clear ho hb hs g1
  go_wp2_with fail
  refine (toIntS_any a1 n1 c1 f1 u1 (L1.out.below G1.out) (by omega)).mono ?_
  rintro e u2 ⟨rfl, ho, hb, hs⟩
  have g2 : Below u1.heap.size u1 u2 := hb
  have s2 : u1.heap.size ≤ u2.heap.size := g2.size
  have RA02 := Lib.hid (RA01.out.below g2)
  clear RA01
  have G2 := Lib.hid (bel_chain G1.out g2)
  have RA12 := Lib.hid (show Res u2 u1.heap.size u2.heap.size (some ⟨u1.heap.size, 0, none⟩) n1 f1 from .inr ⟨_, rfl, Nat.le_refl _, by omega, ho⟩)
  clear ho hb hs g2
  go_wp2_with fail
  refine (sPilePlain_any (some ⟨u0.heap.size, 0, none⟩) (some ⟨u1.heap.size, 0, none⟩) n0 n1 _ _ f0 f1 u2 RA02.out.ls RA12.out.ls (by omega) (by omega)).mono ?_
  rintro e u3 ⟨rfl, hm⟩
  have g3 : Below u2.heap.size u2 u3 := hm.bel0
  have s3 : u2.heap.size ≤ u3.heap.size := g3.size
  have RA03 := Lib.hid (RA02.out.below g3)
  have RA13 := Lib.hid (RA12.out.below g3)
  clear RA02 RA12
  have G3 := Lib.hid (bel_chain G2.out g3)
  clear hm g3
  clear RA03
  clear RA13
  go_wp2_with fail
  refine (toIntS_any a0 n0 c0 f0 u3 (L0.out.below G3.out) (by omega)).mono ?_
  rintro e u4 ⟨rfl, ho, hb, hs⟩
  have g4 : Below u3.heap.size u3 u4 := hb
  have s4 : u3.heap.size ≤ u4.heap.size := g4.size
  have G4 := Lib.hid (bel_chain G3.out g4)
  have RX04 := Lib.hid (show Res u4 u3.heap.size u4.heap.size (some ⟨u3.heap.size, 0, none⟩) n0 f0 from .inr ⟨_, rfl, Nat.le_refl _, by omega, ho⟩)
  clear ho hb hs g4
  go_wp2_with fail
  refine (toIntS_any a1 n1 c1 f1 u4 (L1.out.below G4.out) (by omega)).mono ?_
  rintro e u5 ⟨rfl, ho, hb, hs⟩
  have g5 : Below u4.heap.size u4 u5 := hb
  have s5 : u4.heap.size ≤ u5.heap.size := g5.size
  have RX05 := Lib.hid (RX04.out.below g5)
  clear RX04
  have G5 := Lib.hid (bel_chain G4.out g5)
  have RX15 := Lib.hid (show Res u5 u4.heap.size u5.heap.size (some ⟨u4.heap.size, 0, none⟩) n1 f1 from .inr ⟨_, rfl, Nat.le_refl _, by omega, ho⟩)
  clear ho hb hs g5
  go_wp2_with fail
  refine (iPilePlain_any (some ⟨u3.heap.size, 0, none⟩) (some ⟨u4.heap.size, 0, none⟩) n0 n1 _ _ f0 f1 u5 RX05.out.ls RX15.out.ls (by omega) (by omega) T0.out).mono ?_
  rintro e u6 ⟨rfl, hb⟩
  have g6 : Below u5.heap.size u5 u6 := hb
  have s6 : u5.heap.size ≤ u6.heap.size := g6.size
  have RX06 := Lib.hid (RX05.out.below g6)
  have RX16 := Lib.hid (RX15.out.below g6)
  clear RX05 RX15
  have G6 := Lib.hid (bel_chain G5.out g6)
  clear hb g6
  go_wp2_with fail
  refine (toIntS_any a0 n0 c0 f0 u6 (L0.out.below G6.out) (by omega)).mono ?_
  rintro e u7 ⟨rfl, ho, hb, hs⟩
  have g7 : Below u6.heap.size u6 u7 := hb
  have s7 : u6.heap.size ≤ u7.heap.size := g7.size
  have RX07 := Lib.hid (RX06.out.below g7)
  have RX17 := Lib.hid (RX16.out.below g7)
  clear RX06 RX16
  have G7 := Lib.hid (bel_chain G6.out g7)
  have RY7 := Lib.hid (show Res u7 u6.heap.size u7.heap.size (some ⟨u6.heap.size, 0, none⟩) n0 f0 from .inr ⟨_, rfl, Nat.le_refl _, by omega, ho⟩)
  clear ho hb hs g7
  go_wp2_with fail
  refine (eqIntS_yes (some ⟨u3.heap.size, 0, none⟩) (some ⟨u6.heap.size, 0, none⟩) n0 _ _ f0 f0 u7 RX07.out.ls RY7.out.ls (by omega) (fun _ _ => rfl)).mono ?_
  rintro e u8 ⟨rfl, hm⟩
  have g8 : Below u7.heap.size u7 u8 := hm.bel0
  have s8 : u7.heap.size ≤ u8.heap.size := g8.size
  have RX08 := Lib.hid (RX07.out.below g8)
  have RX18 := Lib.hid (RX17.out.below g8)
  have RY8 := Lib.hid (RY7.out.below g8)
  clear RX07 RX17 RY7
  have G8 := Lib.hid (bel_chain G7.out g8)
  clear hm g8
  clear RY8
  go_wp2_with fail
  refine (toIntS_any a1 n1 c1 f1 u8 (L1.out.below G8.out) (by omega)).mono ?_
  rintro e u9 ⟨rfl, ho, hb, hs⟩
  have g9 : Below u8.heap.size u8 u9 := hb
  have s9 : u8.heap.size ≤ u9.heap.size := g9.size
  have RX09 := Lib.hid (RX08.out.below g9)
  have RX19 := Lib.hid (RX18.out.below g9)
  clear RX08 RX18
  have G9 := Lib.hid (bel_chain G8.out g9)
  have RY9 := Lib.hid (show Res u9 u8.heap.size u9.heap.size (some ⟨u8.heap.size, 0, none⟩) n1 f1 from .inr ⟨_, rfl, Nat.le_refl _, by omega, ho⟩)
  clear ho hb hs g9
  go_wp2_with fail
  refine (eqIntS_yes (some ⟨u4.heap.size, 0, none⟩) (some ⟨u8.heap.size, 0, none⟩) n1 _ _ f1 f1 u9 RX19.out.ls RY9.out.ls (by omega) (fun _ _ => rfl)).mono ?_
  rintro e u10 ⟨rfl, hm⟩
  have g10 : Below u9.heap.size u9 u10 := hm.bel0
  have s10 : u9.heap.size ≤ u10.heap.size := g10.size
  have RX010 := Lib.hid (RX09.out.below g10)
  have RX110 := Lib.hid (RX19.out.below g10)
  have RY10 := Lib.hid (RY9.out.below g10)
  clear RX09 RX19 RY9
  have G10 := Lib.hid (bel_chain G9.out g10)
  clear hm g10
  clear RY10
  go_wp2_with fail
  go_ret
  exact ⟨rfl, G10.out⟩
set_option maxRecDepth 100000 in
set_option maxHeartbeats 1000000 in
theorem wFnExactPileSize (a0 : Option Addr) (n0 c0 : Nat) (z0 : List Int) (a1 : Option Addr) (n1 c1 : Nat) (z1 : List Int) (u0 : World) (h0 : IsRow .i64 u0 a0 n0 c0 z0) (h1 : IsRow .i64 u0 a1 n1 c1 z1) : Calls Try.prog 17 #[.slice a0 n0 c0, .slice a1 n1 c1] u0 fun e w' => e = .returned (.bool true) ∧ Below u0.heap.size u0 w' := by
  have l0 := h0.ls
  have t0 : Fit (fun k => z0.getD k 0) n0 := fun j hj => (h0.fit j hj).2
  have m0 := h0.max
  clear h0
  generalize (fun k => z0.getD k 0) = f0 at *
  have l1 := h1.ls
  have t1 : Fit (fun k => z1.getD k 0) n1 := fun j hj => (h1.fit j hj).2
  have m1 := h1.max
  clear h1
  generalize (fun k => z1.getD k 0) = f1 at *
  by_cases big0 : 1048576 < n0
  · go_enter Try.func17, Try.ntmps17
    go_wp2_with fail
    go_ret
    exact ⟨rfl, Below.refl _ _⟩
  by_cases big1 : 1048576 < n1
  · go_enter Try.func17, Try.ntmps17
    go_wp2_with fail
    go_ret
    exact ⟨rfl, Below.refl _ _⟩
  have L0 := Lib.hid l0; have T0 := Lib.hid t0; clear l0 t0
  have L1 := Lib.hid l1; have T1 := Lib.hid t1; clear l1 t1
  have G0 := Lib.hid (Below.refl u0.heap.size u0)
  go_enter Try.func17, Try.ntmps17
  go_wp2_with fail
  refine (toIntS_any a0 n0 c0 f0 u0 (L0.out.below G0.out) (by omega)).mono ?_
  rintro e u1 ⟨rfl, ho, hb, hs⟩
  have g1 : Below u0.heap.size u0 u1 := hb
  have s1 : u0.heap.size ≤ u1.heap.size := g1.size
  have G1 := Lib.hid (bel_chain G0.out g1)
  have RA01 := Lib.hid (show Res u1 u0.heap.size u1.heap.size (some ⟨u0.heap.size, 0, none⟩) n0 f0 from .inr ⟨_, rfl, Nat.le_refl _, by omega, ho⟩)
  clear ho hb hs g1
  go_wp2_with fail
  refine (toIntS_any a1 n1 c1 f1 u1 (L1.out.below G1.out) (by omega)).mono ?_
  rintro e u2 ⟨rfl, ho, hb, hs⟩
  have g2 : Below u1.heap.size u1 u2 := hb
  have s2 : u1.heap.size ≤ u2.heap.size := g2.size
  have RA02 := Lib.hid (RA01.out.below g2)
  clear RA01
  have G2 := Lib.hid (bel_chain G1.out g2)
  have RA12 := Lib.hid (show Res u2 u1.heap.size u2.heap.size (some ⟨u1.heap.size, 0, none⟩) n1 f1 from .inr ⟨_, rfl, Nat.le_refl _, by omega, ho⟩)
  clear ho hb hs g2
  go_wp2_with fail
  refine (sPileSize_any (some ⟨u0.heap.size, 0, none⟩) (some ⟨u1.heap.size, 0, none⟩) n0 n1 _ _ f0 f1 u2 RA02.out.ls RA12.out.ls (by omega) (by omega)).mono ?_
  rintro e u3 ⟨rfl, hm⟩
  have g3 : Below u2.heap.size u2 u3 := hm.bel0
  have s3 : u2.heap.size ≤ u3.heap.size := g3.size
  have RA03 := Lib.hid (RA02.out.below g3)
  have RA13 := Lib.hid (RA12.out.below g3)
  clear RA02 RA12
  have G3 := Lib.hid (bel_chain G2.out g3)
  clear hm g3
  clear RA03
  clear RA13
  go_wp2_with fail
  refine (toIntS_any a0 n0 c0 f0 u3 (L0.out.below G3.out) (by omega)).mono ?_
  rintro e u4 ⟨rfl, ho, hb, hs⟩
  have g4 : Below u3.heap.size u3 u4 := hb
  have s4 : u3.heap.size ≤ u4.heap.size := g4.size
  have G4 := Lib.hid (bel_chain G3.out g4)
  have RX04 := Lib.hid (show Res u4 u3.heap.size u4.heap.size (some ⟨u3.heap.size, 0, none⟩) n0 f0 from .inr ⟨_, rfl, Nat.le_refl _, by omega, ho⟩)
  clear ho hb hs g4
  go_wp2_with fail
  refine (toIntS_any a1 n1 c1 f1 u4 (L1.out.below G4.out) (by omega)).mono ?_
  rintro e u5 ⟨rfl, ho, hb, hs⟩
  have g5 : Below u4.heap.size u4 u5 := hb
  have s5 : u4.heap.size ≤ u5.heap.size := g5.size
  have RX05 := Lib.hid (RX04.out.below g5)
  clear RX04
  have G5 := Lib.hid (bel_chain G4.out g5)
  have RX15 := Lib.hid (show Res u5 u4.heap.size u5.heap.size (some ⟨u4.heap.size, 0, none⟩) n1 f1 from .inr ⟨_, rfl, Nat.le_refl _, by omega, ho⟩)
  clear ho hb hs g5
  go_wp2_with fail
  refine (iPileSize_any (some ⟨u3.heap.size, 0, none⟩) (some ⟨u4.heap.size, 0, none⟩) n0 n1 _ _ f0 f1 u5 RX05.out.ls RX15.out.ls (by omega) (by omega) T0.out).mono ?_
  rintro e u6 ⟨rfl, hb⟩
  have g6 : Below u5.heap.size u5 u6 := hb
  have s6 : u5.heap.size ≤ u6.heap.size := g6.size
  have RX06 := Lib.hid (RX05.out.below g6)
  have RX16 := Lib.hid (RX15.out.below g6)
  clear RX05 RX15
  have G6 := Lib.hid (bel_chain G5.out g6)
  clear hb g6
  go_wp2_with fail
  refine (toIntS_any a0 n0 c0 f0 u6 (L0.out.below G6.out) (by omega)).mono ?_
  rintro e u7 ⟨rfl, ho, hb, hs⟩
  have g7 : Below u6.heap.size u6 u7 := hb
  have s7 : u6.heap.size ≤ u7.heap.size := g7.size
  have RX07 := Lib.hid (RX06.out.below g7)
  have RX17 := Lib.hid (RX16.out.below g7)
  clear RX06 RX16
  have G7 := Lib.hid (bel_chain G6.out g7)
  have RY7 := Lib.hid (show Res u7 u6.heap.size u7.heap.size (some ⟨u6.heap.size, 0, none⟩) n0 f0 from .inr ⟨_, rfl, Nat.le_refl _, by omega, ho⟩)
  clear ho hb hs g7
  go_wp2_with fail
  refine (eqIntS_yes (some ⟨u3.heap.size, 0, none⟩) (some ⟨u6.heap.size, 0, none⟩) n0 _ _ f0 f0 u7 RX07.out.ls RY7.out.ls (by omega) (fun _ _ => rfl)).mono ?_
  rintro e u8 ⟨rfl, hm⟩
  have g8 : Below u7.heap.size u7 u8 := hm.bel0
  have s8 : u7.heap.size ≤ u8.heap.size := g8.size
  have RX08 := Lib.hid (RX07.out.below g8)
  have RX18 := Lib.hid (RX17.out.below g8)
  have RY8 := Lib.hid (RY7.out.below g8)
  clear RX07 RX17 RY7
  have G8 := Lib.hid (bel_chain G7.out g8)
  clear hm g8
  clear RY8
  go_wp2_with fail
  refine (toIntS_any a1 n1 c1 f1 u8 (L1.out.below G8.out) (by omega)).mono ?_
  rintro e u9 ⟨rfl, ho, hb, hs⟩
  have g9 : Below u8.heap.size u8 u9 := hb
  have s9 : u8.heap.size ≤ u9.heap.size := g9.size
  have RX09 := Lib.hid (RX08.out.below g9)
  have RX19 := Lib.hid (RX18.out.below g9)
  clear RX08 RX18
  have G9 := Lib.hid (bel_chain G8.out g9)
  have RY9 := Lib.hid (show Res u9 u8.heap.size u9.heap.size (some ⟨u8.heap.size, 0, none⟩) n1 f1 from .inr ⟨_, rfl, Nat.le_refl _, by omega, ho⟩)
  clear ho hb hs g9
  go_wp2_with fail
  refine (eqIntS_yes (some ⟨u4.heap.size, 0, none⟩) (some ⟨u8.heap.size, 0, none⟩) n1 _ _ f1 f1 u9 RX19.out.ls RY9.out.ls (by omega) (fun _ _ => rfl)).mono ?_
  rintro e u10 ⟨rfl, hm⟩
  have g10 : Below u9.heap.size u9 u10 := hm.bel0
  have s10 : u9.heap.size ≤ u10.heap.size := g10.size
  have RX010 := Lib.hid (RX09.out.below g10)
  have RX110 := Lib.hid (RX19.out.below g10)
  have RY10 := Lib.hid (RY9.out.below g10)
  clear RX09 RX19 RY9
  have G10 := Lib.hid (bel_chain G9.out g10)
  clear hm g10
  clear RY10
  go_wp2_with fail
  go_ret
  exact ⟨rfl, G10.out⟩
set_option maxRecDepth 100000 in
set_option maxHeartbeats 1000000 in
theorem wFnExactPileSteps (a0 : Option Addr) (n0 c0 : Nat) (z0 : List Int) (a1 : Option Addr) (n1 c1 : Nat) (z1 : List Int) (u0 : World) (h0 : IsRow .i64 u0 a0 n0 c0 z0) (h1 : IsRow .i64 u0 a1 n1 c1 z1) : Calls Try.prog 18 #[.slice a0 n0 c0, .slice a1 n1 c1] u0 fun e w' => e = .returned (.bool true) ∧ Below u0.heap.size u0 w' := by
  have l0 := h0.ls
  have t0 : Fit (fun k => z0.getD k 0) n0 := fun j hj => (h0.fit j hj).2
  have m0 := h0.max
  clear h0
  generalize (fun k => z0.getD k 0) = f0 at *
  have l1 := h1.ls
  have t1 : Fit (fun k => z1.getD k 0) n1 := fun j hj => (h1.fit j hj).2
  have m1 := h1.max
  clear h1
  generalize (fun k => z1.getD k 0) = f1 at *
  by_cases big0 : 1048576 < n0
  · go_enter Try.func18, Try.ntmps18
    go_wp2_with fail
    go_ret
    exact ⟨rfl, Below.refl _ _⟩
  by_cases big1 : 1048576 < n1
  · go_enter Try.func18, Try.ntmps18
    go_wp2_with fail
    go_ret
    exact ⟨rfl, Below.refl _ _⟩
  have L0 := Lib.hid l0; have T0 := Lib.hid t0; clear l0 t0
  have L1 := Lib.hid l1; have T1 := Lib.hid t1; clear l1 t1
  have G0 := Lib.hid (Below.refl u0.heap.size u0)
  go_enter Try.func18, Try.ntmps18
  go_wp2_with fail
  refine (toIntS_any a0 n0 c0 f0 u0 (L0.out.below G0.out) (by omega)).mono ?_
  rintro e u1 ⟨rfl, ho, hb, hs⟩
  have g1 : Below u0.heap.size u0 u1 := hb
  have s1 : u0.heap.size ≤ u1.heap.size := g1.size
  have G1 := Lib.hid (bel_chain G0.out g1)
  have RA01 := Lib.hid (show Res u1 u0.heap.size u1.heap.size (some ⟨u0.heap.size, 0, none⟩) n0 f0 from .inr ⟨_, rfl, Nat.le_refl _, by omega, ho⟩)
  clear ho hb hs g1
  go_wp2_with fail
  refine (toIntS_any a1 n1 c1 f1 u1 (L1.out.below G1.out) (by omega)).mono ?_
  rintro e u2 ⟨rfl, ho, hb, hs⟩
  have g2 : Below u1.heap.size u1 u2 := hb
  have s2 : u1.heap.size ≤ u2.heap.size := g2.size
  have RA02 := Lib.hid (RA01.out.below g2)
  clear RA01
  have G2 := Lib.hid (bel_chain G1.out g2)
  have RA12 := Lib.hid (show Res u2 u1.heap.size u2.heap.size (some ⟨u1.heap.size, 0, none⟩) n1 f1 from .inr ⟨_, rfl, Nat.le_refl _, by omega, ho⟩)
  clear ho hb hs g2
  go_wp2_with fail
  refine (sPileSteps_any (some ⟨u0.heap.size, 0, none⟩) (some ⟨u1.heap.size, 0, none⟩) n0 n1 _ _ f0 f1 u2 RA02.out.ls RA12.out.ls (by omega) (by omega)).mono ?_
  rintro e u3 ⟨rfl, hm⟩
  have g3 : Below u2.heap.size u2 u3 := hm.bel0
  have s3 : u2.heap.size ≤ u3.heap.size := g3.size
  have RA03 := Lib.hid (RA02.out.below g3)
  have RA13 := Lib.hid (RA12.out.below g3)
  clear RA02 RA12
  have G3 := Lib.hid (bel_chain G2.out g3)
  clear hm g3
  clear RA03
  clear RA13
  go_wp2_with fail
  refine (toIntS_any a0 n0 c0 f0 u3 (L0.out.below G3.out) (by omega)).mono ?_
  rintro e u4 ⟨rfl, ho, hb, hs⟩
  have g4 : Below u3.heap.size u3 u4 := hb
  have s4 : u3.heap.size ≤ u4.heap.size := g4.size
  have G4 := Lib.hid (bel_chain G3.out g4)
  have RX04 := Lib.hid (show Res u4 u3.heap.size u4.heap.size (some ⟨u3.heap.size, 0, none⟩) n0 f0 from .inr ⟨_, rfl, Nat.le_refl _, by omega, ho⟩)
  clear ho hb hs g4
  go_wp2_with fail
  refine (toIntS_any a1 n1 c1 f1 u4 (L1.out.below G4.out) (by omega)).mono ?_
  rintro e u5 ⟨rfl, ho, hb, hs⟩
  have g5 : Below u4.heap.size u4 u5 := hb
  have s5 : u4.heap.size ≤ u5.heap.size := g5.size
  have RX05 := Lib.hid (RX04.out.below g5)
  clear RX04
  have G5 := Lib.hid (bel_chain G4.out g5)
  have RX15 := Lib.hid (show Res u5 u4.heap.size u5.heap.size (some ⟨u4.heap.size, 0, none⟩) n1 f1 from .inr ⟨_, rfl, Nat.le_refl _, by omega, ho⟩)
  clear ho hb hs g5
  go_wp2_with fail
  refine (iPileSteps_any (some ⟨u3.heap.size, 0, none⟩) (some ⟨u4.heap.size, 0, none⟩) n0 n1 _ _ f0 f1 u5 RX05.out.ls RX15.out.ls (by omega) (by omega) T0.out).mono ?_
  rintro e u6 ⟨rfl, hb⟩
  have g6 : Below u5.heap.size u5 u6 := hb
  have s6 : u5.heap.size ≤ u6.heap.size := g6.size
  have RX06 := Lib.hid (RX05.out.below g6)
  have RX16 := Lib.hid (RX15.out.below g6)
  clear RX05 RX15
  have G6 := Lib.hid (bel_chain G5.out g6)
  clear hb g6
  go_wp2_with fail
  refine (toIntS_any a0 n0 c0 f0 u6 (L0.out.below G6.out) (by omega)).mono ?_
  rintro e u7 ⟨rfl, ho, hb, hs⟩
  have g7 : Below u6.heap.size u6 u7 := hb
  have s7 : u6.heap.size ≤ u7.heap.size := g7.size
  have RX07 := Lib.hid (RX06.out.below g7)
  have RX17 := Lib.hid (RX16.out.below g7)
  clear RX06 RX16
  have G7 := Lib.hid (bel_chain G6.out g7)
  have RY7 := Lib.hid (show Res u7 u6.heap.size u7.heap.size (some ⟨u6.heap.size, 0, none⟩) n0 f0 from .inr ⟨_, rfl, Nat.le_refl _, by omega, ho⟩)
  clear ho hb hs g7
  go_wp2_with fail
  refine (eqIntS_yes (some ⟨u3.heap.size, 0, none⟩) (some ⟨u6.heap.size, 0, none⟩) n0 _ _ f0 f0 u7 RX07.out.ls RY7.out.ls (by omega) (fun _ _ => rfl)).mono ?_
  rintro e u8 ⟨rfl, hm⟩
  have g8 : Below u7.heap.size u7 u8 := hm.bel0
  have s8 : u7.heap.size ≤ u8.heap.size := g8.size
  have RX08 := Lib.hid (RX07.out.below g8)
  have RX18 := Lib.hid (RX17.out.below g8)
  have RY8 := Lib.hid (RY7.out.below g8)
  clear RX07 RX17 RY7
  have G8 := Lib.hid (bel_chain G7.out g8)
  clear hm g8
  clear RY8
  go_wp2_with fail
  refine (toIntS_any a1 n1 c1 f1 u8 (L1.out.below G8.out) (by omega)).mono ?_
  rintro e u9 ⟨rfl, ho, hb, hs⟩
  have g9 : Below u8.heap.size u8 u9 := hb
  have s9 : u8.heap.size ≤ u9.heap.size := g9.size
  have RX09 := Lib.hid (RX08.out.below g9)
  have RX19 := Lib.hid (RX18.out.below g9)
  clear RX08 RX18
  have G9 := Lib.hid (bel_chain G8.out g9)
  have RY9 := Lib.hid (show Res u9 u8.heap.size u9.heap.size (some ⟨u8.heap.size, 0, none⟩) n1 f1 from .inr ⟨_, rfl, Nat.le_refl _, by omega, ho⟩)
  clear ho hb hs g9
  go_wp2_with fail
  refine (eqIntS_yes (some ⟨u4.heap.size, 0, none⟩) (some ⟨u8.heap.size, 0, none⟩) n1 _ _ f1 f1 u9 RX19.out.ls RY9.out.ls (by omega) (fun _ _ => rfl)).mono ?_
  rintro e u10 ⟨rfl, hm⟩
  have g10 : Below u9.heap.size u9 u10 := hm.bel0
  have s10 : u9.heap.size ≤ u10.heap.size := g10.size
  have RX010 := Lib.hid (RX09.out.below g10)
  have RX110 := Lib.hid (RX19.out.below g10)
  have RY10 := Lib.hid (RY9.out.below g10)
  clear RX09 RX19 RY9
  have G10 := Lib.hid (bel_chain G9.out g10)
  clear hm g10
  clear RY10
  go_wp2_with fail
  go_ret
  exact ⟨rfl, G10.out⟩
end Go.Proofs.Ytbepcmjjgpbgaaa
