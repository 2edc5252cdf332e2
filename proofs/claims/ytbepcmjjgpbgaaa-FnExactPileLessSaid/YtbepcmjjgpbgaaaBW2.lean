/- The exact laws of chapter 2 that answer piles: their walks. -/
import Derived.Test.YtbepcmjjgpbgaaaBW
namespace Go.Proofs.Ytbepcmjjgpbgaaa
open Go.RowKit
set_option linter.unusedVariables false
set_option maxRecDepth 100000
set_option maxRecDepth 100000 in
set_option maxHeartbeats 1000000 in
theorem wFnExactPileOf (a0 : Option Addr) (n0 c0 : Nat) (z0 : List Int) (x1 : Int) (u0 : World) (h0 : IsRow .i64 u0 a0 n0 c0 z0) (h1 : (Lit.int .i64 x1).wf = true) : Calls Try.prog 12 #[.slice a0 n0 c0, .int .i64 x1] u0 fun e w' => e = .returned (.bool true) ∧ Below u0.heap.size u0 w' := by
  have l0 := h0.ls
  have t0 : Fit (fun k => z0.getD k 0) n0 := fun j hj => (h0.fit j hj).2
  have m0 := h0.max
  clear h0
  generalize (fun k => z0.getD k 0) = f0 at *
  clear h1
  by_cases big0 : 1048576 < n0
  · go_enter Try.func12, Try.ntmps12
    go_wp2_with fail
    go_ret
    exact ⟨rfl, Below.refl _ _⟩
  have L0 := Lib.hid l0; have T0 := Lib.hid t0; clear l0 t0
  have G0 := Lib.hid (Below.refl u0.heap.size u0)
  go_enter Try.func12, Try.ntmps12
  go_wp2_with fail
  refine (toIntS_any a0 n0 c0 f0 u0 (L0.out.below G0.out) (by omega)).mono ?_
  rintro e u1 ⟨rfl, ho, hb, hs⟩
  have g1 : Below u0.heap.size u0 u1 := hb
  have s1 : u0.heap.size ≤ u1.heap.size := g1.size
  have G1 := Lib.hid (bel_chain G0.out g1)
  have RA01 := Lib.hid (show Res u1 u0.heap.size u1.heap.size (some ⟨u0.heap.size, 0, none⟩) n0 f0 from .inr ⟨_, rfl, Nat.le_refl _, by omega, ho⟩)
  clear ho hb hs g1
  go_wp2_with fail
  refine (sPileOf_any (some ⟨u0.heap.size, 0, none⟩) n0 _ f0 x1 u1 RA01.out.ls (by omega)).mono ?_
  rintro e u2 hr
  obtain ⟨pS, mS, qS, rfl, hmS, hres, hb⟩ := hr
  have bS : mS ≤ 10000000 := by rw [hmS]; split <;> omega
  have eS : mS ≤ n0 := by rw [hmS]; split <;> omega
  have HmS := Lib.hid hmS; clear hmS
  have dS : decide (1 + (mS : Int) < 0) = false := decide_eq_false (by omega)
  have g2 : Below u1.heap.size u1 u2 := hb
  have s2 : u1.heap.size ≤ u2.heap.size := g2.size
  have RA02 := Lib.hid (RA01.out.below g2)
  clear RA01
  have G2 := Lib.hid (bel_chain G1.out g2)
  have RS2 : Hid (Res u2 u1.heap.size u2.heap.size pS mS (pl f0 n0 (x1))) := hres
  clear hres hb g2
  clear RA02
  go_wp2_with fail
  refine (toIntS_any a0 n0 c0 f0 u2 (L0.out.below G2.out) (by omega)).mono ?_
  rintro e u3 ⟨rfl, ho, hb, hs⟩
  have g3 : Below u2.heap.size u2 u3 := hb
  have s3 : u2.heap.size ≤ u3.heap.size := g3.size
  have RS3 := Lib.hid (RS2.out.below g3)
  clear RS2
  have G3 := Lib.hid (bel_chain G2.out g3)
  have RX03 := Lib.hid (show Res u3 u2.heap.size u3.heap.size (some ⟨u2.heap.size, 0, none⟩) n0 f0 from .inr ⟨_, rfl, Nat.le_refl _, by omega, ho⟩)
  clear ho hb hs g3
  go_wp2_with fail
  refine (iPileOf_any (some ⟨u2.heap.size, 0, none⟩) n0 _ f0 x1 u3 RX03.out.ls (by omega) T0.out).mono ?_
  rintro e u4 hr
  obtain ⟨pI, mI, qI, rfl, hmI, hres, hb⟩ := hr
  obtain rfl : mS = mI := HmS.out.trans hmI.symm
  clear hmI
  have g4 : Below u3.heap.size u3 u4 := hb
  have s4 : u3.heap.size ≤ u4.heap.size := g4.size
  have RS4 := Lib.hid (RS3.out.below g4)
  have RX04 := Lib.hid (RX03.out.below g4)
  clear RS3 RX03
  have G4 := Lib.hid (bel_chain G3.out g4)
  have RI4 : Hid (Res u4 u3.heap.size u4.heap.size pI mS (pl f0 n0 (x1))) := hres
  clear hres hb g4
  go_wp2_with fail
  refine (eqIntS_yes pI pS mS _ _ (pl f0 n0 (x1)) (pl f0 n0 (x1)) u4 RI4.out.ls RS4.out.ls (by omega) (fun _ _ => rfl)).mono ?_
  rintro e u5 ⟨rfl, hm⟩
  have g5 : Below u4.heap.size u4 u5 := hm.bel0
  have s5 : u4.heap.size ≤ u5.heap.size := g5.size
  have RS5 := Lib.hid (RS4.out.below g5)
  have RX05 := Lib.hid (RX04.out.below g5)
  have RI5 := Lib.hid (RI4.out.below g5)
  clear RS4 RX04 RI4
  have G5 := Lib.hid (bel_chain G4.out g5)
  clear hm g5
  go_wp2_with fail
  refine (toIntS_any a0 n0 c0 f0 u5 (L0.out.below G5.out) (by omega)).mono ?_
  rintro e u6 ⟨rfl, ho, hb, hs⟩
  have g6 : Below u5.heap.size u5 u6 := hb
  have s6 : u5.heap.size ≤ u6.heap.size := g6.size
  have RS6 := Lib.hid (RS5.out.below g6)
  have RX06 := Lib.hid (RX05.out.below g6)
  have RI6 := Lib.hid (RI5.out.below g6)
  clear RS5 RX05 RI5
  have G6 := Lib.hid (bel_chain G5.out g6)
  have RY6 := Lib.hid (show Res u6 u5.heap.size u6.heap.size (some ⟨u5.heap.size, 0, none⟩) n0 f0 from .inr ⟨_, rfl, Nat.le_refl _, by omega, ho⟩)
  clear ho hb hs g6
  go_wp2_with fail
  refine (eqIntS_yes (some ⟨u2.heap.size, 0, none⟩) (some ⟨u5.heap.size, 0, none⟩) n0 _ _ f0 f0 u6 RX06.out.ls RY6.out.ls (by omega) (fun _ _ => rfl)).mono ?_
  rintro e u7 ⟨rfl, hm⟩
  have g7 : Below u6.heap.size u6 u7 := hm.bel0
  have s7 : u6.heap.size ≤ u7.heap.size := g7.size
  have RS7 := Lib.hid (RS6.out.below g7)
  have RX07 := Lib.hid (RX06.out.below g7)
  have RI7 := Lib.hid (RI6.out.below g7)
  have RY7 := Lib.hid (RY6.out.below g7)
  clear RS6 RX06 RI6 RY6
  have G7 := Lib.hid (bel_chain G6.out g7)
  clear hm g7
  clear RY7
  go_wp2_with fail
  refine (markIntS_int u2.heap.size u3.heap.size (some ⟨u2.heap.size, 0, none⟩) n0 _ f0 (1) u7 RX07.out (by omega) (by omega) (by omega)).mono ?_
  rintro e u8 ⟨rfl, hr, hm⟩
  have RS8 := Lib.hid (RS7.out.mid hm (by omega))
  have RI8 := Lib.hid (RI7.out.mid hm (by omega))
  clear RS7 RX07 RI7
  have s8 : u7.heap.size ≤ u8.heap.size := Nat.le_of_eq hm.size.symm
  have G8 := Lib.hid (hm.bel G7.out (by omega))
  have RX08 := Lib.hid hr
  clear hr hm
  clear RX08
  have dk : decide (1 + ↑n0 < (0 : Int)) = false := decide_eq_false (by omega)
  go_wp2_with fail
  refine (eqIntS_yes pI pS mS _ _ (pl f0 n0 (x1)) (pl f0 n0 (x1)) u8 RI8.out.ls RS8.out.ls (by omega) (fun _ _ => rfl)).mono ?_
  rintro e u9 ⟨rfl, hm⟩
  have g9 : Below u8.heap.size u8 u9 := hm.bel0
  have s9 : u8.heap.size ≤ u9.heap.size := g9.size
  have RS9 := Lib.hid (RS8.out.below g9)
  have RI9 := Lib.hid (RI8.out.below g9)
  clear RS8 RI8
  have G9 := Lib.hid (bel_chain G8.out g9)
  clear hm g9
  go_wp2_with fail
  refine (markIntS_int u3.heap.size u4.heap.size pI mS _ (pl f0 n0 (x1)) (1) u9 RI9.out (by omega) (by omega) (by omega)).mono ?_
  rintro e u10 ⟨rfl, hr, hm⟩
  have RS10 := Lib.hid (RS9.out.mid hm (by omega))
  clear RS9 RI9
  have s10 : u9.heap.size ≤ u10.heap.size := Nat.le_of_eq hm.size.symm
  have G10 := Lib.hid (hm.bel G9.out (by omega))
  have RI10 := Lib.hid hr
  clear hr hm
  go_wp2_with fail
  refine (heldIntS_int pI mS _ (fun j => (1 : Int) + j) (1) u10 RI10.out.ls (by omega) (by omega) (by omega) (fun _ _ => rfl)).mono ?_
  rintro e u11 ⟨rfl, rfl⟩
  go_wp2_with fail
  refine (toIntS_any a0 n0 c0 f0 u10 (L0.out.below G10.out) (by omega)).mono ?_
  rintro e u11 ⟨rfl, ho, hb, hs⟩
  have g11 : Below u10.heap.size u10 u11 := hb
  have s11 : u10.heap.size ≤ u11.heap.size := g11.size
  have RS11 := Lib.hid (RS10.out.below g11)
  have RI11 := Lib.hid (RI10.out.below g11)
  clear RS10 RI10
  have G11 := Lib.hid (bel_chain G10.out g11)
  have RA011 := Lib.hid (show Res u11 u10.heap.size u11.heap.size (some ⟨u10.heap.size, 0, none⟩) n0 f0 from .inr ⟨_, rfl, Nat.le_refl _, by omega, ho⟩)
  clear ho hb hs g11
  go_wp2_with fail
  refine (iPileOf_any (some ⟨u10.heap.size, 0, none⟩) n0 _ f0 x1 u11 RA011.out.ls (by omega) T0.out).mono ?_
  rintro e u12 hr
  obtain ⟨pH, mH, qH, rfl, hmH, hres, hb⟩ := hr
  obtain rfl : mS = mH := HmS.out.trans hmH.symm
  clear hmH
  have g12 : Below u11.heap.size u11 u12 := hb
  have s12 : u11.heap.size ≤ u12.heap.size := g12.size
  have RS12 := Lib.hid (RS11.out.below g12)
  have RI12 := Lib.hid (RI11.out.below g12)
  have RA012 := Lib.hid (RA011.out.below g12)
  clear RS11 RI11 RA011
  have G12 := Lib.hid (bel_chain G11.out g12)
  have RH12 : Hid (Res u12 u11.heap.size u12.heap.size pH mS (pl f0 n0 (x1))) := hres
  clear hres hb g12
  go_wp2_with fail
  refine (eqIntS_yes pH pS mS _ _ (pl f0 n0 (x1)) (pl f0 n0 (x1)) u12 RH12.out.ls RS12.out.ls (by omega) (fun _ _ => rfl)).mono ?_
  rintro e u13 ⟨rfl, hm⟩
  have g13 : Below u12.heap.size u12 u13 := hm.bel0
  have s13 : u12.heap.size ≤ u13.heap.size := g13.size
  have RS13 := Lib.hid (RS12.out.below g13)
  have RI13 := Lib.hid (RI12.out.below g13)
  have RA013 := Lib.hid (RA012.out.below g13)
  have RH13 := Lib.hid (RH12.out.below g13)
  clear RS12 RI12 RA012 RH12
  have G13 := Lib.hid (bel_chain G12.out g13)
  clear hm g13
  go_wp2_with fail
  refine (heldIntS_int pI mS _ (fun j => (1 : Int) + j) (1) u13 RI13.out.ls (by omega) (by omega) (by omega) (fun _ _ => rfl)).mono ?_
  rintro e u14 ⟨rfl, rfl⟩
  go_wp2_with fail
  go_ret
  exact ⟨rfl, G13.out⟩
set_option maxRecDepth 100000 in
set_option maxHeartbeats 1000000 in
theorem wFnExactPileSum (a0 : Option Addr) (n0 c0 : Nat) (z0 : List Int) (a1 : Option Addr) (n1 c1 : Nat) (z1 : List Int) (a2 : Option Addr) (n2 c2 : Nat) (z2 : List Int) (u0 : World) (h0 : IsRow .i64 u0 a0 n0 c0 z0) (h1 : IsRow .i64 u0 a1 n1 c1 z1) (h2 : IsRow .i64 u0 a2 n2 c2 z2) : Calls Try.prog 15 #[.slice a0 n0 c0, .slice a1 n1 c1, .slice a2 n2 c2] u0 fun e w' => e = .returned (.bool true) ∧ Below u0.heap.size u0 w' := by
  have l0 := h0.ls
  have t0 : Fit (fun k => z0.getD k 0) n0 := fun j hj => (h0.fit j hj).2
  have m0 := h0.max
  clear h0
  generalize (fun k => z0.getD k 0) = f0 at *
  have l1 := h1.ls
  have t1 : Fit (fun k => z1.getD k 0) n1 := fun j hj => (h1.fit j hj).2
  have m1 := h1.max
  clear h1
  generalize (fun k => z1.getD k 0) = f1 at *
  have l2 := h2.ls
  have t2 : Fit (fun k => z2.getD k 0) n2 := fun j hj => (h2.fit j hj).2
  have m2 := h2.max
  clear h2
  generalize (fun k => z2.getD k 0) = f2 at *
  by_cases big0 : 1048576 < n0
  · go_enter Try.func15, Try.ntmps15
    go_wp2_with fail
    go_ret
    exact ⟨rfl, Below.refl _ _⟩
  by_cases big1 : 1048576 < n1
  · go_enter Try.func15, Try.ntmps15
    go_wp2_with fail
    go_ret
    exact ⟨rfl, Below.refl _ _⟩
  by_cases big2 : 1048576 < n2
  · go_enter Try.func15, Try.ntmps15
    go_wp2_with fail
    go_ret
    exact ⟨rfl, Below.refl _ _⟩
  have L0 := Lib.hid l0; have T0 := Lib.hid t0; clear l0 t0
  have L1 := Lib.hid l1; have T1 := Lib.hid t1; clear l1 t1
  have L2 := Lib.hid l2; have T2 := Lib.hid t2; clear l2 t2
  have G0 := Lib.hid (Below.refl u0.heap.size u0)
  go_enter Try.func15, Try.ntmps15
  go_wp2_with fail
  refine (toIntS_any a0 n0 c0 f0 u0 (L0.out.below G0.out) (by omega)).mono ?_
  rintro e u1 ⟨rfl, ho, hb, hs⟩
  have g1 : Below u0.heap.size u0 u1 := hb
  have s1 : u0.heap.size ≤ u1.heap.size := g1.size
  have G1 := Lib.hid (bel_chain G0.out g1)
  have RA01 := Lib.hid (show Res u1 u0.heap.size u1.heap.size (some ⟨u0.heap.size, 0, none⟩) n0 f0 from .inr ⟨_, rfl, Nat.le_refl _, by omega, ho⟩)
  clear ho hb hs g1
  go_wp2_with fail
  refine (toIntS_any a1 n1 c1 f1 u1 (L1.out.below G1.out) (by omega)).mono ?_
  rintro e u2 ⟨rfl, ho, hb, hs⟩
  have g2 : Below u1.heap.size u1 u2 := hb
  have s2 : u1.heap.size ≤ u2.heap.size := g2.size
  have RA02 := Lib.hid (RA01.out.below g2)
  clear RA01
  have G2 := Lib.hid (bel_chain G1.out g2)
  have RA12 := Lib.hid (show Res u2 u1.heap.size u2.heap.size (some ⟨u1.heap.size, 0, none⟩) n1 f1 from .inr ⟨_, rfl, Nat.le_refl _, by omega, ho⟩)
  clear ho hb hs g2
  go_wp2_with fail
  refine (toIntS_any a2 n2 c2 f2 u2 (L2.out.below G2.out) (by omega)).mono ?_
  rintro e u3 ⟨rfl, ho, hb, hs⟩
  have g3 : Below u2.heap.size u2 u3 := hb
  have s3 : u2.heap.size ≤ u3.heap.size := g3.size
  have RA03 := Lib.hid (RA02.out.below g3)
  have RA13 := Lib.hid (RA12.out.below g3)
  clear RA02 RA12
  have G3 := Lib.hid (bel_chain G2.out g3)
  have RA23 := Lib.hid (show Res u3 u2.heap.size u3.heap.size (some ⟨u2.heap.size, 0, none⟩) n2 f2 from .inr ⟨_, rfl, Nat.le_refl _, by omega, ho⟩)
  clear ho hb hs g3
  go_wp2_with fail
  refine (sPileSum_any (some ⟨u0.heap.size, 0, none⟩) (some ⟨u1.heap.size, 0, none⟩) (some ⟨u2.heap.size, 0, none⟩) n0 n1 n2 _ _ _ f0 f1 f2 u3 RA03.out.ls RA13.out.ls RA23.out.ls (by omega) (by omega) (by omega)).mono ?_
  rintro e u4 hr
  obtain ⟨pS, mS, qS, rfl, hmS, hres, hb⟩ := hr
  have bS : mS ≤ 10000000 := by rw [hmS]; split <;> omega
  have eS : mS ≤ n0 := by rw [hmS]; split <;> omega
  have HmS := Lib.hid hmS; clear hmS
  have dS : decide (1 + (mS : Int) < 0) = false := decide_eq_false (by omega)
  have g4 : Below u3.heap.size u3 u4 := hb
  have s4 : u3.heap.size ≤ u4.heap.size := g4.size
  have RA04 := Lib.hid (RA03.out.below g4)
  have RA14 := Lib.hid (RA13.out.below g4)
  have RA24 := Lib.hid (RA23.out.below g4)
  clear RA03 RA13 RA23
  have G4 := Lib.hid (bel_chain G3.out g4)
  have RS4 : Hid (Res u4 u3.heap.size u4.heap.size pS mS (pl f0 n0 (val f0 f1 n0 + val f0 f2 n0))) := hres
  clear hres hb g4
  clear RA04
  clear RA14
  clear RA24
  go_wp2_with fail
  refine (toIntS_any a0 n0 c0 f0 u4 (L0.out.below G4.out) (by omega)).mono ?_
  rintro e u5 ⟨rfl, ho, hb, hs⟩
  have g5 : Below u4.heap.size u4 u5 := hb
  have s5 : u4.heap.size ≤ u5.heap.size := g5.size
  have RS5 := Lib.hid (RS4.out.below g5)
  clear RS4
  have G5 := Lib.hid (bel_chain G4.out g5)
  have RX05 := Lib.hid (show Res u5 u4.heap.size u5.heap.size (some ⟨u4.heap.size, 0, none⟩) n0 f0 from .inr ⟨_, rfl, Nat.le_refl _, by omega, ho⟩)
  clear ho hb hs g5
  go_wp2_with fail
  refine (toIntS_any a1 n1 c1 f1 u5 (L1.out.below G5.out) (by omega)).mono ?_
  rintro e u6 ⟨rfl, ho, hb, hs⟩
  have g6 : Below u5.heap.size u5 u6 := hb
  have s6 : u5.heap.size ≤ u6.heap.size := g6.size
  have RS6 := Lib.hid (RS5.out.below g6)
  have RX06 := Lib.hid (RX05.out.below g6)
  clear RS5 RX05
  have G6 := Lib.hid (bel_chain G5.out g6)
  have RX16 := Lib.hid (show Res u6 u5.heap.size u6.heap.size (some ⟨u5.heap.size, 0, none⟩) n1 f1 from .inr ⟨_, rfl, Nat.le_refl _, by omega, ho⟩)
  clear ho hb hs g6
  go_wp2_with fail
  refine (toIntS_any a2 n2 c2 f2 u6 (L2.out.below G6.out) (by omega)).mono ?_
  rintro e u7 ⟨rfl, ho, hb, hs⟩
  have g7 : Below u6.heap.size u6 u7 := hb
  have s7 : u6.heap.size ≤ u7.heap.size := g7.size
  have RS7 := Lib.hid (RS6.out.below g7)
  have RX07 := Lib.hid (RX06.out.below g7)
  have RX17 := Lib.hid (RX16.out.below g7)
  clear RS6 RX06 RX16
  have G7 := Lib.hid (bel_chain G6.out g7)
  have RX27 := Lib.hid (show Res u7 u6.heap.size u7.heap.size (some ⟨u6.heap.size, 0, none⟩) n2 f2 from .inr ⟨_, rfl, Nat.le_refl _, by omega, ho⟩)
  clear ho hb hs g7
  go_wp2_with fail
  refine (iPileSum_any (some ⟨u4.heap.size, 0, none⟩) (some ⟨u5.heap.size, 0, none⟩) (some ⟨u6.heap.size, 0, none⟩) n0 n1 n2 _ _ _ f0 f1 f2 u7 RX07.out.ls RX17.out.ls RX27.out.ls (by omega) (by omega) (by omega) T0.out).mono ?_
  rintro e u8 hr
  obtain ⟨pI, mI, qI, rfl, hmI, hres, hb⟩ := hr
  obtain rfl : mS = mI := HmS.out.trans hmI.symm
  clear hmI
  have g8 : Below u7.heap.size u7 u8 := hb
  have s8 : u7.heap.size ≤ u8.heap.size := g8.size
  have RS8 := Lib.hid (RS7.out.below g8)
  have RX08 := Lib.hid (RX07.out.below g8)
  have RX18 := Lib.hid (RX17.out.below g8)
  have RX28 := Lib.hid (RX27.out.below g8)
  clear RS7 RX07 RX17 RX27
  have G8 := Lib.hid (bel_chain G7.out g8)
  have RI8 : Hid (Res u8 u7.heap.size u8.heap.size pI mS (pl f0 n0 (val f0 f1 n0 + val f0 f2 n0))) := hres
  clear hres hb g8
  go_wp2_with fail
  refine (eqIntS_yes pI pS mS _ _ (pl f0 n0 (val f0 f1 n0 + val f0 f2 n0)) (pl f0 n0 (val f0 f1 n0 + val f0 f2 n0)) u8 RI8.out.ls RS8.out.ls (by omega) (fun _ _ => rfl)).mono ?_
  rintro e u9 ⟨rfl, hm⟩
  have g9 : Below u8.heap.size u8 u9 := hm.bel0
  have s9 : u8.heap.size ≤ u9.heap.size := g9.size
  have RS9 := Lib.hid (RS8.out.below g9)
  have RX09 := Lib.hid (RX08.out.below g9)
  have RX19 := Lib.hid (RX18.out.below g9)
  have RX29 := Lib.hid (RX28.out.below g9)
  have RI9 := Lib.hid (RI8.out.below g9)
  clear RS8 RX08 RX18 RX28 RI8
  have G9 := Lib.hid (bel_chain G8.out g9)
  clear hm g9
  go_wp2_with fail
  refine (toIntS_any a0 n0 c0 f0 u9 (L0.out.below G9.out) (by omega)).mono ?_
  rintro e u10 ⟨rfl, ho, hb, hs⟩
  have g10 : Below u9.heap.size u9 u10 := hb
  have s10 : u9.heap.size ≤ u10.heap.size := g10.size
  have RS10 := Lib.hid (RS9.out.below g10)
  have RX010 := Lib.hid (RX09.out.below g10)
  have RX110 := Lib.hid (RX19.out.below g10)
  have RX210 := Lib.hid (RX29.out.below g10)
  have RI10 := Lib.hid (RI9.out.below g10)
  clear RS9 RX09 RX19 RX29 RI9
  have G10 := Lib.hid (bel_chain G9.out g10)
  have RY10 := Lib.hid (show Res u10 u9.heap.size u10.heap.size (some ⟨u9.heap.size, 0, none⟩) n0 f0 from .inr ⟨_, rfl, Nat.le_refl _, by omega, ho⟩)
  clear ho hb hs g10
  go_wp2_with fail
  refine (eqIntS_yes (some ⟨u4.heap.size, 0, none⟩) (some ⟨u9.heap.size, 0, none⟩) n0 _ _ f0 f0 u10 RX010.out.ls RY10.out.ls (by omega) (fun _ _ => rfl)).mono ?_
  rintro e u11 ⟨rfl, hm⟩
  have g11 : Below u10.heap.size u10 u11 := hm.bel0
  have s11 : u10.heap.size ≤ u11.heap.size := g11.size
  have RS11 := Lib.hid (RS10.out.below g11)
  have RX011 := Lib.hid (RX010.out.below g11)
  have RX111 := Lib.hid (RX110.out.below g11)
  have RX211 := Lib.hid (RX210.out.below g11)
  have RI11 := Lib.hid (RI10.out.below g11)
  have RY11 := Lib.hid (RY10.out.below g11)
  clear RS10 RX010 RX110 RX210 RI10 RY10
  have G11 := Lib.hid (bel_chain G10.out g11)
  clear hm g11
  clear RY11
  go_wp2_with fail
  refine (toIntS_any a1 n1 c1 f1 u11 (L1.out.below G11.out) (by omega)).mono ?_
  rintro e u12 ⟨rfl, ho, hb, hs⟩
  have g12 : Below u11.heap.size u11 u12 := hb
  have s12 : u11.heap.size ≤ u12.heap.size := g12.size
  have RS12 := Lib.hid (RS11.out.below g12)
  have RX012 := Lib.hid (RX011.out.below g12)
  have RX112 := Lib.hid (RX111.out.below g12)
  have RX212 := Lib.hid (RX211.out.below g12)
  have RI12 := Lib.hid (RI11.out.below g12)
  clear RS11 RX011 RX111 RX211 RI11
  have G12 := Lib.hid (bel_chain G11.out g12)
  have RY12 := Lib.hid (show Res u12 u11.heap.size u12.heap.size (some ⟨u11.heap.size, 0, none⟩) n1 f1 from .inr ⟨_, rfl, Nat.le_refl _, by omega, ho⟩)
  clear ho hb hs g12
  go_wp2_with fail
  refine (eqIntS_yes (some ⟨u5.heap.size, 0, none⟩) (some ⟨u11.heap.size, 0, none⟩) n1 _ _ f1 f1 u12 RX112.out.ls RY12.out.ls (by omega) (fun _ _ => rfl)).mono ?_
  rintro e u13 ⟨rfl, hm⟩
  have g13 : Below u12.heap.size u12 u13 := hm.bel0
  have s13 : u12.heap.size ≤ u13.heap.size := g13.size
  have RS13 := Lib.hid (RS12.out.below g13)
  have RX013 := Lib.hid (RX012.out.below g13)
  have RX113 := Lib.hid (RX112.out.below g13)
  have RX213 := Lib.hid (RX212.out.below g13)
  have RI13 := Lib.hid (RI12.out.below g13)
  have RY13 := Lib.hid (RY12.out.below g13)
  clear RS12 RX012 RX112 RX212 RI12 RY12
  have G13 := Lib.hid (bel_chain G12.out g13)
  clear hm g13
  clear RY13
  go_wp2_with fail
  refine (toIntS_any a2 n2 c2 f2 u13 (L2.out.below G13.out) (by omega)).mono ?_
  rintro e u14 ⟨rfl, ho, hb, hs⟩
  have g14 : Below u13.heap.size u13 u14 := hb
  have s14 : u13.heap.size ≤ u14.heap.size := g14.size
  have RS14 := Lib.hid (RS13.out.below g14)
  have RX014 := Lib.hid (RX013.out.below g14)
  have RX114 := Lib.hid (RX113.out.below g14)
  have RX214 := Lib.hid (RX213.out.below g14)
  have RI14 := Lib.hid (RI13.out.below g14)
  clear RS13 RX013 RX113 RX213 RI13
  have G14 := Lib.hid (bel_chain G13.out g14)
  have RY14 := Lib.hid (show Res u14 u13.heap.size u14.heap.size (some ⟨u13.heap.size, 0, none⟩) n2 f2 from .inr ⟨_, rfl, Nat.le_refl _, by omega, ho⟩)
  clear ho hb hs g14
  go_wp2_with fail
  refine (eqIntS_yes (some ⟨u6.heap.size, 0, none⟩) (some ⟨u13.heap.size, 0, none⟩) n2 _ _ f2 f2 u14 RX214.out.ls RY14.out.ls (by omega) (fun _ _ => rfl)).mono ?_
  rintro e u15 ⟨rfl, hm⟩
  have g15 : Below u14.heap.size u14 u15 := hm.bel0
  have s15 : u14.heap.size ≤ u15.heap.size := g15.size
  have RS15 := Lib.hid (RS14.out.below g15)
  have RX015 := Lib.hid (RX014.out.below g15)
  have RX115 := Lib.hid (RX114.out.below g15)
  have RX215 := Lib.hid (RX214.out.below g15)
  have RI15 := Lib.hid (RI14.out.below g15)
  have RY15 := Lib.hid (RY14.out.below g15)
  clear RS14 RX014 RX114 RX214 RI14 RY14
  have G15 := Lib.hid (bel_chain G14.out g15)
  clear hm g15
  clear RY15
  go_wp2_with fail
  refine (markIntS_int u4.heap.size u5.heap.size (some ⟨u4.heap.size, 0, none⟩) n0 _ f0 (1) u15 RX015.out (by omega) (by omega) (by omega)).mono ?_
  rintro e u16 ⟨rfl, hr, hm⟩
  have RS16 := Lib.hid (RS15.out.mid hm (by omega))
  have RX116 := Lib.hid (RX115.out.mid hm (by omega))
  have RX216 := Lib.hid (RX215.out.mid hm (by omega))
  have RI16 := Lib.hid (RI15.out.mid hm (by omega))
  clear RS15 RX015 RX115 RX215 RI15
  have s16 : u15.heap.size ≤ u16.heap.size := Nat.le_of_eq hm.size.symm
  have G16 := Lib.hid (hm.bel G15.out (by omega))
  have RX016 := Lib.hid hr
  clear hr hm
  clear RX016
  go_wp2_with fail
  refine (markIntS_int u5.heap.size u6.heap.size (some ⟨u5.heap.size, 0, none⟩) n1 _ f1 (1 + n0) u16 RX116.out (by omega) (by omega) (by omega)).mono ?_
  rintro e u17 ⟨rfl, hr, hm⟩
  have RS17 := Lib.hid (RS16.out.mid hm (by omega))
  have RX217 := Lib.hid (RX216.out.mid hm (by omega))
  have RI17 := Lib.hid (RI16.out.mid hm (by omega))
  clear RS16 RX116 RX216 RI16
  have s17 : u16.heap.size ≤ u17.heap.size := Nat.le_of_eq hm.size.symm
  have G17 := Lib.hid (hm.bel G16.out (by omega))
  have RX117 := Lib.hid hr
  clear hr hm
  clear RX117
  go_wp2_with fail
  refine (markIntS_int u6.heap.size u7.heap.size (some ⟨u6.heap.size, 0, none⟩) n2 _ f2 (1 + n0 + n1) u17 RX217.out (by omega) (by omega) (by omega)).mono ?_
  rintro e u18 ⟨rfl, hr, hm⟩
  have RS18 := Lib.hid (RS17.out.mid hm (by omega))
  have RI18 := Lib.hid (RI17.out.mid hm (by omega))
  clear RS17 RX217 RI17
  have s18 : u17.heap.size ≤ u18.heap.size := Nat.le_of_eq hm.size.symm
  have G18 := Lib.hid (hm.bel G17.out (by omega))
  have RX218 := Lib.hid hr
  clear hr hm
  clear RX218
  have dk : decide (1 + ↑n0 + ↑n1 + ↑n2 < (0 : Int)) = false := decide_eq_false (by omega)
  go_wp2_with fail
  refine (eqIntS_yes pI pS mS _ _ (pl f0 n0 (val f0 f1 n0 + val f0 f2 n0)) (pl f0 n0 (val f0 f1 n0 + val f0 f2 n0)) u18 RI18.out.ls RS18.out.ls (by omega) (fun _ _ => rfl)).mono ?_
  rintro e u19 ⟨rfl, hm⟩
  have g19 : Below u18.heap.size u18 u19 := hm.bel0
  have s19 : u18.heap.size ≤ u19.heap.size := g19.size
  have RS19 := Lib.hid (RS18.out.below g19)
  have RI19 := Lib.hid (RI18.out.below g19)
  clear RS18 RI18
  have G19 := Lib.hid (bel_chain G18.out g19)
  clear hm g19
  go_wp2_with fail
  refine (markIntS_int u7.heap.size u8.heap.size pI mS _ (pl f0 n0 (val f0 f1 n0 + val f0 f2 n0)) (1) u19 RI19.out (by omega) (by omega) (by omega)).mono ?_
  rintro e u20 ⟨rfl, hr, hm⟩
  have RS20 := Lib.hid (RS19.out.mid hm (by omega))
  clear RS19 RI19
  have s20 : u19.heap.size ≤ u20.heap.size := Nat.le_of_eq hm.size.symm
  have G20 := Lib.hid (hm.bel G19.out (by omega))
  have RI20 := Lib.hid hr
  clear hr hm
  go_wp2_with fail
  refine (heldIntS_int pI mS _ (fun j => (1 : Int) + j) (1) u20 RI20.out.ls (by omega) (by omega) (by omega) (fun _ _ => rfl)).mono ?_
  rintro e u21 ⟨rfl, rfl⟩
  go_wp2_with fail
  refine (toIntS_any a0 n0 c0 f0 u20 (L0.out.below G20.out) (by omega)).mono ?_
  rintro e u21 ⟨rfl, ho, hb, hs⟩
  have g21 : Below u20.heap.size u20 u21 := hb
  have s21 : u20.heap.size ≤ u21.heap.size := g21.size
  have RS21 := Lib.hid (RS20.out.below g21)
  have RI21 := Lib.hid (RI20.out.below g21)
  clear RS20 RI20
  have G21 := Lib.hid (bel_chain G20.out g21)
  have RA021 := Lib.hid (show Res u21 u20.heap.size u21.heap.size (some ⟨u20.heap.size, 0, none⟩) n0 f0 from .inr ⟨_, rfl, Nat.le_refl _, by omega, ho⟩)
  clear ho hb hs g21
  go_wp2_with fail
  refine (toIntS_any a1 n1 c1 f1 u21 (L1.out.below G21.out) (by omega)).mono ?_
  rintro e u22 ⟨rfl, ho, hb, hs⟩
  have g22 : Below u21.heap.size u21 u22 := hb
  have s22 : u21.heap.size ≤ u22.heap.size := g22.size
  have RS22 := Lib.hid (RS21.out.below g22)
  have RI22 := Lib.hid (RI21.out.below g22)
  have RA022 := Lib.hid (RA021.out.below g22)
  clear RS21 RI21 RA021
  have G22 := Lib.hid (bel_chain G21.out g22)
  have RA122 := Lib.hid (show Res u22 u21.heap.size u22.heap.size (some ⟨u21.heap.size, 0, none⟩) n1 f1 from .inr ⟨_, rfl, Nat.le_refl _, by omega, ho⟩)
  clear ho hb hs g22
  go_wp2_with fail
  refine (toIntS_any a2 n2 c2 f2 u22 (L2.out.below G22.out) (by omega)).mono ?_
  rintro e u23 ⟨rfl, ho, hb, hs⟩
  have g23 : Below u22.heap.size u22 u23 := hb
  have s23 : u22.heap.size ≤ u23.heap.size := g23.size
  have RS23 := Lib.hid (RS22.out.below g23)
  have RI23 := Lib.hid (RI22.out.below g23)
  have RA023 := Lib.hid (RA022.out.below g23)
  have RA123 := Lib.hid (RA122.out.below g23)
  clear RS22 RI22 RA022 RA122
  have G23 := Lib.hid (bel_chain G22.out g23)
  have RA223 := Lib.hid (show Res u23 u22.heap.size u23.heap.size (some ⟨u22.heap.size, 0, none⟩) n2 f2 from .inr ⟨_, rfl, Nat.le_refl _, by omega, ho⟩)
  clear ho hb hs g23
  go_wp2_with fail
  refine (iPileSum_any (some ⟨u20.heap.size, 0, none⟩) (some ⟨u21.heap.size, 0, none⟩) (some ⟨u22.heap.size, 0, none⟩) n0 n1 n2 _ _ _ f0 f1 f2 u23 RA023.out.ls RA123.out.ls RA223.out.ls (by omega) (by omega) (by omega) T0.out).mono ?_
  rintro e u24 hr
  obtain ⟨pH, mH, qH, rfl, hmH, hres, hb⟩ := hr
  obtain rfl : mS = mH := HmS.out.trans hmH.symm
  clear hmH
  have g24 : Below u23.heap.size u23 u24 := hb
  have s24 : u23.heap.size ≤ u24.heap.size := g24.size
  have RS24 := Lib.hid (RS23.out.below g24)
  have RI24 := Lib.hid (RI23.out.below g24)
  have RA024 := Lib.hid (RA023.out.below g24)
  have RA124 := Lib.hid (RA123.out.below g24)
  have RA224 := Lib.hid (RA223.out.below g24)
  clear RS23 RI23 RA023 RA123 RA223
  have G24 := Lib.hid (bel_chain G23.out g24)
  have RH24 : Hid (Res u24 u23.heap.size u24.heap.size pH mS (pl f0 n0 (val f0 f1 n0 + val f0 f2 n0))) := hres
  clear hres hb g24
  go_wp2_with fail
  refine (eqIntS_yes pH pS mS _ _ (pl f0 n0 (val f0 f1 n0 + val f0 f2 n0)) (pl f0 n0 (val f0 f1 n0 + val f0 f2 n0)) u24 RH24.out.ls RS24.out.ls (by omega) (fun _ _ => rfl)).mono ?_
  rintro e u25 ⟨rfl, hm⟩
  have g25 : Below u24.heap.size u24 u25 := hm.bel0
  have s25 : u24.heap.size ≤ u25.heap.size := g25.size
  have RS25 := Lib.hid (RS24.out.below g25)
  have RI25 := Lib.hid (RI24.out.below g25)
  have RA025 := Lib.hid (RA024.out.below g25)
  have RA125 := Lib.hid (RA124.out.below g25)
  have RA225 := Lib.hid (RA224.out.below g25)
  have RH25 := Lib.hid (RH24.out.below g25)
  clear RS24 RI24 RA024 RA124 RA224 RH24
  have G25 := Lib.hid (bel_chain G24.out g25)
  clear hm g25
  go_wp2_with fail
  refine (heldIntS_int pI mS _ (fun j => (1 : Int) + j) (1) u25 RI25.out.ls (by omega) (by omega) (by omega) (fun _ _ => rfl)).mono ?_
  rintro e u26 ⟨rfl, rfl⟩
  go_wp2_with fail
  go_ret
  exact ⟨rfl, G25.out⟩
set_option maxRecDepth 100000 in
set_option maxHeartbeats 1000000 in
theorem wFnExactPileLess (a0 : Option Addr) (n0 c0 : Nat) (z0 : List Int) (a1 : Option Addr) (n1 c1 : Nat) (z1 : List Int) (a2 : Option Addr) (n2 c2 : Nat) (z2 : List Int) (u0 : World) (h0 : IsRow .i64 u0 a0 n0 c0 z0) (h1 : IsRow .i64 u0 a1 n1 c1 z1) (h2 : IsRow .i64 u0 a2 n2 c2 z2) : Calls Try.prog 16 #[.slice a0 n0 c0, .slice a1 n1 c1, .slice a2 n2 c2] u0 fun e w' => e = .returned (.bool true) ∧ Below u0.heap.size u0 w' := by
  have l0 := h0.ls
  have t0 : Fit (fun k => z0.getD k 0) n0 := fun j hj => (h0.fit j hj).2
  have m0 := h0.max
  clear h0
  generalize (fun k => z0.getD k 0) = f0 at *
  have l1 := h1.ls
  have t1 : Fit (fun k => z1.getD k 0) n1 := fun j hj => (h1.fit j hj).2
  have m1 := h1.max
  clear h1
  generalize (fun k => z1.getD k 0) = f1 at *
  have l2 := h2.ls
  have t2 : Fit (fun k => z2.getD k 0) n2 := fun j hj => (h2.fit j hj).2
  have m2 := h2.max
  clear h2
  generalize (fun k => z2.getD k 0) = f2 at *
  by_cases big0 : 1048576 < n0
  · go_enter Try.func16, Try.ntmps16
    go_wp2_with fail
    go_ret
    exact ⟨rfl, Below.refl _ _⟩
  by_cases big1 : 1048576 < n1
  · go_enter Try.func16, Try.ntmps16
    go_wp2_with fail
    go_ret
    exact ⟨rfl, Below.refl _ _⟩
  by_cases big2 : 1048576 < n2
  · go_enter Try.func16, Try.ntmps16
    go_wp2_with fail
    go_ret
    exact ⟨rfl, Below.refl _ _⟩
  have L0 := Lib.hid l0; have T0 := Lib.hid t0; clear l0 t0
  have L1 := Lib.hid l1; have T1 := Lib.hid t1; clear l1 t1
  have L2 := Lib.hid l2; have T2 := Lib.hid t2; clear l2 t2
  have G0 := Lib.hid (Below.refl u0.heap.size u0)
  go_enter Try.func16, Try.ntmps16
  go_wp2_with fail
  refine (toIntS_any a0 n0 c0 f0 u0 (L0.out.below G0.out) (by omega)).mono ?_
  rintro e u1 ⟨rfl, ho, hb, hs⟩
  have g1 : Below u0.heap.size u0 u1 := hb
  have s1 : u0.heap.size ≤ u1.heap.size := g1.size
  have G1 := Lib.hid (bel_chain G0.out g1)
  have RA01 := Lib.hid (show Res u1 u0.heap.size u1.heap.size (some ⟨u0.heap.size, 0, none⟩) n0 f0 from .inr ⟨_, rfl, Nat.le_refl _, by omega, ho⟩)
  clear ho hb hs g1
  go_wp2_with fail
  refine (toIntS_any a1 n1 c1 f1 u1 (L1.out.below G1.out) (by omega)).mono ?_
  rintro e u2 ⟨rfl, ho, hb, hs⟩
  have g2 : Below u1.heap.size u1 u2 := hb
  have s2 : u1.heap.size ≤ u2.heap.size := g2.size
  have RA02 := Lib.hid (RA01.out.below g2)
  clear RA01
  have G2 := Lib.hid (bel_chain G1.out g2)
  have RA12 := Lib.hid (show Res u2 u1.heap.size u2.heap.size (some ⟨u1.heap.size, 0, none⟩) n1 f1 from .inr ⟨_, rfl, Nat.le_refl _, by omega, ho⟩)
  clear ho hb hs g2
  go_wp2_with fail
  refine (toIntS_any a2 n2 c2 f2 u2 (L2.out.below G2.out) (by omega)).mono ?_
  rintro e u3 ⟨rfl, ho, hb, hs⟩
  have g3 : Below u2.heap.size u2 u3 := hb
  have s3 : u2.heap.size ≤ u3.heap.size := g3.size
  have RA03 := Lib.hid (RA02.out.below g3)
  have RA13 := Lib.hid (RA12.out.below g3)
  clear RA02 RA12
  have G3 := Lib.hid (bel_chain G2.out g3)
  have RA23 := Lib.hid (show Res u3 u2.heap.size u3.heap.size (some ⟨u2.heap.size, 0, none⟩) n2 f2 from .inr ⟨_, rfl, Nat.le_refl _, by omega, ho⟩)
  clear ho hb hs g3
  go_wp2_with fail
  refine (sPileLess_any (some ⟨u0.heap.size, 0, none⟩) (some ⟨u1.heap.size, 0, none⟩) (some ⟨u2.heap.size, 0, none⟩) n0 n1 n2 _ _ _ f0 f1 f2 u3 RA03.out.ls RA13.out.ls RA23.out.ls (by omega) (by omega) (by omega)).mono ?_
  rintro e u4 hr
  obtain ⟨pS, mS, qS, rfl, hmS, hres, hb⟩ := hr
  have bS : mS ≤ 10000000 := by rw [hmS]; split <;> omega
  have eS : mS ≤ n0 := by rw [hmS]; split <;> omega
  have HmS := Lib.hid hmS; clear hmS
  have dS : decide (1 + (mS : Int) < 0) = false := decide_eq_false (by omega)
  have g4 : Below u3.heap.size u3 u4 := hb
  have s4 : u3.heap.size ≤ u4.heap.size := g4.size
  have RA04 := Lib.hid (RA03.out.below g4)
  have RA14 := Lib.hid (RA13.out.below g4)
  have RA24 := Lib.hid (RA23.out.below g4)
  clear RA03 RA13 RA23
  have G4 := Lib.hid (bel_chain G3.out g4)
  have RS4 : Hid (Res u4 u3.heap.size u4.heap.size pS mS (pl f0 n0 (val f0 f1 n0 - val f0 f2 n0))) := hres
  clear hres hb g4
  clear RA04
  clear RA14
  clear RA24
  go_wp2_with fail
  refine (toIntS_any a0 n0 c0 f0 u4 (L0.out.below G4.out) (by omega)).mono ?_
  rintro e u5 ⟨rfl, ho, hb, hs⟩
  have g5 : Below u4.heap.size u4 u5 := hb
  have s5 : u4.heap.size ≤ u5.heap.size := g5.size
  have RS5 := Lib.hid (RS4.out.below g5)
  clear RS4
  have G5 := Lib.hid (bel_chain G4.out g5)
  have RX05 := Lib.hid (show Res u5 u4.heap.size u5.heap.size (some ⟨u4.heap.size, 0, none⟩) n0 f0 from .inr ⟨_, rfl, Nat.le_refl _, by omega, ho⟩)
  clear ho hb hs g5
  go_wp2_with fail
  refine (toIntS_any a1 n1 c1 f1 u5 (L1.out.below G5.out) (by omega)).mono ?_
  rintro e u6 ⟨rfl, ho, hb, hs⟩
  have g6 : Below u5.heap.size u5 u6 := hb
  have s6 : u5.heap.size ≤ u6.heap.size := g6.size
  have RS6 := Lib.hid (RS5.out.below g6)
  have RX06 := Lib.hid (RX05.out.below g6)
  clear RS5 RX05
  have G6 := Lib.hid (bel_chain G5.out g6)
  have RX16 := Lib.hid (show Res u6 u5.heap.size u6.heap.size (some ⟨u5.heap.size, 0, none⟩) n1 f1 from .inr ⟨_, rfl, Nat.le_refl _, by omega, ho⟩)
  clear ho hb hs g6
  go_wp2_with fail
  refine (toIntS_any a2 n2 c2 f2 u6 (L2.out.below G6.out) (by omega)).mono ?_
  rintro e u7 ⟨rfl, ho, hb, hs⟩
  have g7 : Below u6.heap.size u6 u7 := hb
  have s7 : u6.heap.size ≤ u7.heap.size := g7.size
  have RS7 := Lib.hid (RS6.out.below g7)
  have RX07 := Lib.hid (RX06.out.below g7)
  have RX17 := Lib.hid (RX16.out.below g7)
  clear RS6 RX06 RX16
  have G7 := Lib.hid (bel_chain G6.out g7)
  have RX27 := Lib.hid (show Res u7 u6.heap.size u7.heap.size (some ⟨u6.heap.size, 0, none⟩) n2 f2 from .inr ⟨_, rfl, Nat.le_refl _, by omega, ho⟩)
  clear ho hb hs g7
  go_wp2_with fail
  refine (iPileLess_any (some ⟨u4.heap.size, 0, none⟩) (some ⟨u5.heap.size, 0, none⟩) (some ⟨u6.heap.size, 0, none⟩) n0 n1 n2 _ _ _ f0 f1 f2 u7 RX07.out.ls RX17.out.ls RX27.out.ls (by omega) (by omega) (by omega) T0.out).mono ?_
  rintro e u8 hr
  obtain ⟨pI, mI, qI, rfl, hmI, hres, hb⟩ := hr
  obtain rfl : mS = mI := HmS.out.trans hmI.symm
  clear hmI
  have g8 : Below u7.heap.size u7 u8 := hb
  have s8 : u7.heap.size ≤ u8.heap.size := g8.size
  have RS8 := Lib.hid (RS7.out.below g8)
  have RX08 := Lib.hid (RX07.out.below g8)
  have RX18 := Lib.hid (RX17.out.below g8)
  have RX28 := Lib.hid (RX27.out.below g8)
  clear RS7 RX07 RX17 RX27
  have G8 := Lib.hid (bel_chain G7.out g8)
  have RI8 : Hid (Res u8 u7.heap.size u8.heap.size pI mS (pl f0 n0 (val f0 f1 n0 - val f0 f2 n0))) := hres
  clear hres hb g8
  go_wp2_with fail
  refine (eqIntS_yes pI pS mS _ _ (pl f0 n0 (val f0 f1 n0 - val f0 f2 n0)) (pl f0 n0 (val f0 f1 n0 - val f0 f2 n0)) u8 RI8.out.ls RS8.out.ls (by omega) (fun _ _ => rfl)).mono ?_
  rintro e u9 ⟨rfl, hm⟩
  have g9 : Below u8.heap.size u8 u9 := hm.bel0
  have s9 : u8.heap.size ≤ u9.heap.size := g9.size
  have RS9 := Lib.hid (RS8.out.below g9)
  have RX09 := Lib.hid (RX08.out.below g9)
  have RX19 := Lib.hid (RX18.out.below g9)
  have RX29 := Lib.hid (RX28.out.below g9)
  have RI9 := Lib.hid (RI8.out.below g9)
  clear RS8 RX08 RX18 RX28 RI8
  have G9 := Lib.hid (bel_chain G8.out g9)
  clear hm g9
  go_wp2_with fail
  refine (toIntS_any a0 n0 c0 f0 u9 (L0.out.below G9.out) (by omega)).mono ?_
  rintro e u10 ⟨rfl, ho, hb, hs⟩
  have g10 : Below u9.heap.size u9 u10 := hb
  have s10 : u9.heap.size ≤ u10.heap.size := g10.size
  have RS10 := Lib.hid (RS9.out.below g10)
  have RX010 := Lib.hid (RX09.out.below g10)
  have RX110 := Lib.hid (RX19.out.below g10)
  have RX210 := Lib.hid (RX29.out.below g10)
  have RI10 := Lib.hid (RI9.out.below g10)
  clear RS9 RX09 RX19 RX29 RI9
  have G10 := Lib.hid (bel_chain G9.out g10)
  have RY10 := Lib.hid (show Res u10 u9.heap.size u10.heap.size (some ⟨u9.heap.size, 0, none⟩) n0 f0 from .inr ⟨_, rfl, Nat.le_refl _, by omega, ho⟩)
  clear ho hb hs g10
  go_wp2_with fail
  refine (eqIntS_yes (some ⟨u4.heap.size, 0, none⟩) (some ⟨u9.heap.size, 0, none⟩) n0 _ _ f0 f0 u10 RX010.out.ls RY10.out.ls (by omega) (fun _ _ => rfl)).mono ?_
  rintro e u11 ⟨rfl, hm⟩
  have g11 : Below u10.heap.size u10 u11 := hm.bel0
  have s11 : u10.heap.size ≤ u11.heap.size := g11.size
  have RS11 := Lib.hid (RS10.out.below g11)
  have RX011 := Lib.hid (RX010.out.below g11)
  have RX111 := Lib.hid (RX110.out.below g11)
  have RX211 := Lib.hid (RX210.out.below g11)
  have RI11 := Lib.hid (RI10.out.below g11)
  have RY11 := Lib.hid (RY10.out.below g11)
  clear RS10 RX010 RX110 RX210 RI10 RY10
  have G11 := Lib.hid (bel_chain G10.out g11)
  clear hm g11
  clear RY11
  go_wp2_with fail
  refine (toIntS_any a1 n1 c1 f1 u11 (L1.out.below G11.out) (by omega)).mono ?_
  rintro e u12 ⟨rfl, ho, hb, hs⟩
  have g12 : Below u11.heap.size u11 u12 := hb
  have s12 : u11.heap.size ≤ u12.heap.size := g12.size
  have RS12 := Lib.hid (RS11.out.below g12)
  have RX012 := Lib.hid (RX011.out.below g12)
  have RX112 := Lib.hid (RX111.out.below g12)
  have RX212 := Lib.hid (RX211.out.below g12)
  have RI12 := Lib.hid (RI11.out.below g12)
  clear RS11 RX011 RX111 RX211 RI11
  have G12 := Lib.hid (bel_chain G11.out g12)
  have RY12 := Lib.hid (show Res u12 u11.heap.size u12.heap.size (some ⟨u11.heap.size, 0, none⟩) n1 f1 from .inr ⟨_, rfl, Nat.le_refl _, by omega, ho⟩)
  clear ho hb hs g12
  go_wp2_with fail
  refine (eqIntS_yes (some ⟨u5.heap.size, 0, none⟩) (some ⟨u11.heap.size, 0, none⟩) n1 _ _ f1 f1 u12 RX112.out.ls RY12.out.ls (by omega) (fun _ _ => rfl)).mono ?_
  rintro e u13 ⟨rfl, hm⟩
  have g13 : Below u12.heap.size u12 u13 := hm.bel0
  have s13 : u12.heap.size ≤ u13.heap.size := g13.size
  have RS13 := Lib.hid (RS12.out.below g13)
  have RX013 := Lib.hid (RX012.out.below g13)
  have RX113 := Lib.hid (RX112.out.below g13)
  have RX213 := Lib.hid (RX212.out.below g13)
  have RI13 := Lib.hid (RI12.out.below g13)
  have RY13 := Lib.hid (RY12.out.below g13)
  clear RS12 RX012 RX112 RX212 RI12 RY12
  have G13 := Lib.hid (bel_chain G12.out g13)
  clear hm g13
  clear RY13
  go_wp2_with fail
  refine (toIntS_any a2 n2 c2 f2 u13 (L2.out.below G13.out) (by omega)).mono ?_
  rintro e u14 ⟨rfl, ho, hb, hs⟩
  have g14 : Below u13.heap.size u13 u14 := hb
  have s14 : u13.heap.size ≤ u14.heap.size := g14.size
  have RS14 := Lib.hid (RS13.out.below g14)
  have RX014 := Lib.hid (RX013.out.below g14)
  have RX114 := Lib.hid (RX113.out.below g14)
  have RX214 := Lib.hid (RX213.out.below g14)
  have RI14 := Lib.hid (RI13.out.below g14)
  clear RS13 RX013 RX113 RX213 RI13
  have G14 := Lib.hid (bel_chain G13.out g14)
  have RY14 := Lib.hid (show Res u14 u13.heap.size u14.heap.size (some ⟨u13.heap.size, 0, none⟩) n2 f2 from .inr ⟨_, rfl, Nat.le_refl _, by omega, ho⟩)
  clear ho hb hs g14
  go_wp2_with fail
  refine (eqIntS_yes (some ⟨u6.heap.size, 0, none⟩) (some ⟨u13.heap.size, 0, none⟩) n2 _ _ f2 f2 u14 RX214.out.ls RY14.out.ls (by omega) (fun _ _ => rfl)).mono ?_
  rintro e u15 ⟨rfl, hm⟩
  have g15 : Below u14.heap.size u14 u15 := hm.bel0
  have s15 : u14.heap.size ≤ u15.heap.size := g15.size
  have RS15 := Lib.hid (RS14.out.below g15)
  have RX015 := Lib.hid (RX014.out.below g15)
  have RX115 := Lib.hid (RX114.out.below g15)
  have RX215 := Lib.hid (RX214.out.below g15)
  have RI15 := Lib.hid (RI14.out.below g15)
  have RY15 := Lib.hid (RY14.out.below g15)
  clear RS14 RX014 RX114 RX214 RI14 RY14
  have G15 := Lib.hid (bel_chain G14.out g15)
  clear hm g15
  clear RY15
  go_wp2_with fail
  refine (markIntS_int u4.heap.size u5.heap.size (some ⟨u4.heap.size, 0, none⟩) n0 _ f0 (1) u15 RX015.out (by omega) (by omega) (by omega)).mono ?_
  rintro e u16 ⟨rfl, hr, hm⟩
  have RS16 := Lib.hid (RS15.out.mid hm (by omega))
  have RX116 := Lib.hid (RX115.out.mid hm (by omega))
  have RX216 := Lib.hid (RX215.out.mid hm (by omega))
  have RI16 := Lib.hid (RI15.out.mid hm (by omega))
  clear RS15 RX015 RX115 RX215 RI15
  have s16 : u15.heap.size ≤ u16.heap.size := Nat.le_of_eq hm.size.symm
  have G16 := Lib.hid (hm.bel G15.out (by omega))
  have RX016 := Lib.hid hr
  clear hr hm
  clear RX016
  go_wp2_with fail
  refine (markIntS_int u5.heap.size u6.heap.size (some ⟨u5.heap.size, 0, none⟩) n1 _ f1 (1 + n0) u16 RX116.out (by omega) (by omega) (by omega)).mono ?_
  rintro e u17 ⟨rfl, hr, hm⟩
  have RS17 := Lib.hid (RS16.out.mid hm (by omega))
  have RX217 := Lib.hid (RX216.out.mid hm (by omega))
  have RI17 := Lib.hid (RI16.out.mid hm (by omega))
  clear RS16 RX116 RX216 RI16
  have s17 : u16.heap.size ≤ u17.heap.size := Nat.le_of_eq hm.size.symm
  have G17 := Lib.hid (hm.bel G16.out (by omega))
  have RX117 := Lib.hid hr
  clear hr hm
  clear RX117
  go_wp2_with fail
  refine (markIntS_int u6.heap.size u7.heap.size (some ⟨u6.heap.size, 0, none⟩) n2 _ f2 (1 + n0 + n1) u17 RX217.out (by omega) (by omega) (by omega)).mono ?_
  rintro e u18 ⟨rfl, hr, hm⟩
  have RS18 := Lib.hid (RS17.out.mid hm (by omega))
  have RI18 := Lib.hid (RI17.out.mid hm (by omega))
  clear RS17 RX217 RI17
  have s18 : u17.heap.size ≤ u18.heap.size := Nat.le_of_eq hm.size.symm
  have G18 := Lib.hid (hm.bel G17.out (by omega))
  have RX218 := Lib.hid hr
  clear hr hm
  clear RX218
  have dk : decide (1 + ↑n0 + ↑n1 + ↑n2 < (0 : Int)) = false := decide_eq_false (by omega)
  go_wp2_with fail
  refine (eqIntS_yes pI pS mS _ _ (pl f0 n0 (val f0 f1 n0 - val f0 f2 n0)) (pl f0 n0 (val f0 f1 n0 - val f0 f2 n0)) u18 RI18.out.ls RS18.out.ls (by omega) (fun _ _ => rfl)).mono ?_
  rintro e u19 ⟨rfl, hm⟩
  have g19 : Below u18.heap.size u18 u19 := hm.bel0
  have s19 : u18.heap.size ≤ u19.heap.size := g19.size
  have RS19 := Lib.hid (RS18.out.below g19)
  have RI19 := Lib.hid (RI18.out.below g19)
  clear RS18 RI18
  have G19 := Lib.hid (bel_chain G18.out g19)
  clear hm g19
  go_wp2_with fail
  refine (markIntS_int u7.heap.size u8.heap.size pI mS _ (pl f0 n0 (val f0 f1 n0 - val f0 f2 n0)) (1) u19 RI19.out (by omega) (by omega) (by omega)).mono ?_
  rintro e u20 ⟨rfl, hr, hm⟩
  have RS20 := Lib.hid (RS19.out.mid hm (by omega))
  clear RS19 RI19
  have s20 : u19.heap.size ≤ u20.heap.size := Nat.le_of_eq hm.size.symm
  have G20 := Lib.hid (hm.bel G19.out (by omega))
  have RI20 := Lib.hid hr
  clear hr hm
  go_wp2_with fail
  refine (heldIntS_int pI mS _ (fun j => (1 : Int) + j) (1) u20 RI20.out.ls (by omega) (by omega) (by omega) (fun _ _ => rfl)).mono ?_
  rintro e u21 ⟨rfl, rfl⟩
  go_wp2_with fail
  refine (toIntS_any a0 n0 c0 f0 u20 (L0.out.below G20.out) (by omega)).mono ?_
  rintro e u21 ⟨rfl, ho, hb, hs⟩
  have g21 : Below u20.heap.size u20 u21 := hb
  have s21 : u20.heap.size ≤ u21.heap.size := g21.size
  have RS21 := Lib.hid (RS20.out.below g21)
  have RI21 := Lib.hid (RI20.out.below g21)
  clear RS20 RI20
  have G21 := Lib.hid (bel_chain G20.out g21)
  have RA021 := Lib.hid (show Res u21 u20.heap.size u21.heap.size (some ⟨u20.heap.size, 0, none⟩) n0 f0 from .inr ⟨_, rfl, Nat.le_refl _, by omega, ho⟩)
  clear ho hb hs g21
  go_wp2_with fail
  refine (toIntS_any a1 n1 c1 f1 u21 (L1.out.below G21.out) (by omega)).mono ?_
  rintro e u22 ⟨rfl, ho, hb, hs⟩
  have g22 : Below u21.heap.size u21 u22 := hb
  have s22 : u21.heap.size ≤ u22.heap.size := g22.size
  have RS22 := Lib.hid (RS21.out.below g22)
  have RI22 := Lib.hid (RI21.out.below g22)
  have RA022 := Lib.hid (RA021.out.below g22)
  clear RS21 RI21 RA021
  have G22 := Lib.hid (bel_chain G21.out g22)
  have RA122 := Lib.hid (show Res u22 u21.heap.size u22.heap.size (some ⟨u21.heap.size, 0, none⟩) n1 f1 from .inr ⟨_, rfl, Nat.le_refl _, by omega, ho⟩)
  clear ho hb hs g22
  go_wp2_with fail
  refine (toIntS_any a2 n2 c2 f2 u22 (L2.out.below G22.out) (by omega)).mono ?_
  rintro e u23 ⟨rfl, ho, hb, hs⟩
  have g23 : Below u22.heap.size u22 u23 := hb
  have s23 : u22.heap.size ≤ u23.heap.size := g23.size
  have RS23 := Lib.hid (RS22.out.below g23)
  have RI23 := Lib.hid (RI22.out.below g23)
  have RA023 := Lib.hid (RA022.out.below g23)
  have RA123 := Lib.hid (RA122.out.below g23)
  clear RS22 RI22 RA022 RA122
  have G23 := Lib.hid (bel_chain G22.out g23)
  have RA223 := Lib.hid (show Res u23 u22.heap.size u23.heap.size (some ⟨u22.heap.size, 0, none⟩) n2 f2 from .inr ⟨_, rfl, Nat.le_refl _, by omega, ho⟩)
  clear ho hb hs g23
  go_wp2_with fail
  refine (iPileLess_any (some ⟨u20.heap.size, 0, none⟩) (some ⟨u21.heap.size, 0, none⟩) (some ⟨u22.heap.size, 0, none⟩) n0 n1 n2 _ _ _ f0 f1 f2 u23 RA023.out.ls RA123.out.ls RA223.out.ls (by omega) (by omega) (by omega) T0.out).mono ?_
  rintro e u24 hr
  obtain ⟨pH, mH, qH, rfl, hmH, hres, hb⟩ := hr
  obtain rfl : mS = mH := HmS.out.trans hmH.symm
  clear hmH
  have g24 : Below u23.heap.size u23 u24 := hb
  have s24 : u23.heap.size ≤ u24.heap.size := g24.size
  have RS24 := Lib.hid (RS23.out.below g24)
  have RI24 := Lib.hid (RI23.out.below g24)
  have RA024 := Lib.hid (RA023.out.below g24)
  have RA124 := Lib.hid (RA123.out.below g24)
  have RA224 := Lib.hid (RA223.out.below g24)
  clear RS23 RI23 RA023 RA123 RA223
  have G24 := Lib.hid (bel_chain G23.out g24)
  have RH24 : Hid (Res u24 u23.heap.size u24.heap.size pH mS (pl f0 n0 (val f0 f1 n0 - val f0 f2 n0))) := hres
  clear hres hb g24
  go_wp2_with fail
  refine (eqIntS_yes pH pS mS _ _ (pl f0 n0 (val f0 f1 n0 - val f0 f2 n0)) (pl f0 n0 (val f0 f1 n0 - val f0 f2 n0)) u24 RH24.out.ls RS24.out.ls (by omega) (fun _ _ => rfl)).mono ?_
  rintro e u25 ⟨rfl, hm⟩
  have g25 : Below u24.heap.size u24 u25 := hm.bel0
  have s25 : u24.heap.size ≤ u25.heap.size := g25.size
  have RS25 := Lib.hid (RS24.out.below g25)
  have RI25 := Lib.hid (RI24.out.below g25)
  have RA025 := Lib.hid (RA024.out.below g25)
  have RA125 := Lib.hid (RA124.out.below g25)
  have RA225 := Lib.hid (RA224.out.below g25)
  have RH25 := Lib.hid (RH24.out.below g25)
  clear RS24 RI24 RA024 RA124 RA224 RH24
  have G25 := Lib.hid (bel_chain G24.out g25)
  clear hm g25
  go_wp2_with fail
  refine (heldIntS_int pI mS _ (fun j => (1 : Int) + j) (1) u25 RI25.out.ls (by omega) (by omega) (by omega) (fun _ _ => rfl)).mono ?_
  rintro e u26 ⟨rfl, rfl⟩
  go_wp2_with fail
  go_ret
  exact ⟨rfl, G25.out⟩
end Go.Proofs.Ytbepcmjjgpbgaaa
