/- The exact laws of chapter 5: their walks (printed by gent.py). -/
import Derived.Test.YtgcalmenlcpjpaaDoorEL
namespace Go.Proofs.YtgcalmenlcpjpaaDoor
open Go.RowKit
set_option linter.unusedVariables false
set_option maxRecDepth 100000
theorem markIntS_rint (lo hi : Nat) (a : Option Addr) (n c : Nat) (f : Nat → Int) (k0 : Int) (w : World) (h : Rsp w lo hi a n f) (hn : n ≤ 10000000) (hk : 0 ≤ k0) (hk0 : k0 ≤ 1000000000) :
    Calls Tryd.prog 38 #[.slice a n c, .int .i64 k0] w fun e w' => e = .returned (.int .i64 (k0 + n)) ∧ Rsp w' lo hi a n (fun j => k0 + j) ∧ Mid lo hi w w' := by
  obtain ⟨k, rfl⟩ := Int.eq_ofNat_of_zero_le hk
  exact markIntS_row lo hi a n c f k w h hn (by omega)
theorem heldIntS_rint (a : Option Addr) (n c : Nat) (f : Nat → Int) (k0 : Int) (w : World) (h : Ls w a n f) (hn : n ≤ 10000000) (hk : 0 ≤ k0) (hk0 : k0 ≤ 1000000000) (e : ∀ j, j < n → f j = k0 + j) :
    Calls Tryd.prog 39 #[.slice a n c, .int .i64 k0] w fun e w' => e = .returned (.int .i64 (k0 + n)) ∧ w = w' := by
  obtain ⟨k, rfl⟩ := Int.eq_ofNat_of_zero_le hk
  exact heldIntS_yes a n c f k w h hn (by omega) e
set_option maxRecDepth 100000 in
set_option maxHeartbeats 1000000 in
theorem wFnExactTakenOf (a0 : Option Addr) (n0 c0 : Nat) (z0 : List Int) (x1 : Int) (u0 : World) (h0 : IsRow .i64 u0 a0 n0 c0 z0) (h1 : (Lit.int .i64 x1).wf = true) (hGV : GV u0) : Calls Tryd.prog 9 #[.slice a0 n0 c0, .int .i64 x1] u0 fun e w' => e = .returned (.bool true) ∧ Below u0.heap.size u0 w' := by
  have GV0 := Lib.hid hGV; clear hGV
  have l0 := h0.ls
  have t0 : Bnd (fun k => z0.getD k 0) n0 := fun j hj => h0.fit j hj
  have m0 := h0.max
  clear h0
  generalize (fun k => z0.getD k 0) = f0 at *
  have wf1 := int_ok h1
  clear h1
  by_cases big0 : 1048576 < n0
  · go_enter Tryd.func9, Tryd.ntmps9
    go_wp2_with fail
    go_ret
    exact ⟨rfl, Below.refl _ _⟩
  have L0 := Lib.hid l0; have T0 := Lib.hid t0; clear l0 t0
  have G0 := Lib.hid (Below.refl u0.heap.size u0)
  go_enter Tryd.func9, Tryd.ntmps9
  go_wp2_with fail
  refine (toIntS_any a0 n0 c0 f0 u0 (L0.out.below G0.out) (by omega)).mono ?_
  rintro e u1 ⟨rfl, ho, hb, hs⟩
  have g1 : Below u0.heap.size u0 u1 := hb
  have s1 : u0.heap.size ≤ u1.heap.size := g1.size
  have G1 := Lib.hid (bel_chain G0.out g1)
  have RA01 := Lib.hid ((show Res u1 u0.heap.size u1.heap.size (some ⟨u0.heap.size, 0, none⟩) n0 f0 from .inr ⟨_, rfl, Nat.le_refl _, by omega, ho⟩).rsp)
  clear ho hb hs g1
  go_wp2_with fail
  refine (sTakenOf_any (some ⟨u0.heap.size, 0, none⟩) n0 _ f0 x1 u1 RA01.out.ls (by omega)).mono ?_
  rintro e u2 hr
  obtain ⟨pS, mS, qS, rfl, hmS, hres, hb⟩ := hr
  have bS : mS ≤ 10000000 := by rw [hmS]; split <;> omega
  have HmS := Lib.hid hmS; clear hmS
  have dS : decide (1 + (mS : Int) < 0) = false := decide_eq_false (by omega)
  have g2 : Below u1.heap.size u1 u2 := hb
  have s2 : u1.heap.size ≤ u2.heap.size := g2.size
  have RA02 := Lib.hid (RA01.out.below g2)
  clear RA01
  have G2 := Lib.hid (bel_chain G1.out g2)
  have RS2 : Hid (Rsp u2 u1.heap.size u2.heap.size pS mS (tkF f0 n0 x1)) := hres
  clear hres hb g2
  clear RA02
  go_wp2_with fail
  refine (toIntS_any a0 n0 c0 f0 u2 (L0.out.below G2.out) (by omega)).mono ?_
  rintro e u3 ⟨rfl, ho, hb, hs⟩
  have g3 : Below u2.heap.size u2 u3 := hb
  have s3 : u2.heap.size ≤ u3.heap.size := g3.size
  have RS3 := Lib.hid (RS2.out.below g3)
  clear RS2
  have G3 := Lib.hid (bel_chain G2.out g3)
  have RX03 := Lib.hid ((show Res u3 u2.heap.size u3.heap.size (some ⟨u2.heap.size, 0, none⟩) n0 f0 from .inr ⟨_, rfl, Nat.le_refl _, by omega, ho⟩).rsp)
  clear ho hb hs g3
  go_wp2_with fail
  refine (iTakenOf_any (some ⟨u2.heap.size, 0, none⟩) n0 _ f0 x1 u3 RX03.out.ls (by omega) T0.out wf1 (GV0.out.step G3.out)).mono ?_
  rintro e u4 hr
  obtain ⟨pI, mI, qI, rfl, hmI, hres, hb⟩ := hr
  obtain rfl : mS = mI := HmS.out.trans hmI.symm
  clear hmI
  have g4 : Below u3.heap.size u3 u4 := hb
  have s4 : u3.heap.size ≤ u4.heap.size := g4.size
  have RS4 := Lib.hid (RS3.out.below g4)
  have RX04 := Lib.hid (RX03.out.below g4)
  clear RS3 RX03
  have G4 := Lib.hid (bel_chain G3.out g4)
  have RI4 : Hid (Rsp u4 u3.heap.size u4.heap.size pI mS (tkF f0 n0 x1)) := hres
  clear hres hb g4
  go_wp2_with fail
  refine (eqIntS_yes pI pS mS _ _ (tkF f0 n0 x1) (tkF f0 n0 x1) u4 RI4.out.ls RS4.out.ls (by omega) (fun _ _ => rfl)).mono ?_
  rintro e u5 ⟨rfl, hm⟩
  have g5 : Below u4.heap.size u4 u5 := hm.bel0
  have s5 : u4.heap.size ≤ u5.heap.size := g5.size
  have RS5 := Lib.hid (RS4.out.below g5)
  have RX05 := Lib.hid (RX04.out.below g5)
  have RI5 := Lib.hid (RI4.out.below g5)
  clear RS4 RX04 RI4
  have G5 := Lib.hid (bel_chain G4.out g5)
  clear hm g5
  go_wp2_with fail
  refine (toIntS_any a0 n0 c0 f0 u5 (L0.out.below G5.out) (by omega)).mono ?_
  rintro e u6 ⟨rfl, ho, hb, hs⟩
  have g6 : Below u5.heap.size u5 u6 := hb
  have s6 : u5.heap.size ≤ u6.heap.size := g6.size
  have RS6 := Lib.hid (RS5.out.below g6)
  have RX06 := Lib.hid (RX05.out.below g6)
  have RI6 := Lib.hid (RI5.out.below g6)
  clear RS5 RX05 RI5
  have G6 := Lib.hid (bel_chain G5.out g6)
  have RY6 := Lib.hid ((show Res u6 u5.heap.size u6.heap.size (some ⟨u5.heap.size, 0, none⟩) n0 f0 from .inr ⟨_, rfl, Nat.le_refl _, by omega, ho⟩).rsp)
  clear ho hb hs g6
  go_wp2_with fail
  refine (eqIntS_yes (some ⟨u2.heap.size, 0, none⟩) (some ⟨u5.heap.size, 0, none⟩) n0 _ _ f0 f0 u6 RX06.out.ls RY6.out.ls (by omega) (fun _ _ => rfl)).mono ?_
  rintro e u7 ⟨rfl, hm⟩
  have g7 : Below u6.heap.size u6 u7 := hm.bel0
  have s7 : u6.heap.size ≤ u7.heap.size := g7.size
  have RS7 := Lib.hid (RS6.out.below g7)
  have RX07 := Lib.hid (RX06.out.below g7)
  have RI7 := Lib.hid (RI6.out.below g7)
  have RY7 := Lib.hid (RY6.out.below g7)
  clear RS6 RX06 RI6 RY6
  have G7 := Lib.hid (bel_chain G6.out g7)
  clear hm g7
  clear RY7
  go_wp2_with fail
  refine (markIntS_rint u2.heap.size u3.heap.size (some ⟨u2.heap.size, 0, none⟩) n0 _ f0 (1) u7 RX07.out (by omega) (by omega) (by omega)).mono ?_
  rintro e u8 ⟨rfl, hr, hm⟩
  have RS8 := Lib.hid (RS7.out.mid hm (by omega))
  have RI8 := Lib.hid (RI7.out.mid hm (by omega))
  clear RS7 RX07 RI7
  have s8 : u7.heap.size ≤ u8.heap.size := Nat.le_of_eq hm.size.symm
  have G8 := Lib.hid (hm.bel G7.out (by omega))
  have RX08 := Lib.hid hr
  clear hr hm
  clear RX08
  have dk : decide (1 + ↑n0 < (0 : Int)) = false := decide_eq_false (by omega)
  go_wp2_with fail
  refine (eqIntS_yes pI pS mS _ _ (tkF f0 n0 x1) (tkF f0 n0 x1) u8 RI8.out.ls RS8.out.ls (by omega) (fun _ _ => rfl)).mono ?_
  rintro e u9 ⟨rfl, hm⟩
  have g9 : Below u8.heap.size u8 u9 := hm.bel0
  have s9 : u8.heap.size ≤ u9.heap.size := g9.size
  have RS9 := Lib.hid (RS8.out.below g9)
  have RI9 := Lib.hid (RI8.out.below g9)
  clear RS8 RI8
  have G9 := Lib.hid (bel_chain G8.out g9)
  clear hm g9
  go_wp2_with fail
  refine (markIntS_rint u3.heap.size u4.heap.size pI mS _ (tkF f0 n0 x1) (1) u9 RI9.out (by omega) (by omega) (by omega)).mono ?_
  rintro e u10 ⟨rfl, hr, hm⟩
  have RS10 := Lib.hid (RS9.out.mid hm (by omega))
  clear RS9 RI9
  have s10 : u9.heap.size ≤ u10.heap.size := Nat.le_of_eq hm.size.symm
  have G10 := Lib.hid (hm.bel G9.out (by omega))
  have RI10 := Lib.hid hr
  clear hr hm
  go_wp2_with fail
  refine (heldIntS_rint pI mS _ (fun j => (1 : Int) + j) (1) u10 RI10.out.ls (by omega) (by omega) (by omega) (fun _ _ => rfl)).mono ?_
  rintro e u11 ⟨rfl, rfl⟩
  go_wp2_with fail
  refine (toIntS_any a0 n0 c0 f0 u10 (L0.out.below G10.out) (by omega)).mono ?_
  rintro e u11 ⟨rfl, ho, hb, hs⟩
  have g11 : Below u10.heap.size u10 u11 := hb
  have s11 : u10.heap.size ≤ u11.heap.size := g11.size
  have RS11 := Lib.hid (RS10.out.below g11)
  have RI11 := Lib.hid (RI10.out.below g11)
  clear RS10 RI10
  have G11 := Lib.hid (bel_chain G10.out g11)
  have RA011 := Lib.hid ((show Res u11 u10.heap.size u11.heap.size (some ⟨u10.heap.size, 0, none⟩) n0 f0 from .inr ⟨_, rfl, Nat.le_refl _, by omega, ho⟩).rsp)
  clear ho hb hs g11
  go_wp2_with fail
  refine (iTakenOf_any (some ⟨u10.heap.size, 0, none⟩) n0 _ f0 x1 u11 RA011.out.ls (by omega) T0.out wf1 (GV0.out.step G11.out)).mono ?_
  rintro e u12 hr
  obtain ⟨pH, mH, qH, rfl, hmH, hres, hb⟩ := hr
  obtain rfl : mS = mH := HmS.out.trans hmH.symm
  clear hmH
  have g12 : Below u11.heap.size u11 u12 := hb
  have s12 : u11.heap.size ≤ u12.heap.size := g12.size
  have RS12 := Lib.hid (RS11.out.below g12)
  have RI12 := Lib.hid (RI11.out.below g12)
  have RA012 := Lib.hid (RA011.out.below g12)
  clear RS11 RI11 RA011
  have G12 := Lib.hid (bel_chain G11.out g12)
  have RH12 : Hid (Rsp u12 u11.heap.size u12.heap.size pH mS (tkF f0 n0 x1)) := hres
  clear hres hb g12
  go_wp2_with fail
  refine (eqIntS_yes pH pS mS _ _ (tkF f0 n0 x1) (tkF f0 n0 x1) u12 RH12.out.ls RS12.out.ls (by omega) (fun _ _ => rfl)).mono ?_
  rintro e u13 ⟨rfl, hm⟩
  have g13 : Below u12.heap.size u12 u13 := hm.bel0
  have s13 : u12.heap.size ≤ u13.heap.size := g13.size
  have RS13 := Lib.hid (RS12.out.below g13)
  have RI13 := Lib.hid (RI12.out.below g13)
  have RA013 := Lib.hid (RA012.out.below g13)
  have RH13 := Lib.hid (RH12.out.below g13)
  clear RS12 RI12 RA012 RH12
  have G13 := Lib.hid (bel_chain G12.out g13)
  clear hm g13
  go_wp2_with fail
  refine (heldIntS_rint pI mS _ (fun j => (1 : Int) + j) (1) u13 RI13.out.ls (by omega) (by omega) (by omega) (fun _ _ => rfl)).mono ?_
  rintro e u14 ⟨rfl, rfl⟩
  go_wp2_with fail
  go_ret
  exact ⟨rfl, G13.out⟩
set_option maxRecDepth 100000 in
set_option maxHeartbeats 1000000 in
theorem wFnExactTakenValue (a0 : Option Addr) (n0 c0 : Nat) (z0 : List Int) (a1 : Option Addr) (n1 c1 : Nat) (z1 : List Int) (u0 : World) (h0 : IsRow .i64 u0 a0 n0 c0 z0) (h1 : IsRow .i64 u0 a1 n1 c1 z1) (hGV : GV u0) : Calls Tryd.prog 10 #[.slice a0 n0 c0, .slice a1 n1 c1] u0 fun e w' => e = .returned (.bool true) ∧ Below u0.heap.size u0 w' := by
  have GV0 := Lib.hid hGV; clear hGV
  have l0 := h0.ls
  have t0 : Bnd (fun k => z0.getD k 0) n0 := fun j hj => h0.fit j hj
  have m0 := h0.max
  clear h0
  generalize (fun k => z0.getD k 0) = f0 at *
  have l1 := h1.ls
  have t1 : Bnd (fun k => z1.getD k 0) n1 := fun j hj => h1.fit j hj
  have m1 := h1.max
  clear h1
  generalize (fun k => z1.getD k 0) = f1 at *
  by_cases big0 : 1048576 < n0
  · go_enter Tryd.func10, Tryd.ntmps10
    go_wp2_with fail
    go_ret
    exact ⟨rfl, Below.refl _ _⟩
  by_cases big1 : 1048576 < n1
  · go_enter Tryd.func10, Tryd.ntmps10
    go_wp2_with fail
    go_ret
    exact ⟨rfl, Below.refl _ _⟩
  have L0 := Lib.hid l0; have T0 := Lib.hid t0; clear l0 t0
  have L1 := Lib.hid l1; have T1 := Lib.hid t1; clear l1 t1
  have G0 := Lib.hid (Below.refl u0.heap.size u0)
  go_enter Tryd.func10, Tryd.ntmps10
  go_wp2_with fail
  refine (toIntS_any a0 n0 c0 f0 u0 (L0.out.below G0.out) (by omega)).mono ?_
  rintro e u1 ⟨rfl, ho, hb, hs⟩
  have g1 : Below u0.heap.size u0 u1 := hb
  have s1 : u0.heap.size ≤ u1.heap.size := g1.size
  have G1 := Lib.hid (bel_chain G0.out g1)
  have RA01 := Lib.hid ((show Res u1 u0.heap.size u1.heap.size (some ⟨u0.heap.size, 0, none⟩) n0 f0 from .inr ⟨_, rfl, Nat.le_refl _, by omega, ho⟩).rsp)
  clear ho hb hs g1
  go_wp2_with fail
  refine (toIntS_any a1 n1 c1 f1 u1 (L1.out.below G1.out) (by omega)).mono ?_
  rintro e u2 ⟨rfl, ho, hb, hs⟩
  have g2 : Below u1.heap.size u1 u2 := hb
  have s2 : u1.heap.size ≤ u2.heap.size := g2.size
  have RA02 := Lib.hid (RA01.out.below g2)
  clear RA01
  have G2 := Lib.hid (bel_chain G1.out g2)
  have RA12 := Lib.hid ((show Res u2 u1.heap.size u2.heap.size (some ⟨u1.heap.size, 0, none⟩) n1 f1 from .inr ⟨_, rfl, Nat.le_refl _, by omega, ho⟩).rsp)
  clear ho hb hs g2
  go_wp2_with fail
  refine (sTakenValue_any (some ⟨u0.heap.size, 0, none⟩) (some ⟨u1.heap.size, 0, none⟩) n0 n1 _ _ f0 f1 u2 RA02.out.ls RA12.out.ls (by omega) (by omega)).mono ?_
  rintro e u3 ⟨rfl, hm⟩
  have g3 : Below u2.heap.size u2 u3 := hm.bel0
  have s3 : u2.heap.size ≤ u3.heap.size := g3.size
  have RA03 := Lib.hid (RA02.out.below g3)
  have RA13 := Lib.hid (RA12.out.below g3)
  clear RA02 RA12
  have G3 := Lib.hid (bel_chain G2.out g3)
  clear hm g3
  clear RA03
  clear RA13
  go_wp2_with fail
  refine (toIntS_any a0 n0 c0 f0 u3 (L0.out.below G3.out) (by omega)).mono ?_
  rintro e u4 ⟨rfl, ho, hb, hs⟩
  have g4 : Below u3.heap.size u3 u4 := hb
  have s4 : u3.heap.size ≤ u4.heap.size := g4.size
  have G4 := Lib.hid (bel_chain G3.out g4)
  have RX04 := Lib.hid ((show Res u4 u3.heap.size u4.heap.size (some ⟨u3.heap.size, 0, none⟩) n0 f0 from .inr ⟨_, rfl, Nat.le_refl _, by omega, ho⟩).rsp)
  clear ho hb hs g4
  go_wp2_with fail
  refine (toIntS_any a1 n1 c1 f1 u4 (L1.out.below G4.out) (by omega)).mono ?_
  rintro e u5 ⟨rfl, ho, hb, hs⟩
  have g5 : Below u4.heap.size u4 u5 := hb
  have s5 : u4.heap.size ≤ u5.heap.size := g5.size
  have RX05 := Lib.hid (RX04.out.below g5)
  clear RX04
  have G5 := Lib.hid (bel_chain G4.out g5)
  have RX15 := Lib.hid ((show Res u5 u4.heap.size u5.heap.size (some ⟨u4.heap.size, 0, none⟩) n1 f1 from .inr ⟨_, rfl, Nat.le_refl _, by omega, ho⟩).rsp)
  clear ho hb hs g5
  go_wp2_with fail
  refine (iTakenValue_any (some ⟨u3.heap.size, 0, none⟩) (some ⟨u4.heap.size, 0, none⟩) n0 n1 _ _ f0 f1 u5 RX05.out.ls RX15.out.ls (by omega) (by omega) T0.out T1.out (GV0.out.step G5.out)).mono ?_
  rintro e u6 ⟨rfl, hb⟩
  have g6 : Below u5.heap.size u5 u6 := hb
  have s6 : u5.heap.size ≤ u6.heap.size := g6.size
  have RX06 := Lib.hid (RX05.out.below g6)
  have RX16 := Lib.hid (RX15.out.below g6)
  clear RX05 RX15
  have G6 := Lib.hid (bel_chain G5.out g6)
  clear hb g6
  go_wp2_with fail
  refine (toIntS_any a0 n0 c0 f0 u6 (L0.out.below G6.out) (by omega)).mono ?_
  rintro e u7 ⟨rfl, ho, hb, hs⟩
  have g7 : Below u6.heap.size u6 u7 := hb
  have s7 : u6.heap.size ≤ u7.heap.size := g7.size
  have RX07 := Lib.hid (RX06.out.below g7)
  have RX17 := Lib.hid (RX16.out.below g7)
  clear RX06 RX16
  have G7 := Lib.hid (bel_chain G6.out g7)
  have RY7 := Lib.hid ((show Res u7 u6.heap.size u7.heap.size (some ⟨u6.heap.size, 0, none⟩) n0 f0 from .inr ⟨_, rfl, Nat.le_refl _, by omega, ho⟩).rsp)
  clear ho hb hs g7
  go_wp2_with fail
  refine (eqIntS_yes (some ⟨u3.heap.size, 0, none⟩) (some ⟨u6.heap.size, 0, none⟩) n0 _ _ f0 f0 u7 RX07.out.ls RY7.out.ls (by omega) (fun _ _ => rfl)).mono ?_
  rintro e u8 ⟨rfl, hm⟩
  have g8 : Below u7.heap.size u7 u8 := hm.bel0
  have s8 : u7.heap.size ≤ u8.heap.size := g8.size
  have RX08 := Lib.hid (RX07.out.below g8)
  have RX18 := Lib.hid (RX17.out.below g8)
  have RY8 := Lib.hid (RY7.out.below g8)
  clear RX07 RX17 RY7
  have G8 := Lib.hid (bel_chain G7.out g8)
  clear hm g8
  clear RY8
  go_wp2_with fail
  refine (toIntS_any a1 n1 c1 f1 u8 (L1.out.below G8.out) (by omega)).mono ?_
  rintro e u9 ⟨rfl, ho, hb, hs⟩
  have g9 : Below u8.heap.size u8 u9 := hb
  have s9 : u8.heap.size ≤ u9.heap.size := g9.size
  have RX09 := Lib.hid (RX08.out.below g9)
  have RX19 := Lib.hid (RX18.out.below g9)
  clear RX08 RX18
  have G9 := Lib.hid (bel_chain G8.out g9)
  have RY9 := Lib.hid ((show Res u9 u8.heap.size u9.heap.size (some ⟨u8.heap.size, 0, none⟩) n1 f1 from .inr ⟨_, rfl, Nat.le_refl _, by omega, ho⟩).rsp)
  clear ho hb hs g9
  go_wp2_with fail
  refine (eqIntS_yes (some ⟨u4.heap.size, 0, none⟩) (some ⟨u8.heap.size, 0, none⟩) n1 _ _ f1 f1 u9 RX19.out.ls RY9.out.ls (by omega) (fun _ _ => rfl)).mono ?_
  rintro e u10 ⟨rfl, hm⟩
  have g10 : Below u9.heap.size u9 u10 := hm.bel0
  have s10 : u9.heap.size ≤ u10.heap.size := g10.size
  have RX010 := Lib.hid (RX09.out.below g10)
  have RX110 := Lib.hid (RX19.out.below g10)
  have RY10 := Lib.hid (RY9.out.below g10)
  clear RX09 RX19 RY9
  have G10 := Lib.hid (bel_chain G9.out g10)
  clear hm g10
  clear RY10
  go_wp2_with fail
  go_ret
  exact ⟨rfl, G10.out⟩
set_option maxRecDepth 100000 in
set_option maxHeartbeats 1000000 in
theorem wFnExactTakenSize (a0 : Option Addr) (n0 c0 : Nat) (z0 : List Int) (a1 : Option Addr) (n1 c1 : Nat) (z1 : List Int) (u0 : World) (h0 : IsRow .i64 u0 a0 n0 c0 z0) (h1 : IsRow .i64 u0 a1 n1 c1 z1) (hGV : GV u0) : Calls Tryd.prog 11 #[.slice a0 n0 c0, .slice a1 n1 c1] u0 fun e w' => e = .returned (.bool true) ∧ Below u0.heap.size u0 w' := by
  have GV0 := Lib.hid hGV; clear hGV
  have l0 := h0.ls
  have t0 : Bnd (fun k => z0.getD k 0) n0 := fun j hj => h0.fit j hj
  have m0 := h0.max
  clear h0
  generalize (fun k => z0.getD k 0) = f0 at *
  have l1 := h1.ls
  have t1 : Bnd (fun k => z1.getD k 0) n1 := fun j hj => h1.fit j hj
  have m1 := h1.max
  clear h1
  generalize (fun k => z1.getD k 0) = f1 at *
  by_cases big0 : 1048576 < n0
  · go_enter Tryd.func11, Tryd.ntmps11
    go_wp2_with fail
    go_ret
    exact ⟨rfl, Below.refl _ _⟩
  by_cases big1 : 1048576 < n1
  · go_enter Tryd.func11, Tryd.ntmps11
    go_wp2_with fail
    go_ret
    exact ⟨rfl, Below.refl _ _⟩
  have L0 := Lib.hid l0; have T0 := Lib.hid t0; clear l0 t0
  have L1 := Lib.hid l1; have T1 := Lib.hid t1; clear l1 t1
  have G0 := Lib.hid (Below.refl u0.heap.size u0)
  go_enter Tryd.func11, Tryd.ntmps11
  go_wp2_with fail
  refine (toIntS_any a0 n0 c0 f0 u0 (L0.out.below G0.out) (by omega)).mono ?_
  rintro e u1 ⟨rfl, ho, hb, hs⟩
  have g1 : Below u0.heap.size u0 u1 := hb
  have s1 : u0.heap.size ≤ u1.heap.size := g1.size
  have G1 := Lib.hid (bel_chain G0.out g1)
  have RA01 := Lib.hid ((show Res u1 u0.heap.size u1.heap.size (some ⟨u0.heap.size, 0, none⟩) n0 f0 from .inr ⟨_, rfl, Nat.le_refl _, by omega, ho⟩).rsp)
  clear ho hb hs g1
  go_wp2_with fail
  refine (toIntS_any a1 n1 c1 f1 u1 (L1.out.below G1.out) (by omega)).mono ?_
  rintro e u2 ⟨rfl, ho, hb, hs⟩
  have g2 : Below u1.heap.size u1 u2 := hb
  have s2 : u1.heap.size ≤ u2.heap.size := g2.size
  have RA02 := Lib.hid (RA01.out.below g2)
  clear RA01
  have G2 := Lib.hid (bel_chain G1.out g2)
  have RA12 := Lib.hid ((show Res u2 u1.heap.size u2.heap.size (some ⟨u1.heap.size, 0, none⟩) n1 f1 from .inr ⟨_, rfl, Nat.le_refl _, by omega, ho⟩).rsp)
  clear ho hb hs g2
  go_wp2_with fail
  refine (sTakenSize_any (some ⟨u0.heap.size, 0, none⟩) (some ⟨u1.heap.size, 0, none⟩) n0 n1 _ _ f0 f1 u2 RA02.out.ls RA12.out.ls (by omega) (by omega)).mono ?_
  rintro e u3 ⟨rfl, hm⟩
  have g3 : Below u2.heap.size u2 u3 := hm.bel0
  have s3 : u2.heap.size ≤ u3.heap.size := g3.size
  have RA03 := Lib.hid (RA02.out.below g3)
  have RA13 := Lib.hid (RA12.out.below g3)
  clear RA02 RA12
  have G3 := Lib.hid (bel_chain G2.out g3)
  clear hm g3
  clear RA03
  clear RA13
  go_wp2_with fail
  refine (toIntS_any a0 n0 c0 f0 u3 (L0.out.below G3.out) (by omega)).mono ?_
  rintro e u4 ⟨rfl, ho, hb, hs⟩
  have g4 : Below u3.heap.size u3 u4 := hb
  have s4 : u3.heap.size ≤ u4.heap.size := g4.size
  have G4 := Lib.hid (bel_chain G3.out g4)
  have RX04 := Lib.hid ((show Res u4 u3.heap.size u4.heap.size (some ⟨u3.heap.size, 0, none⟩) n0 f0 from .inr ⟨_, rfl, Nat.le_refl _, by omega, ho⟩).rsp)
  clear ho hb hs g4
  go_wp2_with fail
  refine (toIntS_any a1 n1 c1 f1 u4 (L1.out.below G4.out) (by omega)).mono ?_
  rintro e u5 ⟨rfl, ho, hb, hs⟩
  have g5 : Below u4.heap.size u4 u5 := hb
  have s5 : u4.heap.size ≤ u5.heap.size := g5.size
  have RX05 := Lib.hid (RX04.out.below g5)
  clear RX04
  have G5 := Lib.hid (bel_chain G4.out g5)
  have RX15 := Lib.hid ((show Res u5 u4.heap.size u5.heap.size (some ⟨u4.heap.size, 0, none⟩) n1 f1 from .inr ⟨_, rfl, Nat.le_refl _, by omega, ho⟩).rsp)
  clear ho hb hs g5
  go_wp2_with fail
  refine (iTakenSize_any (some ⟨u3.heap.size, 0, none⟩) (some ⟨u4.heap.size, 0, none⟩) n0 n1 _ _ f0 f1 u5 RX05.out.ls RX15.out.ls (by omega) (by omega) T0.out T1.out (GV0.out.step G5.out)).mono ?_
  rintro e u6 ⟨rfl, hb⟩
  have g6 : Below u5.heap.size u5 u6 := hb
  have s6 : u5.heap.size ≤ u6.heap.size := g6.size
  have RX06 := Lib.hid (RX05.out.below g6)
  have RX16 := Lib.hid (RX15.out.below g6)
  clear RX05 RX15
  have G6 := Lib.hid (bel_chain G5.out g6)
  clear hb g6
  go_wp2_with fail
  refine (toIntS_any a0 n0 c0 f0 u6 (L0.out.below G6.out) (by omega)).mono ?_
  rintro e u7 ⟨rfl, ho, hb, hs⟩
  have g7 : Below u6.heap.size u6 u7 := hb
  have s7 : u6.heap.size ≤ u7.heap.size := g7.size
  have RX07 := Lib.hid (RX06.out.below g7)
  have RX17 := Lib.hid (RX16.out.below g7)
  clear RX06 RX16
  have G7 := Lib.hid (bel_chain G6.out g7)
  have RY7 := Lib.hid ((show Res u7 u6.heap.size u7.heap.size (some ⟨u6.heap.size, 0, none⟩) n0 f0 from .inr ⟨_, rfl, Nat.le_refl _, by omega, ho⟩).rsp)
  clear ho hb hs g7
  go_wp2_with fail
  refine (eqIntS_yes (some ⟨u3.heap.size, 0, none⟩) (some ⟨u6.heap.size, 0, none⟩) n0 _ _ f0 f0 u7 RX07.out.ls RY7.out.ls (by omega) (fun _ _ => rfl)).mono ?_
  rintro e u8 ⟨rfl, hm⟩
  have g8 : Below u7.heap.size u7 u8 := hm.bel0
  have s8 : u7.heap.size ≤ u8.heap.size := g8.size
  have RX08 := Lib.hid (RX07.out.below g8)
  have RX18 := Lib.hid (RX17.out.below g8)
  have RY8 := Lib.hid (RY7.out.below g8)
  clear RX07 RX17 RY7
  have G8 := Lib.hid (bel_chain G7.out g8)
  clear hm g8
  clear RY8
  go_wp2_with fail
  refine (toIntS_any a1 n1 c1 f1 u8 (L1.out.below G8.out) (by omega)).mono ?_
  rintro e u9 ⟨rfl, ho, hb, hs⟩
  have g9 : Below u8.heap.size u8 u9 := hb
  have s9 : u8.heap.size ≤ u9.heap.size := g9.size
  have RX09 := Lib.hid (RX08.out.below g9)
  have RX19 := Lib.hid (RX18.out.below g9)
  clear RX08 RX18
  have G9 := Lib.hid (bel_chain G8.out g9)
  have RY9 := Lib.hid ((show Res u9 u8.heap.size u9.heap.size (some ⟨u8.heap.size, 0, none⟩) n1 f1 from .inr ⟨_, rfl, Nat.le_refl _, by omega, ho⟩).rsp)
  clear ho hb hs g9
  go_wp2_with fail
  refine (eqIntS_yes (some ⟨u4.heap.size, 0, none⟩) (some ⟨u8.heap.size, 0, none⟩) n1 _ _ f1 f1 u9 RX19.out.ls RY9.out.ls (by omega) (fun _ _ => rfl)).mono ?_
  rintro e u10 ⟨rfl, hm⟩
  have g10 : Below u9.heap.size u9 u10 := hm.bel0
  have s10 : u9.heap.size ≤ u10.heap.size := g10.size
  have RX010 := Lib.hid (RX09.out.below g10)
  have RX110 := Lib.hid (RX19.out.below g10)
  have RY10 := Lib.hid (RY9.out.below g10)
  clear RX09 RX19 RY9
  have G10 := Lib.hid (bel_chain G9.out g10)
  clear hm g10
  clear RY10
  go_wp2_with fail
  go_ret
  exact ⟨rfl, G10.out⟩
set_option maxRecDepth 100000 in
set_option maxHeartbeats 1000000 in
theorem wFnExactTakenSaved (a0 : Option Addr) (n0 c0 : Nat) (z0 : List Int) (x1 : Int) (u0 : World) (h0 : IsRow .i64 u0 a0 n0 c0 z0) (h1 : (Lit.int .i64 x1).wf = true) (hGV : GV u0) : Calls Tryd.prog 12 #[.slice a0 n0 c0, .int .i64 x1] u0 fun e w' => e = .returned (.bool true) ∧ Below u0.heap.size u0 w' := by
  have GV0 := Lib.hid hGV; clear hGV
  have l0 := h0.ls
  have t0 : Bnd (fun k => z0.getD k 0) n0 := fun j hj => h0.fit j hj
  have m0 := h0.max
  clear h0
  generalize (fun k => z0.getD k 0) = f0 at *
  have wf1 := int_ok h1
  clear h1
  by_cases big0 : 1048576 < n0
  · go_enter Tryd.func12, Tryd.ntmps12
    go_wp2_with fail
    go_ret
    exact ⟨rfl, Below.refl _ _⟩
  have L0 := Lib.hid l0; have T0 := Lib.hid t0; clear l0 t0
  have G0 := Lib.hid (Below.refl u0.heap.size u0)
  go_enter Tryd.func12, Tryd.ntmps12
  go_wp2_with fail
  refine (toIntS_any a0 n0 c0 f0 u0 (L0.out.below G0.out) (by omega)).mono ?_
  rintro e u1 ⟨rfl, ho, hb, hs⟩
  have g1 : Below u0.heap.size u0 u1 := hb
  have s1 : u0.heap.size ≤ u1.heap.size := g1.size
  have G1 := Lib.hid (bel_chain G0.out g1)
  have RA01 := Lib.hid ((show Res u1 u0.heap.size u1.heap.size (some ⟨u0.heap.size, 0, none⟩) n0 f0 from .inr ⟨_, rfl, Nat.le_refl _, by omega, ho⟩).rsp)
  clear ho hb hs g1
  go_wp2_with fail
  refine (sTakenSaved_any (some ⟨u0.heap.size, 0, none⟩) n0 _ f0 x1 u1 RA01.out.ls (by omega)).mono ?_
  rintro e u2 ⟨rfl, hb⟩
  have g2 : Below u1.heap.size u1 u2 := hb
  have s2 : u1.heap.size ≤ u2.heap.size := g2.size
  have RA02 := Lib.hid (RA01.out.below g2)
  clear RA01
  have G2 := Lib.hid (bel_chain G1.out g2)
  clear hb g2
  clear RA02
  go_wp2_with fail
  refine (toIntS_any a0 n0 c0 f0 u2 (L0.out.below G2.out) (by omega)).mono ?_
  rintro e u3 ⟨rfl, ho, hb, hs⟩
  have g3 : Below u2.heap.size u2 u3 := hb
  have s3 : u2.heap.size ≤ u3.heap.size := g3.size
  have G3 := Lib.hid (bel_chain G2.out g3)
  have RX03 := Lib.hid ((show Res u3 u2.heap.size u3.heap.size (some ⟨u2.heap.size, 0, none⟩) n0 f0 from .inr ⟨_, rfl, Nat.le_refl _, by omega, ho⟩).rsp)
  clear ho hb hs g3
  go_wp2_with fail
  refine (iTakenSaved_any (some ⟨u2.heap.size, 0, none⟩) n0 _ f0 x1 u3 RX03.out.ls (by omega) T0.out wf1 (GV0.out.step G3.out)).mono ?_
  rintro e u4 ⟨rfl, hb⟩
  have g4 : Below u3.heap.size u3 u4 := hb
  have s4 : u3.heap.size ≤ u4.heap.size := g4.size
  have RX04 := Lib.hid (RX03.out.below g4)
  clear RX03
  have G4 := Lib.hid (bel_chain G3.out g4)
  clear hb g4
  go_wp2_with fail
  refine (toIntS_any a0 n0 c0 f0 u4 (L0.out.below G4.out) (by omega)).mono ?_
  rintro e u5 ⟨rfl, ho, hb, hs⟩
  have g5 : Below u4.heap.size u4 u5 := hb
  have s5 : u4.heap.size ≤ u5.heap.size := g5.size
  have RX05 := Lib.hid (RX04.out.below g5)
  clear RX04
  have G5 := Lib.hid (bel_chain G4.out g5)
  have RY5 := Lib.hid ((show Res u5 u4.heap.size u5.heap.size (some ⟨u4.heap.size, 0, none⟩) n0 f0 from .inr ⟨_, rfl, Nat.le_refl _, by omega, ho⟩).rsp)
  clear ho hb hs g5
  go_wp2_with fail
  refine (eqIntS_yes (some ⟨u2.heap.size, 0, none⟩) (some ⟨u4.heap.size, 0, none⟩) n0 _ _ f0 f0 u5 RX05.out.ls RY5.out.ls (by omega) (fun _ _ => rfl)).mono ?_
  rintro e u6 ⟨rfl, hm⟩
  have g6 : Below u5.heap.size u5 u6 := hm.bel0
  have s6 : u5.heap.size ≤ u6.heap.size := g6.size
  have RX06 := Lib.hid (RX05.out.below g6)
  have RY6 := Lib.hid (RY5.out.below g6)
  clear RX05 RY5
  have G6 := Lib.hid (bel_chain G5.out g6)
  clear hm g6
  clear RY6
  go_wp2_with fail
  go_ret
  exact ⟨rfl, G6.out⟩
set_option maxRecDepth 100000 in
set_option maxHeartbeats 1000000 in
theorem wFnExactTakenMost (a0 : Option Addr) (n0 c0 : Nat) (z0 : List Int) (x1 : Int) (u0 : World) (h0 : IsRow .i64 u0 a0 n0 c0 z0) (h1 : (Lit.int .i64 x1).wf = true) (hGV : GV u0) : Calls Tryd.prog 13 #[.slice a0 n0 c0, .int .i64 x1] u0 fun e w' => e = .returned (.bool true) ∧ Below u0.heap.size u0 w' := by
  have GV0 := Lib.hid hGV; clear hGV
  have l0 := h0.ls
  have t0 : Bnd (fun k => z0.getD k 0) n0 := fun j hj => h0.fit j hj
  have m0 := h0.max
  clear h0
  generalize (fun k => z0.getD k 0) = f0 at *
  have wf1 := int_ok h1
  clear h1
  by_cases big0 : 1048576 < n0
  · go_enter Tryd.func13, Tryd.ntmps13
    go_wp2_with fail
    go_ret
    exact ⟨rfl, Below.refl _ _⟩
  have L0 := Lib.hid l0; have T0 := Lib.hid t0; clear l0 t0
  have G0 := Lib.hid (Below.refl u0.heap.size u0)
  go_enter Tryd.func13, Tryd.ntmps13
  go_wp2_with fail
  refine (toIntS_any a0 n0 c0 f0 u0 (L0.out.below G0.out) (by omega)).mono ?_
  rintro e u1 ⟨rfl, ho, hb, hs⟩
  have g1 : Below u0.heap.size u0 u1 := hb
  have s1 : u0.heap.size ≤ u1.heap.size := g1.size
  have G1 := Lib.hid (bel_chain G0.out g1)
  have RA01 := Lib.hid ((show Res u1 u0.heap.size u1.heap.size (some ⟨u0.heap.size, 0, none⟩) n0 f0 from .inr ⟨_, rfl, Nat.le_refl _, by omega, ho⟩).rsp)
  clear ho hb hs g1
  go_wp2_with fail
  refine (sTakenMost_any (some ⟨u0.heap.size, 0, none⟩) n0 _ f0 x1 u1 RA01.out.ls (by omega)).mono ?_
  rintro e u2 ⟨rfl, hb⟩
  have g2 : Below u1.heap.size u1 u2 := hb
  have s2 : u1.heap.size ≤ u2.heap.size := g2.size
  have RA02 := Lib.hid (RA01.out.below g2)
  clear RA01
  have G2 := Lib.hid (bel_chain G1.out g2)
  clear hb g2
  clear RA02
  go_wp2_with fail
  refine (toIntS_any a0 n0 c0 f0 u2 (L0.out.below G2.out) (by omega)).mono ?_
  rintro e u3 ⟨rfl, ho, hb, hs⟩
  have g3 : Below u2.heap.size u2 u3 := hb
  have s3 : u2.heap.size ≤ u3.heap.size := g3.size
  have G3 := Lib.hid (bel_chain G2.out g3)
  have RX03 := Lib.hid ((show Res u3 u2.heap.size u3.heap.size (some ⟨u2.heap.size, 0, none⟩) n0 f0 from .inr ⟨_, rfl, Nat.le_refl _, by omega, ho⟩).rsp)
  clear ho hb hs g3
  go_wp2_with fail
  refine (iTakenMost_any (some ⟨u2.heap.size, 0, none⟩) n0 _ f0 x1 u3 RX03.out.ls (by omega) T0.out wf1 (GV0.out.step G3.out)).mono ?_
  rintro e u4 ⟨rfl, hb⟩
  have g4 : Below u3.heap.size u3 u4 := hb
  have s4 : u3.heap.size ≤ u4.heap.size := g4.size
  have RX04 := Lib.hid (RX03.out.below g4)
  clear RX03
  have G4 := Lib.hid (bel_chain G3.out g4)
  clear hb g4
  go_wp2_with fail
  refine (toIntS_any a0 n0 c0 f0 u4 (L0.out.below G4.out) (by omega)).mono ?_
  rintro e u5 ⟨rfl, ho, hb, hs⟩
  have g5 : Below u4.heap.size u4 u5 := hb
  have s5 : u4.heap.size ≤ u5.heap.size := g5.size
  have RX05 := Lib.hid (RX04.out.below g5)
  clear RX04
  have G5 := Lib.hid (bel_chain G4.out g5)
  have RY5 := Lib.hid ((show Res u5 u4.heap.size u5.heap.size (some ⟨u4.heap.size, 0, none⟩) n0 f0 from .inr ⟨_, rfl, Nat.le_refl _, by omega, ho⟩).rsp)
  clear ho hb hs g5
  go_wp2_with fail
  refine (eqIntS_yes (some ⟨u2.heap.size, 0, none⟩) (some ⟨u4.heap.size, 0, none⟩) n0 _ _ f0 f0 u5 RX05.out.ls RY5.out.ls (by omega) (fun _ _ => rfl)).mono ?_
  rintro e u6 ⟨rfl, hm⟩
  have g6 : Below u5.heap.size u5 u6 := hm.bel0
  have s6 : u5.heap.size ≤ u6.heap.size := g6.size
  have RX06 := Lib.hid (RX05.out.below g6)
  have RY6 := Lib.hid (RY5.out.below g6)
  clear RX05 RY5
  have G6 := Lib.hid (bel_chain G5.out g6)
  clear hm g6
  clear RY6
  go_wp2_with fail
  go_ret
  exact ⟨rfl, G6.out⟩
set_option maxRecDepth 100000 in
set_option maxHeartbeats 1000000 in
theorem wFnExactTakenTurned (a0 : Option Addr) (n0 c0 : Nat) (z0 : List Int) (a1 : Option Addr) (n1 c1 : Nat) (z1 : List Int) (u0 : World) (h0 : IsRow .i64 u0 a0 n0 c0 z0) (h1 : IsRow .i64 u0 a1 n1 c1 z1) (hGV : GV u0) : Calls Tryd.prog 14 #[.slice a0 n0 c0, .slice a1 n1 c1] u0 fun e w' => e = .returned (.bool true) ∧ Below u0.heap.size u0 w' := by
  have GV0 := Lib.hid hGV; clear hGV
  have l0 := h0.ls
  have t0 : Bnd (fun k => z0.getD k 0) n0 := fun j hj => h0.fit j hj
  have m0 := h0.max
  clear h0
  generalize (fun k => z0.getD k 0) = f0 at *
  have l1 := h1.ls
  have t1 : Bnd (fun k => z1.getD k 0) n1 := fun j hj => h1.fit j hj
  have m1 := h1.max
  clear h1
  generalize (fun k => z1.getD k 0) = f1 at *
  by_cases big0 : 1048576 < n0
  · go_enter Tryd.func14, Tryd.ntmps14
    go_wp2_with fail
    go_ret
    exact ⟨rfl, Below.refl _ _⟩
  by_cases big1 : 1048576 < n1
  · go_enter Tryd.func14, Tryd.ntmps14
    go_wp2_with fail
    go_ret
    exact ⟨rfl, Below.refl _ _⟩
  have L0 := Lib.hid l0; have T0 := Lib.hid t0; clear l0 t0
  have L1 := Lib.hid l1; have T1 := Lib.hid t1; clear l1 t1
  have G0 := Lib.hid (Below.refl u0.heap.size u0)
  go_enter Tryd.func14, Tryd.ntmps14
  go_wp2_with fail
  refine (toIntS_any a0 n0 c0 f0 u0 (L0.out.below G0.out) (by omega)).mono ?_
  rintro e u1 ⟨rfl, ho, hb, hs⟩
  have g1 : Below u0.heap.size u0 u1 := hb
  have s1 : u0.heap.size ≤ u1.heap.size := g1.size
  have G1 := Lib.hid (bel_chain G0.out g1)
  have RA01 := Lib.hid ((show Res u1 u0.heap.size u1.heap.size (some ⟨u0.heap.size, 0, none⟩) n0 f0 from .inr ⟨_, rfl, Nat.le_refl _, by omega, ho⟩).rsp)
  clear ho hb hs g1
  go_wp2_with fail
  refine (toIntS_any a1 n1 c1 f1 u1 (L1.out.below G1.out) (by omega)).mono ?_
  rintro e u2 ⟨rfl, ho, hb, hs⟩
  have g2 : Below u1.heap.size u1 u2 := hb
  have s2 : u1.heap.size ≤ u2.heap.size := g2.size
  have RA02 := Lib.hid (RA01.out.below g2)
  clear RA01
  have G2 := Lib.hid (bel_chain G1.out g2)
  have RA12 := Lib.hid ((show Res u2 u1.heap.size u2.heap.size (some ⟨u1.heap.size, 0, none⟩) n1 f1 from .inr ⟨_, rfl, Nat.le_refl _, by omega, ho⟩).rsp)
  clear ho hb hs g2
  go_wp2_with fail
  refine (sTakenTurned_any (some ⟨u0.heap.size, 0, none⟩) (some ⟨u1.heap.size, 0, none⟩) n0 n1 _ _ f0 f1 u2 RA02.out.ls RA12.out.ls (by omega) (by omega)).mono ?_
  rintro e u3 hr
  obtain ⟨pS, mS, qS, rfl, hmS, hres, hb⟩ := hr
  have bS : mS ≤ 10000000 := by rw [hmS]; split <;> omega
  have HmS := Lib.hid hmS; clear hmS
  have dS : decide (1 + (mS : Int) < 0) = false := decide_eq_false (by omega)
  have g3 : Below u2.heap.size u2 u3 := hb
  have s3 : u2.heap.size ≤ u3.heap.size := g3.size
  have RA03 := Lib.hid (RA02.out.below g3)
  have RA13 := Lib.hid (RA12.out.below g3)
  clear RA02 RA12
  have G3 := Lib.hid (bel_chain G2.out g3)
  have RS3 : Hid (Rsp u3 u2.heap.size u3.heap.size pS mS (fun j => -f1 j)) := hres
  clear hres hb g3
  clear RA03
  clear RA13
  go_wp2_with fail
  refine (toIntS_any a0 n0 c0 f0 u3 (L0.out.below G3.out) (by omega)).mono ?_
  rintro e u4 ⟨rfl, ho, hb, hs⟩
  have g4 : Below u3.heap.size u3 u4 := hb
  have s4 : u3.heap.size ≤ u4.heap.size := g4.size
  have RS4 := Lib.hid (RS3.out.below g4)
  clear RS3
  have G4 := Lib.hid (bel_chain G3.out g4)
  have RX04 := Lib.hid ((show Res u4 u3.heap.size u4.heap.size (some ⟨u3.heap.size, 0, none⟩) n0 f0 from .inr ⟨_, rfl, Nat.le_refl _, by omega, ho⟩).rsp)
  clear ho hb hs g4
  go_wp2_with fail
  refine (toIntS_any a1 n1 c1 f1 u4 (L1.out.below G4.out) (by omega)).mono ?_
  rintro e u5 ⟨rfl, ho, hb, hs⟩
  have g5 : Below u4.heap.size u4 u5 := hb
  have s5 : u4.heap.size ≤ u5.heap.size := g5.size
  have RS5 := Lib.hid (RS4.out.below g5)
  have RX05 := Lib.hid (RX04.out.below g5)
  clear RS4 RX04
  have G5 := Lib.hid (bel_chain G4.out g5)
  have RX15 := Lib.hid ((show Res u5 u4.heap.size u5.heap.size (some ⟨u4.heap.size, 0, none⟩) n1 f1 from .inr ⟨_, rfl, Nat.le_refl _, by omega, ho⟩).rsp)
  clear ho hb hs g5
  go_wp2_with fail
  refine (iTakenTurned_any (some ⟨u3.heap.size, 0, none⟩) (some ⟨u4.heap.size, 0, none⟩) n0 n1 _ _ f0 f1 u5 RX05.out.ls RX15.out.ls (by omega) (by omega) T0.out T1.out (GV0.out.step G5.out)).mono ?_
  rintro e u6 hr
  obtain ⟨pI, mI, qI, rfl, hmI, hres, hb⟩ := hr
  obtain rfl : mS = mI := HmS.out.trans hmI.symm
  clear hmI
  have g6 : Below u5.heap.size u5 u6 := hb
  have s6 : u5.heap.size ≤ u6.heap.size := g6.size
  have RS6 := Lib.hid (RS5.out.below g6)
  have RX06 := Lib.hid (RX05.out.below g6)
  have RX16 := Lib.hid (RX15.out.below g6)
  clear RS5 RX05 RX15
  have G6 := Lib.hid (bel_chain G5.out g6)
  have RI6 : Hid (Rsp u6 u5.heap.size u6.heap.size pI mS (fun j => -f1 j)) := hres
  clear hres hb g6
  go_wp2_with fail
  refine (eqIntS_yes pI pS mS _ _ (fun j => -f1 j) (fun j => -f1 j) u6 RI6.out.ls RS6.out.ls (by omega) (fun _ _ => rfl)).mono ?_
  rintro e u7 ⟨rfl, hm⟩
  have g7 : Below u6.heap.size u6 u7 := hm.bel0
  have s7 : u6.heap.size ≤ u7.heap.size := g7.size
  have RS7 := Lib.hid (RS6.out.below g7)
  have RX07 := Lib.hid (RX06.out.below g7)
  have RX17 := Lib.hid (RX16.out.below g7)
  have RI7 := Lib.hid (RI6.out.below g7)
  clear RS6 RX06 RX16 RI6
  have G7 := Lib.hid (bel_chain G6.out g7)
  clear hm g7
  go_wp2_with fail
  refine (toIntS_any a0 n0 c0 f0 u7 (L0.out.below G7.out) (by omega)).mono ?_
  rintro e u8 ⟨rfl, ho, hb, hs⟩
  have g8 : Below u7.heap.size u7 u8 := hb
  have s8 : u7.heap.size ≤ u8.heap.size := g8.size
  have RS8 := Lib.hid (RS7.out.below g8)
  have RX08 := Lib.hid (RX07.out.below g8)
  have RX18 := Lib.hid (RX17.out.below g8)
  have RI8 := Lib.hid (RI7.out.below g8)
  clear RS7 RX07 RX17 RI7
  have G8 := Lib.hid (bel_chain G7.out g8)
  have RY8 := Lib.hid ((show Res u8 u7.heap.size u8.heap.size (some ⟨u7.heap.size, 0, none⟩) n0 f0 from .inr ⟨_, rfl, Nat.le_refl _, by omega, ho⟩).rsp)
  clear ho hb hs g8
  go_wp2_with fail
  refine (eqIntS_yes (some ⟨u3.heap.size, 0, none⟩) (some ⟨u7.heap.size, 0, none⟩) n0 _ _ f0 f0 u8 RX08.out.ls RY8.out.ls (by omega) (fun _ _ => rfl)).mono ?_
  rintro e u9 ⟨rfl, hm⟩
  have g9 : Below u8.heap.size u8 u9 := hm.bel0
  have s9 : u8.heap.size ≤ u9.heap.size := g9.size
  have RS9 := Lib.hid (RS8.out.below g9)
  have RX09 := Lib.hid (RX08.out.below g9)
  have RX19 := Lib.hid (RX18.out.below g9)
  have RI9 := Lib.hid (RI8.out.below g9)
  have RY9 := Lib.hid (RY8.out.below g9)
  clear RS8 RX08 RX18 RI8 RY8
  have G9 := Lib.hid (bel_chain G8.out g9)
  clear hm g9
  clear RY9
  go_wp2_with fail
  refine (toIntS_any a1 n1 c1 f1 u9 (L1.out.below G9.out) (by omega)).mono ?_
  rintro e u10 ⟨rfl, ho, hb, hs⟩
  have g10 : Below u9.heap.size u9 u10 := hb
  have s10 : u9.heap.size ≤ u10.heap.size := g10.size
  have RS10 := Lib.hid (RS9.out.below g10)
  have RX010 := Lib.hid (RX09.out.below g10)
  have RX110 := Lib.hid (RX19.out.below g10)
  have RI10 := Lib.hid (RI9.out.below g10)
  clear RS9 RX09 RX19 RI9
  have G10 := Lib.hid (bel_chain G9.out g10)
  have RY10 := Lib.hid ((show Res u10 u9.heap.size u10.heap.size (some ⟨u9.heap.size, 0, none⟩) n1 f1 from .inr ⟨_, rfl, Nat.le_refl _, by omega, ho⟩).rsp)
  clear ho hb hs g10
  go_wp2_with fail
  refine (eqIntS_yes (some ⟨u4.heap.size, 0, none⟩) (some ⟨u9.heap.size, 0, none⟩) n1 _ _ f1 f1 u10 RX110.out.ls RY10.out.ls (by omega) (fun _ _ => rfl)).mono ?_
  rintro e u11 ⟨rfl, hm⟩
  have g11 : Below u10.heap.size u10 u11 := hm.bel0
  have s11 : u10.heap.size ≤ u11.heap.size := g11.size
  have RS11 := Lib.hid (RS10.out.below g11)
  have RX011 := Lib.hid (RX010.out.below g11)
  have RX111 := Lib.hid (RX110.out.below g11)
  have RI11 := Lib.hid (RI10.out.below g11)
  have RY11 := Lib.hid (RY10.out.below g11)
  clear RS10 RX010 RX110 RI10 RY10
  have G11 := Lib.hid (bel_chain G10.out g11)
  clear hm g11
  clear RY11
  go_wp2_with fail
  refine (markIntS_rint u3.heap.size u4.heap.size (some ⟨u3.heap.size, 0, none⟩) n0 _ f0 (1) u11 RX011.out (by omega) (by omega) (by omega)).mono ?_
  rintro e u12 ⟨rfl, hr, hm⟩
  have RS12 := Lib.hid (RS11.out.mid hm (by omega))
  have RX112 := Lib.hid (RX111.out.mid hm (by omega))
  have RI12 := Lib.hid (RI11.out.mid hm (by omega))
  clear RS11 RX011 RX111 RI11
  have s12 : u11.heap.size ≤ u12.heap.size := Nat.le_of_eq hm.size.symm
  have G12 := Lib.hid (hm.bel G11.out (by omega))
  have RX012 := Lib.hid hr
  clear hr hm
  clear RX012
  go_wp2_with fail
  refine (markIntS_rint u4.heap.size u5.heap.size (some ⟨u4.heap.size, 0, none⟩) n1 _ f1 (1 + n0) u12 RX112.out (by omega) (by omega) (by omega)).mono ?_
  rintro e u13 ⟨rfl, hr, hm⟩
  have RS13 := Lib.hid (RS12.out.mid hm (by omega))
  have RI13 := Lib.hid (RI12.out.mid hm (by omega))
  clear RS12 RX112 RI12
  have s13 : u12.heap.size ≤ u13.heap.size := Nat.le_of_eq hm.size.symm
  have G13 := Lib.hid (hm.bel G12.out (by omega))
  have RX113 := Lib.hid hr
  clear hr hm
  clear RX113
  have dk : decide (1 + ↑n0 + ↑n1 < (0 : Int)) = false := decide_eq_false (by omega)
  go_wp2_with fail
  refine (eqIntS_yes pI pS mS _ _ (fun j => -f1 j) (fun j => -f1 j) u13 RI13.out.ls RS13.out.ls (by omega) (fun _ _ => rfl)).mono ?_
  rintro e u14 ⟨rfl, hm⟩
  have g14 : Below u13.heap.size u13 u14 := hm.bel0
  have s14 : u13.heap.size ≤ u14.heap.size := g14.size
  have RS14 := Lib.hid (RS13.out.below g14)
  have RI14 := Lib.hid (RI13.out.below g14)
  clear RS13 RI13
  have G14 := Lib.hid (bel_chain G13.out g14)
  clear hm g14
  go_wp2_with fail
  refine (markIntS_rint u5.heap.size u6.heap.size pI mS _ (fun j => -f1 j) (1) u14 RI14.out (by omega) (by omega) (by omega)).mono ?_
  rintro e u15 ⟨rfl, hr, hm⟩
  have RS15 := Lib.hid (RS14.out.mid hm (by omega))
  clear RS14 RI14
  have s15 : u14.heap.size ≤ u15.heap.size := Nat.le_of_eq hm.size.symm
  have G15 := Lib.hid (hm.bel G14.out (by omega))
  have RI15 := Lib.hid hr
  clear hr hm
  go_wp2_with fail
  refine (heldIntS_rint pI mS _ (fun j => (1 : Int) + j) (1) u15 RI15.out.ls (by omega) (by omega) (by omega) (fun _ _ => rfl)).mono ?_
  rintro e u16 ⟨rfl, rfl⟩
  go_wp2_with fail
  refine (toIntS_any a0 n0 c0 f0 u15 (L0.out.below G15.out) (by omega)).mono ?_
  rintro e u16 ⟨rfl, ho, hb, hs⟩
  have g16 : Below u15.heap.size u15 u16 := hb
  have s16 : u15.heap.size ≤ u16.heap.size := g16.size
  have RS16 := Lib.hid (RS15.out.below g16)
  have RI16 := Lib.hid (RI15.out.below g16)
  clear RS15 RI15
  have G16 := Lib.hid (bel_chain G15.out g16)
  have RA016 := Lib.hid ((show Res u16 u15.heap.size u16.heap.size (some ⟨u15.heap.size, 0, none⟩) n0 f0 from .inr ⟨_, rfl, Nat.le_refl _, by omega, ho⟩).rsp)
  clear ho hb hs g16
  go_wp2_with fail
  refine (toIntS_any a1 n1 c1 f1 u16 (L1.out.below G16.out) (by omega)).mono ?_
  rintro e u17 ⟨rfl, ho, hb, hs⟩
  have g17 : Below u16.heap.size u16 u17 := hb
  have s17 : u16.heap.size ≤ u17.heap.size := g17.size
  have RS17 := Lib.hid (RS16.out.below g17)
  have RI17 := Lib.hid (RI16.out.below g17)
  have RA017 := Lib.hid (RA016.out.below g17)
  clear RS16 RI16 RA016
  have G17 := Lib.hid (bel_chain G16.out g17)
  have RA117 := Lib.hid ((show Res u17 u16.heap.size u17.heap.size (some ⟨u16.heap.size, 0, none⟩) n1 f1 from .inr ⟨_, rfl, Nat.le_refl _, by omega, ho⟩).rsp)
  clear ho hb hs g17
  go_wp2_with fail
  refine (iTakenTurned_any (some ⟨u15.heap.size, 0, none⟩) (some ⟨u16.heap.size, 0, none⟩) n0 n1 _ _ f0 f1 u17 RA017.out.ls RA117.out.ls (by omega) (by omega) T0.out T1.out (GV0.out.step G17.out)).mono ?_
  rintro e u18 hr
  obtain ⟨pH, mH, qH, rfl, hmH, hres, hb⟩ := hr
  obtain rfl : mS = mH := HmS.out.trans hmH.symm
  clear hmH
  have g18 : Below u17.heap.size u17 u18 := hb
  have s18 : u17.heap.size ≤ u18.heap.size := g18.size
  have RS18 := Lib.hid (RS17.out.below g18)
  have RI18 := Lib.hid (RI17.out.below g18)
  have RA018 := Lib.hid (RA017.out.below g18)
  have RA118 := Lib.hid (RA117.out.below g18)
  clear RS17 RI17 RA017 RA117
  have G18 := Lib.hid (bel_chain G17.out g18)
  have RH18 : Hid (Rsp u18 u17.heap.size u18.heap.size pH mS (fun j => -f1 j)) := hres
  clear hres hb g18
  go_wp2_with fail
  refine (eqIntS_yes pH pS mS _ _ (fun j => -f1 j) (fun j => -f1 j) u18 RH18.out.ls RS18.out.ls (by omega) (fun _ _ => rfl)).mono ?_
  rintro e u19 ⟨rfl, hm⟩
  have g19 : Below u18.heap.size u18 u19 := hm.bel0
  have s19 : u18.heap.size ≤ u19.heap.size := g19.size
  have RS19 := Lib.hid (RS18.out.below g19)
  have RI19 := Lib.hid (RI18.out.below g19)
  have RA019 := Lib.hid (RA018.out.below g19)
  have RA119 := Lib.hid (RA118.out.below g19)
  have RH19 := Lib.hid (RH18.out.below g19)
  clear RS18 RI18 RA018 RA118 RH18
  have G19 := Lib.hid (bel_chain G18.out g19)
  clear hm g19
  go_wp2_with fail
  refine (heldIntS_rint pI mS _ (fun j => (1 : Int) + j) (1) u19 RI19.out.ls (by omega) (by omega) (by omega) (fun _ _ => rfl)).mono ?_
  rintro e u20 ⟨rfl, rfl⟩
  go_wp2_with fail
  go_ret
  exact ⟨rfl, G19.out⟩
end Go.Proofs.YtgcalmenlcpjpaaDoor
