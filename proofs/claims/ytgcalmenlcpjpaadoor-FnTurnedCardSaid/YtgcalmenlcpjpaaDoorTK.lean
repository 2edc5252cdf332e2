/- The drawn laws of chapter 5: their walks (printed by gentd.py). -/
import Derived.IntWalk
import Derived.Test.YtgcalmenlcpjpaaDoorTJ
import Derived.Test.YtgcalmenlcpjpaaDoorTG
import Derived.Test.YtgcalmenlcpjpaaDoorBI9
import Derived.Test.YtgcalmenlcpjpaaDoorEA
import Derived.Test.YtgcalmenlcpjpaaDoorEL
namespace Go.Proofs.YtgcalmenlcpjpaaDoor
open Go.RowKit
set_option linter.unusedVariables false
set_option maxRecDepth 100000
theorem RowR.as {w w' : World} {f : Nat → Int} {n : Nat} {ok b : Bool} {e : Ending} (h : RowR w w' f n ok e) (hk : ok = b) :
    ∃ (a : Option Addr) (m c : Nat), e = .returned (.tuple #[.slice a m c, .bool b]) ∧ m = (if b = true then n else 0) ∧ Rsp w' w.heap.size w'.heap.size a m f ∧ Below w.heap.size w w' := by subst hk; exact h
theorem PileR.row {w w' : World} {f : Nat → Int} {n : Nat} {N : Int} {ok : Bool} {e : Ending} (h : PileR w w' f n N ok e) : RowR w w' (pl f n N) n ok e := by
  obtain ⟨a, m, c, h1, h2, h3, h4⟩ := h
  exact ⟨a, m, c, h1, h2, h3.rsp, h4⟩
set_option maxRecDepth 100000 in
set_option maxHeartbeats 1000000 in
theorem wFnTaken (a0 : Option Addr) (n0 c0 : Nat) (z0 : List Int) (u0 : World) (h0 : IsRow .u8 u0 a0 n0 c0 z0) (hGV : GV u0) : Calls Tryd.prog 3 #[.slice a0 n0 c0] u0 fun e w' => e = .returned (.bool true) ∧ Below u0.heap.size u0 w' := by
  have GV0 := Lib.hid hGV; clear hGV
  have H0 := Lib.hid h0; clear h0
  by_cases big : 1048576 < n0
  · go_enter Tryd.func3, Tryd.ntmps3
    go_wp2_with fail
    go_ret
    exact ⟨rfl, Below.refl _ _⟩
  go_enter Tryd.func3, Tryd.ntmps3
  go_wp2_with fail
  refine (DrawTakenOf_any a0 n0 c0 z0 _ H0.out).mono ?_
  rintro e u1 ⟨va, n, vc, f, N, rfl, hs, hN0, hN1, hb⟩
  have G1 := Lib.hid hb; clear hb H0 big
  obtain ⟨hv, hn, hf⟩ := hs
  have RV1 := Lib.hid hv
  have B0 : Hid (Bnd f n) := Lib.hid fun j hj => by have := hf j hj; omega
  have BN : Hid (IntOk N) := Lib.hid ⟨by omega, by omega⟩
  clear hv hf
  by_cases hc : ofB f n N = true
  · have HC := Lib.hid hc; clear hc
    have E1 := Lib.hid (tvB_tk HC.out).1; have E2 := Lib.hid (tvB_tk HC.out).2; have BT := Lib.hid (bnd_tk HC.out); have S1 := Lib.hid (sysB_sys (ofB_spec.1 HC.out).1); have BD := Lib.hid (tkF_bd HC.out)
    go_wp2_with fail
    refine ((iTakenOf_any va n _ f N u1 RV1.out (by omega) B0.out BN.out (GV0.out.step G1.out)).mono (fun _ _ h => RowR.as h HC.out)).mono ?_
    rintro e u2 hr
    obtain ⟨pO, mO, qO, rfl, hmO, hres, hb⟩ := hr
    obtain rfl : n = mO := hmO.symm
    clear hmO
    have g2 : Below u1.heap.size u1 u2 := hb
    have s2 : u1.heap.size ≤ u2.heap.size := g2.size
    have RV2 := Lib.hid (RV1.out.below g2)
    clear RV1
    have G2 := Lib.hid (bel_chain G1.out g2)
    have RO2 : Hid (Ls u2 pO n (tkF f n N)) := hres.ls
    clear hres hb g2
    go_wp2_with fail
    refine ((sTakenOf_any va n _ f N u2 RV2.out (by omega)).mono (fun _ _ h => RowR.as h HC.out)).mono ?_
    rintro e u3 hr
    obtain ⟨pS, mS, qS, rfl, hmS, hres, hb⟩ := hr
    obtain rfl : n = mS := hmS.symm
    clear hmS
    have g3 : Below u2.heap.size u2 u3 := hb
    have s3 : u2.heap.size ≤ u3.heap.size := g3.size
    have RV3 := Lib.hid (RV2.out.below g3)
    have RO3 := Lib.hid (RO2.out.below g3)
    clear RV2 RO2
    have G3 := Lib.hid (bel_chain G2.out g3)
    have RS3 : Hid (Ls u3 pS n (tkF f n N)) := hres.ls
    clear hres hb g3
    go_wp2_with fail
    refine (sameInts_yes pO pS n _ _ (tkF f n N) (tkF f n N) u3 RO3.out RS3.out (by omega) (fun _ _ => rfl)).mono ?_
    rintro e u4 ⟨rfl, hm⟩
    have g4 : Below u3.heap.size u3 u4 := hm.bel0
    have s4 : u3.heap.size ≤ u4.heap.size := g4.size
    have RV4 := Lib.hid (RV3.out.below g4)
    have RO4 := Lib.hid (RO3.out.below g4)
    have RS4 := Lib.hid (RS3.out.below g4)
    clear RV3 RO3 RS3
    have G4 := Lib.hid (bel_chain G3.out g4)
    clear hm g4
    go_wp2_with fail
    refine ((iTakenValue_any va pO n n _ _ f (tkF f n N) u4 RV4.out RO4.out (by omega) (by omega) B0.out BT.out (GV0.out.step G4.out)).mono (fun _ _ h => by rw [E1.out, E2.out] at h; exact h)).mono ?_
    rintro e u5 ⟨rfl, hb⟩
    have g5 : Below u4.heap.size u4 u5 := hb
    have s5 : u4.heap.size ≤ u5.heap.size := g5.size
    have RV5 := Lib.hid (RV4.out.below g5)
    have RO5 := Lib.hid (RO4.out.below g5)
    have RS5 := Lib.hid (RS4.out.below g5)
    clear RV4 RO4 RS4
    have G5 := Lib.hid (bel_chain G4.out g5)
    clear hb g5
    go_wp2_with fail
    go_loopw [11] (fun i wr => ∃ k q : Nat, i = .int .i64 k ∧ k ≤ n ∧ wr = u5.drewN q) (fun i _ => n - (intOf i).toNat)
    case atStart => exact ⟨0, 0, rfl, by omega, rfl⟩
    case round =>
      obtain ⟨k, q, rfl, hk, rfl⟩ := hrel
      by_cases hlt : k + 1 < n
      · obtain ⟨b1, o1, rfl, hb1, hx⟩ := RO5.out k (by omega)
        obtain ⟨b2, o2, rfl, hb2, hy⟩ := RV5.out k (by omega)
        have hy2 : u5.cell? ⟨b2, o2 + (k + 1), none⟩ = some (.int .i64 (f (k + 1))) := by
          obtain ⟨b', o', e', _, hc⟩ := RV5.out (k + 1) hlt
          injection e' with e1
          injection e1 with e2 e3
          subst e2 e3
          exact hc
        have hr := tkF_rat (N := N) S1.out.1 k hlt
        have f1 := S1.out.1.pos k (by omega)
        have f3 := S1.out.1.pos (k + 1) hlt
        have f4 := S1.out.2.2 (k + 1) hlt
        have f2 := S1.out.2.2 k (by omega)
        have s2 := S1.out.1.rat_two hlt
        have s3 : rat f k ≤ 1000000 := Int.le_trans (Int.ediv_le_self _ (by omega)) f4
        have hdv : (f (k + 1)).tdiv (f k) = rat f k := Int.tdiv_eq_ediv_of_nonneg (by omega)
        obtain ⟨x1, x2⟩ := BD.out k (by omega)
        generalize tkF f n N k = x at *
        generalize rat f k = s at *
        generalize f (k + 1) = y2 at *
        generalize f k = y at *
        have hws : IntKind.i64.wrap s = s := IntWalk.i64_in _ (by omega)
        have hwi : IntKind.i64.wrap ((k : Int) + 1) = (k : Int) + 1 := IntWalk.i64_in _ (by omega)
        have hz : ¬ y = 0 := by omega
        have Hr : Hid ((if x < -x then -x else x) < s) := Lib.hid (by unfold abz at hr; split <;> omega)
        clear hr
        go_wp2_with fail
        go_quiet (fail)
        clear hdv hws hwi hz
        have hZs := Hr.out
        generalize (if x < -x then -x else x) = Z at *
        go_wp2_with fail
        go_roundw
        case rel => exact ⟨k + 1, _, by go_num, by omega, rfl⟩
        case measure => simp [intOf]; omega
      · go_wp2_with fail
        go_ret
        exact ⟨rfl, bel_chain G5.out ((Mid.refl 0 0 _).drewN _).bel0⟩
  · have HC := Lib.hid (show ofB f n N = false by simpa using hc); clear hc
    go_wp2_with fail
    refine ((iTakenOf_any va n _ f N u1 RV1.out (by omega) B0.out BN.out (GV0.out.step G1.out)).mono (fun _ _ h => RowR.as h HC.out)).mono ?_
    rintro e u2 hr
    obtain ⟨pO, mO, qO, rfl, hmO, hres, hb⟩ := hr
    obtain rfl : mO = 0 := hmO
    have g2 : Below u1.heap.size u1 u2 := hb
    have s2 : u1.heap.size ≤ u2.heap.size := g2.size
    have RV2 := Lib.hid (RV1.out.below g2)
    clear RV1
    have G2 := Lib.hid (bel_chain G1.out g2)
    have RO2 : Hid (Ls u2 pO 0 (tkF f n N)) := hres.ls
    clear hres hb g2
    go_wp2_with fail
    refine ((sTakenOf_any va n _ f N u2 RV2.out (by omega)).mono (fun _ _ h => RowR.as h HC.out)).mono ?_
    rintro e u3 hr
    obtain ⟨pS, mS, qS, rfl, hmS, hres, hb⟩ := hr
    obtain rfl : mS = 0 := hmS
    have g3 : Below u2.heap.size u2 u3 := hb
    have s3 : u2.heap.size ≤ u3.heap.size := g3.size
    have RV3 := Lib.hid (RV2.out.below g3)
    have RO3 := Lib.hid (RO2.out.below g3)
    clear RV2 RO2
    have G3 := Lib.hid (bel_chain G2.out g3)
    have RS3 : Hid (Ls u3 pS 0 (tkF f n N)) := hres.ls
    clear hres hb g3
    go_wp2_with fail
    refine (sameInts_yes pO pS 0 _ _ (tkF f n N) (tkF f n N) u3 RO3.out RS3.out (by omega) (fun _ _ => rfl)).mono ?_
    rintro e u4 ⟨rfl, hm⟩
    have g4 : Below u3.heap.size u3 u4 := hm.bel0
    have s4 : u3.heap.size ≤ u4.heap.size := g4.size
    have RV4 := Lib.hid (RV3.out.below g4)
    have RO4 := Lib.hid (RO3.out.below g4)
    have RS4 := Lib.hid (RS3.out.below g4)
    clear RV3 RO3 RS3
    have G4 := Lib.hid (bel_chain G3.out g4)
    clear hm g4
    go_wp2_with fail
    refine (sameInts_yes pO pS 0 _ _ (tkF f n N) (tkF f n N) u4 RO4.out RS4.out (by omega) (fun _ _ => rfl)).mono ?_
    rintro e u5 ⟨rfl, hm⟩
    have g5 : Below u4.heap.size u4 u5 := hm.bel0
    have s5 : u4.heap.size ≤ u5.heap.size := g5.size
    have RV5 := Lib.hid (RV4.out.below g5)
    have RO5 := Lib.hid (RO4.out.below g5)
    have RS5 := Lib.hid (RS4.out.below g5)
    clear RV4 RO4 RS4
    have G5 := Lib.hid (bel_chain G4.out g5)
    clear hm g5
    go_wp2_with fail
    go_ret
    exact ⟨rfl, G5.out⟩
set_option maxRecDepth 100000 in
set_option maxHeartbeats 1000000 in
theorem wFnTakenLeast (a0 : Option Addr) (n0 c0 : Nat) (z0 : List Int) (u0 : World) (h0 : IsRow .u8 u0 a0 n0 c0 z0) (hGV : GV u0) : Calls Tryd.prog 4 #[.slice a0 n0 c0] u0 fun e w' => e = .returned (.bool true) ∧ Below u0.heap.size u0 w' := by
  have GV0 := Lib.hid hGV; clear hGV
  have H0 := Lib.hid h0; clear h0
  by_cases big : 1048576 < n0
  · go_enter Tryd.func4, Tryd.ntmps4
    go_wp2_with fail
    go_ret
    exact ⟨rfl, Below.refl _ _⟩
  go_enter Tryd.func4, Tryd.ntmps4
  go_wp2_with fail
  refine (DrawTakenValue_any a0 n0 c0 z0 _ H0.out).mono ?_
  rintro e u1 ⟨va, n, vc, f, da, m, dc, p, rfl, hs, hp, hb⟩
  have G1 := Lib.hid hb; clear hb H0 big
  obtain ⟨hv, hn, hf⟩ := hs
  obtain ⟨hd, hm, hp⟩ := hp
  have RV1 := Lib.hid hv; have RD1 := Lib.hid hd
  have B0 : Hid (Bnd f n) := Lib.hid fun j hj => by have := hf j hj; omega
  have B1 : Hid (Bnd p m) := Lib.hid fun j hj => by have := hp j hj; omega
  clear hv hf hd hp
  by_cases hc : tvB f n p m = true
  · have HC := Lib.hid hc; clear hc
    have E := Lib.hid (tvR_of HC.out); have hsg := (tvB_spec.1 HC.out).1; have hvb := (tvB_spec.1 HC.out).2
    have S1 := Lib.hid (sysB_sys (sgnB_spec.1 hsg).1); have hmn := (sgnB_spec.1 hsg).2.1
    subst hmn
    have ES := Lib.hid hsg; have EZ := Lib.hid (tzR_of hsg)
    have BN : Hid (IntOk (val f p m)) := Lib.hid ⟨by omega, by omega⟩
    have HLe := Lib.hid (tkF_least (f := f) (p := p) (n := m) S1.out.1); have HSy := Lib.hid (sgnB_spec.1 hsg).1
    clear hsg
    go_wp2_with fail
    refine ((iTakenValue_any va da m m _ _ f p u1 RV1.out RD1.out (by omega) (by omega) B0.out B1.out (GV0.out.step G1.out)).mono (fun _ _ h => by rw [HC.out, E.out] at h; exact h)).mono ?_
    rintro e u2 ⟨rfl, hb⟩
    have g2 : Below u1.heap.size u1 u2 := hb
    have s2 : u1.heap.size ≤ u2.heap.size := g2.size
    have RV2 := Lib.hid (RV1.out.below g2)
    have RD2 := Lib.hid (RD1.out.below g2)
    clear RV1 RD1
    have G2 := Lib.hid (bel_chain G1.out g2)
    clear hb g2
    go_wp2_with fail
    refine ((sTakenValue_any va da m m _ _ f p u2 RV2.out RD2.out (by omega) (by omega)).mono (fun _ _ h => by rw [HC.out, E.out] at h; exact h)).mono ?_
    rintro e u3 ⟨rfl, hm⟩
    have g3 : Below u2.heap.size u2 u3 := hm.bel0
    have s3 : u2.heap.size ≤ u3.heap.size := g3.size
    have RV3 := Lib.hid (RV2.out.below g3)
    have RD3 := Lib.hid (RD2.out.below g3)
    clear RV2 RD2
    have G3 := Lib.hid (bel_chain G2.out g3)
    clear hm g3
    by_cases hneg : val f p m < 0
    · have HO : Hid (ofB f m (val f p m) = false) := Lib.hid (by rw [Bool.eq_false_iff]; exact fun h => by have := (ofB_spec.1 h).2.1; omega)
      have hm0 : 1 ≤ m := S1.out.1.len
      have EX : Hid (sgnB f m (tkF f m (val f p m)) 0 = false) := Lib.hid (by rw [Bool.eq_false_iff]; exact fun h => by have := (sgnB_spec.1 h).2.1; omega)
      have EY := Lib.hid (tzR_no EX.out)
      have B00 : Hid (Bnd (tkF f m (val f p m)) 0) := Lib.hid fun j hj => by omega
      go_wp2_with fail
      refine ((iTakenOf_any va m _ f (val f p m) u3 RV3.out (by omega) B0.out BN.out (GV0.out.step G3.out)).mono (fun _ _ h => RowR.as h HO.out)).mono ?_
      rintro e u4 hr
      obtain ⟨pO, mO, qO, rfl, hmO, hres, hb⟩ := hr
      obtain rfl : mO = 0 := hmO
      have g4 : Below u3.heap.size u3 u4 := hb
      have s4 : u3.heap.size ≤ u4.heap.size := g4.size
      have RV4 := Lib.hid (RV3.out.below g4)
      have RD4 := Lib.hid (RD3.out.below g4)
      clear RV3 RD3
      have G4 := Lib.hid (bel_chain G3.out g4)
      have RO4 : Hid (Ls u4 pO 0 (tkF f m (val f p m))) := hres.ls
      clear hres hb g4
      go_wp2_with fail
      refine ((iTakenSize_any va pO m 0 _ _ f (tkF f m (val f p m)) u4 RV4.out RO4.out (by omega) (by omega) B0.out B00.out (GV0.out.step G4.out)).mono (fun _ _ h => by rw [EX.out, EY.out] at h; exact h)).mono ?_
      rintro e u5 ⟨rfl, hb⟩
      have g5 : Below u4.heap.size u4 u5 := hb
      have s5 : u4.heap.size ≤ u5.heap.size := g5.size
      have RV5 := Lib.hid (RV4.out.below g5)
      have RD5 := Lib.hid (RD4.out.below g5)
      have RO5 := Lib.hid (RO4.out.below g5)
      clear RV4 RD4 RO4
      have G5 := Lib.hid (bel_chain G4.out g5)
      clear hb g5
      go_wp2_with fail
      refine ((iTakenSize_any va da m m _ _ f p u5 RV5.out RD5.out (by omega) (by omega) B0.out B1.out (GV0.out.step G5.out)).mono (fun _ _ h => by rw [ES.out, EZ.out] at h; exact h)).mono ?_
      rintro e u6 ⟨rfl, hb⟩
      have g6 : Below u5.heap.size u5 u6 := hb
      have s6 : u5.heap.size ≤ u6.heap.size := g6.size
      have RV6 := Lib.hid (RV5.out.below g6)
      have RD6 := Lib.hid (RD5.out.below g6)
      have RO6 := Lib.hid (RO5.out.below g6)
      clear RV5 RD5 RO5
      have G6 := Lib.hid (bel_chain G5.out g6)
      clear hb g6
      generalize val f p m = v at *
      generalize szF p m = y at *
      go_wp2_with fail
      go_ret
      exact ⟨rfl, G6.out⟩
    · have HO : Hid (ofB f m (val f p m) = true) := Lib.hid (ofB_spec.2 ⟨HSy.out, by omega, hvb.2⟩)
      have hle := HLe.out (by omega)
      have EX := Lib.hid (sgnB_tk HO.out); have EY := Lib.hid (tzR_of EX.out); have BT := Lib.hid (bnd_tk HO.out)
      have Hle := Lib.hid hle; clear hle
      go_wp2_with fail
      refine ((iTakenOf_any va m _ f (val f p m) u3 RV3.out (by omega) B0.out BN.out (GV0.out.step G3.out)).mono (fun _ _ h => RowR.as h HO.out)).mono ?_
      rintro e u4 hr
      obtain ⟨pO, mO, qO, rfl, hmO, hres, hb⟩ := hr
      obtain rfl : m = mO := hmO.symm
      clear hmO
      have g4 : Below u3.heap.size u3 u4 := hb
      have s4 : u3.heap.size ≤ u4.heap.size := g4.size
      have RV4 := Lib.hid (RV3.out.below g4)
      have RD4 := Lib.hid (RD3.out.below g4)
      clear RV3 RD3
      have G4 := Lib.hid (bel_chain G3.out g4)
      have RO4 : Hid (Ls u4 pO m (tkF f m (val f p m))) := hres.ls
      clear hres hb g4
      go_wp2_with fail
      refine ((iTakenSize_any va pO m m _ _ f (tkF f m (val f p m)) u4 RV4.out RO4.out (by omega) (by omega) B0.out BT.out (GV0.out.step G4.out)).mono (fun _ _ h => by rw [EX.out, EY.out] at h; exact h)).mono ?_
      rintro e u5 ⟨rfl, hb⟩
      have g5 : Below u4.heap.size u4 u5 := hb
      have s5 : u4.heap.size ≤ u5.heap.size := g5.size
      have RV5 := Lib.hid (RV4.out.below g5)
      have RD5 := Lib.hid (RD4.out.below g5)
      have RO5 := Lib.hid (RO4.out.below g5)
      clear RV4 RD4 RO4
      have G5 := Lib.hid (bel_chain G4.out g5)
      clear hb g5
      go_wp2_with fail
      refine ((iTakenSize_any va da m m _ _ f p u5 RV5.out RD5.out (by omega) (by omega) B0.out B1.out (GV0.out.step G5.out)).mono (fun _ _ h => by rw [ES.out, EZ.out] at h; exact h)).mono ?_
      rintro e u6 ⟨rfl, hb⟩
      have g6 : Below u5.heap.size u5 u6 := hb
      have s6 : u5.heap.size ≤ u6.heap.size := g6.size
      have RV6 := Lib.hid (RV5.out.below g6)
      have RD6 := Lib.hid (RD5.out.below g6)
      have RO6 := Lib.hid (RO5.out.below g6)
      clear RV5 RD5 RO5
      have G6 := Lib.hid (bel_chain G5.out g6)
      clear hb g6
      have hle := Hle.out
      generalize szF (tkF f m (val f p m)) m = x at *
      generalize val f p m = v at *
      generalize szF p m = y at *
      go_wp2_with fail
      go_ret
      exact ⟨rfl, G6.out⟩
  · have HC := Lib.hid (show tvB f n p m = false by simpa using hc); clear hc
    have E := Lib.hid (tvR_no HC.out)
    go_wp2_with fail
    refine ((iTakenValue_any va da n m _ _ f p u1 RV1.out RD1.out (by omega) (by omega) B0.out B1.out (GV0.out.step G1.out)).mono (fun _ _ h => by rw [HC.out, E.out] at h; exact h)).mono ?_
    rintro e u2 ⟨rfl, hb⟩
    have g2 : Below u1.heap.size u1 u2 := hb
    have s2 : u1.heap.size ≤ u2.heap.size := g2.size
    have RV2 := Lib.hid (RV1.out.below g2)
    have RD2 := Lib.hid (RD1.out.below g2)
    clear RV1 RD1
    have G2 := Lib.hid (bel_chain G1.out g2)
    clear hb g2
    go_wp2_with fail
    refine ((sTakenValue_any va da n m _ _ f p u2 RV2.out RD2.out (by omega) (by omega)).mono (fun _ _ h => by rw [HC.out, E.out] at h; exact h)).mono ?_
    rintro e u3 ⟨rfl, hm⟩
    have g3 : Below u2.heap.size u2 u3 := hm.bel0
    have s3 : u2.heap.size ≤ u3.heap.size := g3.size
    have RV3 := Lib.hid (RV2.out.below g3)
    have RD3 := Lib.hid (RD2.out.below g3)
    clear RV2 RD2
    have G3 := Lib.hid (bel_chain G2.out g3)
    clear hm g3
    go_wp2_with fail
    go_ret
    exact ⟨rfl, G3.out⟩
set_option maxRecDepth 100000 in
set_option maxHeartbeats 1000000 in
theorem wFnTakenSize (a0 : Option Addr) (n0 c0 : Nat) (z0 : List Int) (u0 : World) (h0 : IsRow .u8 u0 a0 n0 c0 z0) (hGV : GV u0) : Calls Tryd.prog 5 #[.slice a0 n0 c0] u0 fun e w' => e = .returned (.bool true) ∧ Below u0.heap.size u0 w' := by
  have GV0 := Lib.hid hGV; clear hGV
  have H0 := Lib.hid h0; clear h0
  by_cases big : 1048576 < n0
  · go_enter Tryd.func5, Tryd.ntmps5
    go_wp2_with fail
    go_ret
    exact ⟨rfl, Below.refl _ _⟩
  go_enter Tryd.func5, Tryd.ntmps5
  go_wp2_with fail
  refine (DrawTakenSize_any a0 n0 c0 z0 _ H0.out).mono ?_
  rintro e u1 ⟨va, n, vc, f, da, m, dc, p, rfl, hs, hp, hb⟩
  have G1 := Lib.hid hb; clear hb H0 big
  obtain ⟨hv, hn, hf⟩ := hs
  obtain ⟨hd, hm, hp⟩ := hp
  have RV1 := Lib.hid hv; have RD1 := Lib.hid hd
  have B0 : Hid (Bnd f n) := Lib.hid fun j hj => by have := hf j hj; omega
  have B1 : Hid (Bnd p m) := Lib.hid fun j hj => by have := hp j hj; omega
  clear hv hf hd hp
  by_cases hc : sgnB f n p m = true
  · have HC := Lib.hid hc; clear hc
    have hmn := (sgnB_spec.1 HC.out).2.1
    subst hmn
    have E := Lib.hid (tzR_of HC.out); have E1 := Lib.hid (sgnB_neg HC.out)
    have E2 : Hid (tzR f m (fun j => -p j) m = szF p m) := Lib.hid (by rw [tzR_of E1.out, szF_neg])
    have BT : Hid (Bnd (fun j => -p j) m) := Lib.hid fun j hj => by have h := (sgnB_spec.1 E1.out).2.2 j hj; exact ⟨Int.le_trans (by decide) h.1, Int.le_trans h.2 (by decide)⟩
    go_wp2_with fail
    refine ((iTakenSize_any va da m m _ _ f p u1 RV1.out RD1.out (by omega) (by omega) B0.out B1.out (GV0.out.step G1.out)).mono (fun _ _ h => by rw [HC.out, E.out] at h; exact h)).mono ?_
    rintro e u2 ⟨rfl, hb⟩
    have g2 : Below u1.heap.size u1 u2 := hb
    have s2 : u1.heap.size ≤ u2.heap.size := g2.size
    have RV2 := Lib.hid (RV1.out.below g2)
    have RD2 := Lib.hid (RD1.out.below g2)
    clear RV1 RD1
    have G2 := Lib.hid (bel_chain G1.out g2)
    clear hb g2
    go_wp2_with fail
    refine ((sTakenSize_any va da m m _ _ f p u2 RV2.out RD2.out (by omega) (by omega)).mono (fun _ _ h => by rw [HC.out, E.out] at h; exact h)).mono ?_
    rintro e u3 ⟨rfl, hm⟩
    have g3 : Below u2.heap.size u2 u3 := hm.bel0
    have s3 : u2.heap.size ≤ u3.heap.size := g3.size
    have RV3 := Lib.hid (RV2.out.below g3)
    have RD3 := Lib.hid (RD2.out.below g3)
    clear RV2 RD2
    have G3 := Lib.hid (bel_chain G2.out g3)
    clear hm g3
    go_wp2_with fail
    refine ((iTakenTurned_any va da m m _ _ f p u3 RV3.out RD3.out (by omega) (by omega) B0.out B1.out (GV0.out.step G3.out)).mono (fun _ _ h => RowR.as h HC.out)).mono ?_
    rintro e u4 hr
    obtain ⟨pO, mO, qO, rfl, hmO, hres, hb⟩ := hr
    obtain rfl : m = mO := hmO.symm
    clear hmO
    have g4 : Below u3.heap.size u3 u4 := hb
    have s4 : u3.heap.size ≤ u4.heap.size := g4.size
    have RV4 := Lib.hid (RV3.out.below g4)
    have RD4 := Lib.hid (RD3.out.below g4)
    clear RV3 RD3
    have G4 := Lib.hid (bel_chain G3.out g4)
    have RO4 : Hid (Ls u4 pO m (fun j => -p j)) := hres.ls
    clear hres hb g4
    go_wp2_with fail
    refine ((iTakenSize_any va pO m m _ _ f (fun j => -p j) u4 RV4.out RO4.out (by omega) (by omega) B0.out BT.out (GV0.out.step G4.out)).mono (fun _ _ h => by rw [E1.out, E2.out] at h; exact h)).mono ?_
    rintro e u5 ⟨rfl, hb⟩
    have g5 : Below u4.heap.size u4 u5 := hb
    have s5 : u4.heap.size ≤ u5.heap.size := g5.size
    have RV5 := Lib.hid (RV4.out.below g5)
    have RD5 := Lib.hid (RD4.out.below g5)
    have RO5 := Lib.hid (RO4.out.below g5)
    clear RV4 RD4 RO4
    have G5 := Lib.hid (bel_chain G4.out g5)
    clear hb g5
    generalize szF p m = y at *
    go_wp2_with fail
    go_ret
    exact ⟨rfl, G5.out⟩
  · have HC := Lib.hid (show sgnB f n p m = false by simpa using hc); clear hc
    have E := Lib.hid (tzR_no HC.out)
    go_wp2_with fail
    refine ((iTakenSize_any va da n m _ _ f p u1 RV1.out RD1.out (by omega) (by omega) B0.out B1.out (GV0.out.step G1.out)).mono (fun _ _ h => by rw [HC.out, E.out] at h; exact h)).mono ?_
    rintro e u2 ⟨rfl, hb⟩
    have g2 : Below u1.heap.size u1 u2 := hb
    have s2 : u1.heap.size ≤ u2.heap.size := g2.size
    have RV2 := Lib.hid (RV1.out.below g2)
    have RD2 := Lib.hid (RD1.out.below g2)
    clear RV1 RD1
    have G2 := Lib.hid (bel_chain G1.out g2)
    clear hb g2
    go_wp2_with fail
    refine ((sTakenSize_any va da n m _ _ f p u2 RV2.out RD2.out (by omega) (by omega)).mono (fun _ _ h => by rw [HC.out, E.out] at h; exact h)).mono ?_
    rintro e u3 ⟨rfl, hm⟩
    have g3 : Below u2.heap.size u2 u3 := hm.bel0
    have s3 : u2.heap.size ≤ u3.heap.size := g3.size
    have RV3 := Lib.hid (RV2.out.below g3)
    have RD3 := Lib.hid (RD2.out.below g3)
    clear RV2 RD2
    have G3 := Lib.hid (bel_chain G2.out g3)
    clear hm g3
    go_wp2_with fail
    go_ret
    exact ⟨rfl, G3.out⟩
set_option maxRecDepth 100000 in
set_option maxHeartbeats 1000000 in
theorem wFnSaved (a0 : Option Addr) (n0 c0 : Nat) (z0 : List Int) (u0 : World) (h0 : IsRow .u8 u0 a0 n0 c0 z0) (hGV : GV u0) : Calls Tryd.prog 6 #[.slice a0 n0 c0] u0 fun e w' => e = .returned (.bool true) ∧ Below u0.heap.size u0 w' := by
  have GV0 := Lib.hid hGV; clear hGV
  have H0 := Lib.hid h0; clear h0
  by_cases big : 1048576 < n0
  · go_enter Tryd.func6, Tryd.ntmps6
    go_wp2_with fail
    go_ret
    exact ⟨rfl, Below.refl _ _⟩
  go_enter Tryd.func6, Tryd.ntmps6
  go_wp2_with fail
  refine (DrawTakenSaved_any a0 n0 c0 z0 _ H0.out).mono ?_
  rintro e u1 ⟨va, n, vc, f, N, rfl, hs, hN0, hN1, hb⟩
  have G1 := Lib.hid hb; clear hb H0 big
  obtain ⟨hv, hn, hf⟩ := hs
  have RV1 := Lib.hid hv
  have B0 : Hid (Bnd f n) := Lib.hid fun j hj => by have := hf j hj; omega
  have BN : Hid (IntOk N) := Lib.hid ⟨by omega, by omega⟩
  clear hv hf
  by_cases hc : ofB f n N = true
  · have HC := Lib.hid hc; clear hc
    obtain ⟨v1, v2, v3⟩ := svR_of HC.out
    have E := Lib.hid v1; have E0 := Lib.hid v2; have EP := Lib.hid v3; have ES := Lib.hid (sgnB_tk HC.out); have EZ := Lib.hid (tzR_of ES.out); have BT := Lib.hid (bnd_tk HC.out)
    have EX : Hid (sizR f n (pl f n N) n = sumF (pl f n N) n) := Lib.hid (if_pos v3)
    have FT : Hid (Fit f n) := Lib.hid fun j hj => (B0.out j hj).2
    clear v1 v2 v3
    go_wp2_with fail
    refine ((iTakenSaved_any va n _ f N u1 RV1.out (by omega) B0.out BN.out (GV0.out.step G1.out)).mono (fun _ _ h => by rw [HC.out] at h; exact h)).mono ?_
    rintro e u2 ⟨rfl, hb⟩
    have g2 : Below u1.heap.size u1 u2 := hb
    have s2 : u1.heap.size ≤ u2.heap.size := g2.size
    have RV2 := Lib.hid (RV1.out.below g2)
    clear RV1
    have G2 := Lib.hid (bel_chain G1.out g2)
    clear hb g2
    go_wp2_with fail
    refine ((sTakenSaved_any va n _ f N u2 RV2.out (by omega)).mono (fun _ _ h => by rw [HC.out] at h; exact h)).mono ?_
    rintro e u3 ⟨rfl, hb⟩
    have g3 : Below u2.heap.size u2 u3 := hb
    have s3 : u2.heap.size ≤ u3.heap.size := g3.size
    have RV3 := Lib.hid (RV2.out.below g3)
    clear RV2
    have G3 := Lib.hid (bel_chain G2.out g3)
    clear hb g3
    go_wp2_with fail
    refine ((iPileOf_any va n _ f N u3 RV3.out (by omega) FT.out).mono (fun _ _ h => RowR.as (PileR.row h) HC.out)).mono ?_
    rintro e u4 hr
    obtain ⟨pX, mX, qX, rfl, hmX, hres, hb⟩ := hr
    obtain rfl : n = mX := hmX.symm
    clear hmX
    have g4 : Below u3.heap.size u3 u4 := hb
    have s4 : u3.heap.size ≤ u4.heap.size := g4.size
    have RV4 := Lib.hid (RV3.out.below g4)
    clear RV3
    have G4 := Lib.hid (bel_chain G3.out g4)
    have RX4 : Hid (Ls u4 pX n (pl f n N)) := hres.ls
    clear hres hb g4
    go_wp2_with fail
    refine ((iTakenOf_any va n _ f N u4 RV4.out (by omega) B0.out BN.out (GV0.out.step G4.out)).mono (fun _ _ h => RowR.as h HC.out)).mono ?_
    rintro e u5 hr
    obtain ⟨pY, mY, qY, rfl, hmY, hres, hb⟩ := hr
    obtain rfl : n = mY := hmY.symm
    clear hmY
    have g5 : Below u4.heap.size u4 u5 := hb
    have s5 : u4.heap.size ≤ u5.heap.size := g5.size
    have RV5 := Lib.hid (RV4.out.below g5)
    have RX5 := Lib.hid (RX4.out.below g5)
    clear RV4 RX4
    have G5 := Lib.hid (bel_chain G4.out g5)
    have RY5 : Hid (Ls u5 pY n (tkF f n N)) := hres.ls
    clear hres hb g5
    go_wp2_with fail
    refine ((iPileSize_any va pX n n _ _ f (pl f n N) u5 RV5.out RX5.out (by omega) (by omega) FT.out).mono (fun _ _ h => by rw [EP.out, EX.out] at h; exact h)).mono ?_
    rintro e u6 ⟨rfl, hb⟩
    have g6 : Below u5.heap.size u5 u6 := hb
    have s6 : u5.heap.size ≤ u6.heap.size := g6.size
    have RV6 := Lib.hid (RV5.out.below g6)
    have RX6 := Lib.hid (RX5.out.below g6)
    have RY6 := Lib.hid (RY5.out.below g6)
    clear RV5 RX5 RY5
    have G6 := Lib.hid (bel_chain G5.out g6)
    clear hb g6
    go_wp2_with fail
    refine ((iTakenSize_any va pY n n _ _ f (tkF f n N) u6 RV6.out RY6.out (by omega) (by omega) B0.out BT.out (GV0.out.step G6.out)).mono (fun _ _ h => by rw [ES.out, EZ.out] at h; exact h)).mono ?_
    rintro e u7 ⟨rfl, hb⟩
    have g7 : Below u6.heap.size u6 u7 := hb
    have s7 : u6.heap.size ≤ u7.heap.size := g7.size
    have RV7 := Lib.hid (RV6.out.below g7)
    have RX7 := Lib.hid (RX6.out.below g7)
    have RY7 := Lib.hid (RY6.out.below g7)
    clear RV6 RX6 RY6
    have G7 := Lib.hid (bel_chain G6.out g7)
    clear hb g7
    have hv1 := E.out; have hv2 := E0.out
    obtain ⟨c1, c2, c3, c4⟩ := sv_bd HC.out
    generalize svR f n N = s at *
    generalize sumF (pl f n N) n = x at *
    generalize szF (tkF f n N) n = y at *
    obtain rfl : s = x - y := hv1
    go_wp2_with fail
    go_ret
    exact ⟨rfl, G7.out⟩
  · have HC := Lib.hid (show ofB f n N = false by simpa using hc); clear hc
    have E := Lib.hid (svR_no HC.out)
    go_wp2_with fail
    refine ((iTakenSaved_any va n _ f N u1 RV1.out (by omega) B0.out BN.out (GV0.out.step G1.out)).mono (fun _ _ h => by rw [HC.out, E.out] at h; exact h)).mono ?_
    rintro e u2 ⟨rfl, hb⟩
    have g2 : Below u1.heap.size u1 u2 := hb
    have s2 : u1.heap.size ≤ u2.heap.size := g2.size
    have RV2 := Lib.hid (RV1.out.below g2)
    clear RV1
    have G2 := Lib.hid (bel_chain G1.out g2)
    clear hb g2
    go_wp2_with fail
    refine ((sTakenSaved_any va n _ f N u2 RV2.out (by omega)).mono (fun _ _ h => by rw [HC.out, E.out] at h; exact h)).mono ?_
    rintro e u3 ⟨rfl, hb⟩
    have g3 : Below u2.heap.size u2 u3 := hb
    have s3 : u2.heap.size ≤ u3.heap.size := g3.size
    have RV3 := Lib.hid (RV2.out.below g3)
    clear RV2
    have G3 := Lib.hid (bel_chain G2.out g3)
    clear hb g3
    go_wp2_with fail
    go_ret
    exact ⟨rfl, G3.out⟩
set_option maxRecDepth 100000 in
set_option maxHeartbeats 1000000 in
theorem wFnMost (a0 : Option Addr) (n0 c0 : Nat) (z0 : List Int) (u0 : World) (h0 : IsRow .u8 u0 a0 n0 c0 z0) (hGV : GV u0) : Calls Tryd.prog 7 #[.slice a0 n0 c0] u0 fun e w' => e = .returned (.bool true) ∧ Below u0.heap.size u0 w' := by
  have GV0 := Lib.hid hGV; clear hGV
  have H0 := Lib.hid h0; clear h0
  by_cases big : 1048576 < n0
  · go_enter Tryd.func7, Tryd.ntmps7
    go_wp2_with fail
    go_ret
    exact ⟨rfl, Below.refl _ _⟩
  go_enter Tryd.func7, Tryd.ntmps7
  go_wp2_with fail
  refine (DrawTakenMost_any a0 n0 c0 z0 _ H0.out).mono ?_
  rintro e u1 ⟨va, n, vc, f, N, rfl, hs, hN0, hN1, hb⟩
  have G1 := Lib.hid hb; clear hb H0 big
  obtain ⟨hv, hn, hf⟩ := hs
  have RV1 := Lib.hid hv
  have B0 : Hid (Bnd f n) := Lib.hid fun j hj => by have := hf j hj; omega
  have BN : Hid (IntOk N) := Lib.hid ⟨by omega, by omega⟩
  clear hv hf
  by_cases hc : mstB f n N = true
  · have HC := Lib.hid hc; clear hc
    obtain ⟨hs1, hN2, hN3⟩ := mstB_spec.1 HC.out
    obtain ⟨K, rfl⟩ := Int.eq_ofNat_of_zero_le hN2
    have E : Hid (mstR f n (K : Int) = (bst (sTk f n) K : Nat)) := Lib.hid (by unfold mstR; rw [if_pos HC.out, Int.toNat_natCast])
    have hn1 := (sysB_sys hs1).1.len
    have HO := Lib.hid (fun k (hk : k ≤ K) => ofB_most HC.out k (by omega))
    have HB := Lib.hid (bst_most (sTk f n) K); have hbl := bst_le (sTk f n) K
    have HZ := Lib.hid (fun k (hk : k ≤ K) => (⟨sgnB_tk (HO.out k hk), by rw [tzR_of (sgnB_tk (HO.out k hk)), sTk_sz k hn1], bnd_tk (HO.out k hk)⟩ : sgnB f n (tkF f n k) n = true ∧ tzR f n (tkF f n k) n = sTk f n k ∧ Bnd (tkF f n k) n))
    clear hs1
    go_wp2_with fail
    refine ((iTakenMost_any va n _ f (K : Int) u1 RV1.out (by omega) B0.out BN.out (GV0.out.step G1.out)).mono (fun _ _ h => by rw [HC.out, E.out] at h; exact h)).mono ?_
    rintro e u2 ⟨rfl, hb⟩
    have g2 : Below u1.heap.size u1 u2 := hb
    have s2 : u1.heap.size ≤ u2.heap.size := g2.size
    have RV2 := Lib.hid (RV1.out.below g2)
    clear RV1
    have G2 := Lib.hid (bel_chain G1.out g2)
    clear hb g2
    go_wp2_with fail
    refine ((sTakenMost_any va n _ f (K : Int) u2 RV2.out (by omega)).mono (fun _ _ h => by rw [HC.out, E.out] at h; exact h)).mono ?_
    rintro e u3 ⟨rfl, hb⟩
    have g3 : Below u2.heap.size u2 u3 := hb
    have s3 : u2.heap.size ≤ u3.heap.size := g3.size
    have RV3 := Lib.hid (RV2.out.below g3)
    clear RV2
    have G3 := Lib.hid (bel_chain G2.out g3)
    clear hb g3
    generalize bst (sTk f n) K = b at *
    obtain ⟨z1, z2, z3⟩ := HZ.out b hbl
    have Z0 := Lib.hid (HO.out b hbl); have Z1 := Lib.hid z1; have Z2 := Lib.hid z2; have Z3 := Lib.hid z3
    have Bb : Hid (IntOk (b : Int)) := Lib.hid ⟨by omega, by omega⟩
    clear z1 z2 z3
    go_wp2_with fail
    refine ((iTakenOf_any va n _ f (b : Int) u3 RV3.out (by omega) B0.out Bb.out (GV0.out.step G3.out)).mono (fun _ _ h => RowR.as h Z0.out)).mono ?_
    rintro e u4 hr
    obtain ⟨pO, mO, qO, rfl, hmO, hres, hb⟩ := hr
    obtain rfl : n = mO := hmO.symm
    clear hmO
    have g4 : Below u3.heap.size u3 u4 := hb
    have s4 : u3.heap.size ≤ u4.heap.size := g4.size
    have RV4 := Lib.hid (RV3.out.below g4)
    clear RV3
    have G4 := Lib.hid (bel_chain G3.out g4)
    have RO4 : Hid (Ls u4 pO n (tkF f n b)) := hres.ls
    clear hres hb g4
    go_wp2_with fail
    refine ((iTakenSize_any va pO n n _ _ f (tkF f n b) u4 RV4.out RO4.out (by omega) (by omega) B0.out Z3.out (GV0.out.step G4.out)).mono (fun _ _ h => by rw [Z1.out, Z2.out] at h; exact h)).mono ?_
    rintro e u5 ⟨rfl, hb⟩
    have g5 : Below u4.heap.size u4 u5 := hb
    have s5 : u4.heap.size ≤ u5.heap.size := g5.size
    have RV5 := Lib.hid (RV4.out.below g5)
    have RO5 := Lib.hid (RO4.out.below g5)
    clear RV4 RO4
    have G5 := Lib.hid (bel_chain G4.out g5)
    clear hb g5
    have hle0 := HB.out
    generalize hy : sTk f n b = y at *
    have Hy := Lib.hid hy; clear hy
    go_wp2_with fail
    go_loopw [13] (fun i wr => ∃ k : Nat, i = .int .i64 k ∧ k ≤ K + 1 ∧ Below u5.heap.size u5 wr) (fun i _ => K + 1 - (intOf i).toNat)
    case atStart => exact ⟨0, rfl, by omega, Below.refl _ _⟩
    case round =>
      obtain ⟨k, rfl, hk, hbel⟩ := hrel
      have HBr := Lib.hid hbel; clear hbel
      by_cases hlt : k ≤ K ∧ K ≤ 300
      · obtain ⟨hkK, hK3⟩ := hlt
        obtain ⟨z1, z2, z3⟩ := HZ.out k hkK
        have Y0 := Lib.hid (HO.out k hkK); have Y1 := Lib.hid z1; have Y2 := Lib.hid z2; have Y3 := Lib.hid z3
        obtain ⟨l1, l2⟩ := HB.out k hkK
        have Bk : Hid (IntOk (k : Int)) := Lib.hid ⟨by omega, by omega⟩
        have HT : Hid ((k < b ∧ (sTk f n k == y) = false) ∨ ¬ k < b) := Lib.hid ((Nat.lt_or_ge k b).imp (fun h => ⟨h, by rw [beq_eq_false_iff_ne]; have := l2 h; omega⟩) (fun h => by omega))
        clear z1 z2 z3 l2
        generalize sTk f n k = z at *
        go_wp2_with fail
        refine ((iTakenOf_any va n _ f (k : Int) wr (RV5.out.below HBr.out) (by omega) B0.out Bk.out ((GV0.out.step G5.out).step HBr.out)).mono (fun _ _ h => RowR.as h Y0.out)).mono ?_
        rintro e w1 ⟨pY, mY, qY, rfl, hmY, hres, hb⟩
        obtain rfl : n = mY := hmY.symm
        clear hmY
        have HB1 := Lib.hid (bel_chain HBr.out hb); have LY := Lib.hid hres.ls; clear hres hb
        go_wp2_with fail
        refine ((iTakenSize_any va pY n n _ _ f (tkF f n k) w1 (RV5.out.below HB1.out) LY.out (by omega) (by omega) B0.out Y3.out ((GV0.out.step G5.out).step HB1.out)).mono (fun _ _ h => by rw [Y1.out, Y2.out] at h; exact h)).mono ?_
        rintro e w2 ⟨rfl, hb⟩
        have HB2 := Lib.hid (bel_chain HB1.out hb); clear hb
        rcases HT.out with ⟨t1, t2⟩ | t1
        all_goals
          go_wp2_with fail
          go_roundw
          case rel => exact ⟨k + 1, by go_num, by omega, HB2.out⟩
          case measure => simp [intOf]; omega
      · rcases (show (k ≤ K ∧ ¬ K ≤ 300) ∨ ¬ k ≤ K by omega) with ⟨t1, t2⟩ | t1
        all_goals
          clear hlt
          go_wp2_with fail
          go_ret
          exact ⟨rfl, bel_chain G5.out HBr.out⟩
  · have HC := Lib.hid (show mstB f n N = false by simpa using hc); clear hc
    have E := Lib.hid (mstR_no HC.out)
    go_wp2_with fail
    refine ((iTakenMost_any va n _ f N u1 RV1.out (by omega) B0.out BN.out (GV0.out.step G1.out)).mono (fun _ _ h => by rw [HC.out, E.out] at h; exact h)).mono ?_
    rintro e u2 ⟨rfl, hb⟩
    have g2 : Below u1.heap.size u1 u2 := hb
    have s2 : u1.heap.size ≤ u2.heap.size := g2.size
    have RV2 := Lib.hid (RV1.out.below g2)
    clear RV1
    have G2 := Lib.hid (bel_chain G1.out g2)
    clear hb g2
    go_wp2_with fail
    refine ((sTakenMost_any va n _ f N u2 RV2.out (by omega)).mono (fun _ _ h => by rw [HC.out, E.out] at h; exact h)).mono ?_
    rintro e u3 ⟨rfl, hb⟩
    have g3 : Below u2.heap.size u2 u3 := hb
    have s3 : u2.heap.size ≤ u3.heap.size := g3.size
    have RV3 := Lib.hid (RV2.out.below g3)
    clear RV2
    have G3 := Lib.hid (bel_chain G2.out g3)
    clear hb g3
    go_wp2_with fail
    go_ret
    exact ⟨rfl, G3.out⟩
set_option maxRecDepth 100000 in
set_option maxHeartbeats 1000000 in
theorem wFnTurned (a0 : Option Addr) (n0 c0 : Nat) (z0 : List Int) (u0 : World) (h0 : IsRow .u8 u0 a0 n0 c0 z0) (hGV : GV u0) : Calls Tryd.prog 8 #[.slice a0 n0 c0] u0 fun e w' => e = .returned (.bool true) ∧ Below u0.heap.size u0 w' := by
  have GV0 := Lib.hid hGV; clear hGV
  have H0 := Lib.hid h0; clear h0
  by_cases big : 1048576 < n0
  · go_enter Tryd.func8, Tryd.ntmps8
    go_wp2_with fail
    go_ret
    exact ⟨rfl, Below.refl _ _⟩
  go_enter Tryd.func8, Tryd.ntmps8
  go_wp2_with fail
  refine (DrawTakenTurned_any a0 n0 c0 z0 _ H0.out).mono ?_
  rintro e u1 ⟨va, n, vc, f, da, m, dc, p, rfl, hs, hp, hb⟩
  have G1 := Lib.hid hb; clear hb H0 big
  obtain ⟨hv, hn, hf⟩ := hs
  obtain ⟨hd, hm, hp⟩ := hp
  have RV1 := Lib.hid hv; have RD1 := Lib.hid hd
  have B0 : Hid (Bnd f n) := Lib.hid fun j hj => by have := hf j hj; omega
  have B1 : Hid (Bnd p m) := Lib.hid fun j hj => by have := hp j hj; omega
  clear hv hf hd hp
  by_cases hc : sgnB f n p m = true
  · have HC := Lib.hid hc; clear hc
    have hmn := (sgnB_spec.1 HC.out).2.1
    subst hmn
    have E1 := Lib.hid (sgnB_neg HC.out); have E2 := Lib.hid (tvB_neg HC.out).1; have E3 := Lib.hid (tvB_neg HC.out).2
    have BT : Hid (Bnd (fun j => -p j) m) := Lib.hid fun j hj => by have h := (sgnB_spec.1 E1.out).2.2 j hj; exact ⟨Int.le_trans (by decide) h.1, Int.le_trans h.2 (by decide)⟩
    go_wp2_with fail
    refine ((iTakenTurned_any va da m m _ _ f p u1 RV1.out RD1.out (by omega) (by omega) B0.out B1.out (GV0.out.step G1.out)).mono (fun _ _ h => RowR.as h HC.out)).mono ?_
    rintro e u2 hr
    obtain ⟨pO, mO, qO, rfl, hmO, hres, hb⟩ := hr
    obtain rfl : m = mO := hmO.symm
    clear hmO
    have g2 : Below u1.heap.size u1 u2 := hb
    have s2 : u1.heap.size ≤ u2.heap.size := g2.size
    have RV2 := Lib.hid (RV1.out.below g2)
    have RD2 := Lib.hid (RD1.out.below g2)
    clear RV1 RD1
    have G2 := Lib.hid (bel_chain G1.out g2)
    have RO2 : Hid (Ls u2 pO m (fun j => -p j)) := hres.ls
    clear hres hb g2
    go_wp2_with fail
    refine ((sTakenTurned_any va da m m _ _ f p u2 RV2.out RD2.out (by omega) (by omega)).mono (fun _ _ h => RowR.as h HC.out)).mono ?_
    rintro e u3 hr
    obtain ⟨pS, mS, qS, rfl, hmS, hres, hb⟩ := hr
    obtain rfl : m = mS := hmS.symm
    clear hmS
    have g3 : Below u2.heap.size u2 u3 := hb
    have s3 : u2.heap.size ≤ u3.heap.size := g3.size
    have RV3 := Lib.hid (RV2.out.below g3)
    have RD3 := Lib.hid (RD2.out.below g3)
    have RO3 := Lib.hid (RO2.out.below g3)
    clear RV2 RD2 RO2
    have G3 := Lib.hid (bel_chain G2.out g3)
    have RS3 : Hid (Ls u3 pS m (fun j => -p j)) := hres.ls
    clear hres hb g3
    go_wp2_with fail
    refine (sameInts_yes pO pS m _ _ (fun j => -p j) (fun j => -p j) u3 RO3.out RS3.out (by omega) (fun _ _ => rfl)).mono ?_
    rintro e u4 ⟨rfl, hm⟩
    have g4 : Below u3.heap.size u3 u4 := hm.bel0
    have s4 : u3.heap.size ≤ u4.heap.size := g4.size
    have RV4 := Lib.hid (RV3.out.below g4)
    have RD4 := Lib.hid (RD3.out.below g4)
    have RO4 := Lib.hid (RO3.out.below g4)
    have RS4 := Lib.hid (RS3.out.below g4)
    clear RV3 RD3 RO3 RS3
    have G4 := Lib.hid (bel_chain G3.out g4)
    clear hm g4
    go_wp2_with fail
    refine ((iTakenTurned_any va pO m m _ _ f (fun j => -p j) u4 RV4.out RO4.out (by omega) (by omega) B0.out BT.out (GV0.out.step G4.out)).mono (fun _ _ h => RowR.as h E1.out)).mono ?_
    rintro e u5 hr
    obtain ⟨pX, mX, qX, rfl, hmX, hres, hb⟩ := hr
    obtain rfl : m = mX := hmX.symm
    clear hmX
    have g5 : Below u4.heap.size u4 u5 := hb
    have s5 : u4.heap.size ≤ u5.heap.size := g5.size
    have RV5 := Lib.hid (RV4.out.below g5)
    have RD5 := Lib.hid (RD4.out.below g5)
    have RO5 := Lib.hid (RO4.out.below g5)
    have RS5 := Lib.hid (RS4.out.below g5)
    clear RV4 RD4 RO4 RS4
    have G5 := Lib.hid (bel_chain G4.out g5)
    have RX5 : Hid (Ls u5 pX m (fun j => -(-p j))) := hres.ls
    clear hres hb g5
    go_wp2_with fail
    refine (iTakenValue_any va da m m _ _ f p u5 RV5.out RD5.out (by omega) (by omega) B0.out B1.out (GV0.out.step G5.out)).mono ?_
    rintro e u6 ⟨rfl, hb⟩
    have g6 : Below u5.heap.size u5 u6 := hb
    have s6 : u5.heap.size ≤ u6.heap.size := g6.size
    have RV6 := Lib.hid (RV5.out.below g6)
    have RD6 := Lib.hid (RD5.out.below g6)
    have RO6 := Lib.hid (RO5.out.below g6)
    have RS6 := Lib.hid (RS5.out.below g6)
    have RX6 := Lib.hid (RX5.out.below g6)
    clear RV5 RD5 RO5 RS5 RX5
    have G6 := Lib.hid (bel_chain G5.out g6)
    clear hb g6
    go_wp2_with fail
    refine ((iTakenValue_any va pO m m _ _ f (fun j => -p j) u6 RV6.out RO6.out (by omega) (by omega) B0.out BT.out (GV0.out.step G6.out)).mono (fun _ _ h => by rw [E2.out, E3.out] at h; exact h)).mono ?_
    rintro e u7 ⟨rfl, hb⟩
    have g7 : Below u6.heap.size u6 u7 := hb
    have s7 : u6.heap.size ≤ u7.heap.size := g7.size
    have RV7 := Lib.hid (RV6.out.below g7)
    have RD7 := Lib.hid (RD6.out.below g7)
    have RO7 := Lib.hid (RO6.out.below g7)
    have RS7 := Lib.hid (RS6.out.below g7)
    have RX7 := Lib.hid (RX6.out.below g7)
    clear RV6 RD6 RO6 RS6 RX6
    have G7 := Lib.hid (bel_chain G6.out g7)
    clear hb g7
    obtain ⟨c1, c2⟩ := tvR_bd f p m m
    generalize tvB f m p m = b at *
    generalize tvR f m p m = v at *
    go_wp2_with fail
    refine (sameInts_yes pX da m _ _ (fun j => -(-p j)) p u7 RX7.out RD7.out (by omega) (fun _ _ => Int.neg_neg _)).mono ?_
    rintro e u8 ⟨rfl, hm⟩
    have g8 : Below u7.heap.size u7 u8 := hm.bel0
    have s8 : u7.heap.size ≤ u8.heap.size := g8.size
    have RV8 := Lib.hid (RV7.out.below g8)
    have RD8 := Lib.hid (RD7.out.below g8)
    have RO8 := Lib.hid (RO7.out.below g8)
    have RS8 := Lib.hid (RS7.out.below g8)
    have RX8 := Lib.hid (RX7.out.below g8)
    clear RV7 RD7 RO7 RS7 RX7
    have G8 := Lib.hid (bel_chain G7.out g8)
    clear hm g8
    go_wp2_with fail
    go_ret
    exact ⟨rfl, G8.out⟩
  · have HC := Lib.hid (show sgnB f n p m = false by simpa using hc); clear hc
    go_wp2_with fail
    refine ((iTakenTurned_any va da n m _ _ f p u1 RV1.out RD1.out (by omega) (by omega) B0.out B1.out (GV0.out.step G1.out)).mono (fun _ _ h => RowR.as h HC.out)).mono ?_
    rintro e u2 hr
    obtain ⟨pO, mO, qO, rfl, hmO, hres, hb⟩ := hr
    obtain rfl : mO = 0 := hmO
    have g2 : Below u1.heap.size u1 u2 := hb
    have s2 : u1.heap.size ≤ u2.heap.size := g2.size
    have RV2 := Lib.hid (RV1.out.below g2)
    have RD2 := Lib.hid (RD1.out.below g2)
    clear RV1 RD1
    have G2 := Lib.hid (bel_chain G1.out g2)
    have RO2 : Hid (Ls u2 pO 0 (fun j => -p j)) := hres.ls
    clear hres hb g2
    go_wp2_with fail
    refine ((sTakenTurned_any va da n m _ _ f p u2 RV2.out RD2.out (by omega) (by omega)).mono (fun _ _ h => RowR.as h HC.out)).mono ?_
    rintro e u3 hr
    obtain ⟨pS, mS, qS, rfl, hmS, hres, hb⟩ := hr
    obtain rfl : mS = 0 := hmS
    have g3 : Below u2.heap.size u2 u3 := hb
    have s3 : u2.heap.size ≤ u3.heap.size := g3.size
    have RV3 := Lib.hid (RV2.out.below g3)
    have RD3 := Lib.hid (RD2.out.below g3)
    have RO3 := Lib.hid (RO2.out.below g3)
    clear RV2 RD2 RO2
    have G3 := Lib.hid (bel_chain G2.out g3)
    have RS3 : Hid (Ls u3 pS 0 (fun j => -p j)) := hres.ls
    clear hres hb g3
    go_wp2_with fail
    refine (sameInts_yes pO pS 0 _ _ (fun j => -p j) (fun j => -p j) u3 RO3.out RS3.out (by omega) (fun _ _ => rfl)).mono ?_
    rintro e u4 ⟨rfl, hm⟩
    have g4 : Below u3.heap.size u3 u4 := hm.bel0
    have s4 : u3.heap.size ≤ u4.heap.size := g4.size
    have RV4 := Lib.hid (RV3.out.below g4)
    have RD4 := Lib.hid (RD3.out.below g4)
    have RO4 := Lib.hid (RO3.out.below g4)
    have RS4 := Lib.hid (RS3.out.below g4)
    clear RV3 RD3 RO3 RS3
    have G4 := Lib.hid (bel_chain G3.out g4)
    clear hm g4
    go_wp2_with fail
    refine (sameInts_yes pO pS 0 _ _ (fun j => -p j) (fun j => -p j) u4 RO4.out RS4.out (by omega) (fun _ _ => rfl)).mono ?_
    rintro e u5 ⟨rfl, hm⟩
    have g5 : Below u4.heap.size u4 u5 := hm.bel0
    have s5 : u4.heap.size ≤ u5.heap.size := g5.size
    have RV5 := Lib.hid (RV4.out.below g5)
    have RD5 := Lib.hid (RD4.out.below g5)
    have RO5 := Lib.hid (RO4.out.below g5)
    have RS5 := Lib.hid (RS4.out.below g5)
    clear RV4 RD4 RO4 RS4
    have G5 := Lib.hid (bel_chain G4.out g5)
    clear hm g5
    go_wp2_with fail
    go_ret
    exact ⟨rfl, G5.out⟩
end Go.Proofs.YtgcalmenlcpjpaaDoor
