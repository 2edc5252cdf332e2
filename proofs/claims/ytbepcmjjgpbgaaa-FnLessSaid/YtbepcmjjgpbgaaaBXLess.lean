/- The law FnLess: its walk. -/
import Derived.Test.YtbepcmjjgpbgaaaBX
namespace Go.Proofs.Ytbepcmjjgpbgaaa
open Go.RowKit
set_option linter.unusedVariables false
set_option maxRecDepth 100000
set_option maxRecDepth 100000 in
set_option maxHeartbeats 1000000 in
theorem wFnLess (a0 : Option Addr) (n0 c0 : Nat) (z0 : List Int) (u0 : World) (h0 : IsRow .u8 u0 a0 n0 c0 z0) : Calls Try.prog 8 #[.slice a0 n0 c0] u0 fun e w' => e = .returned (.bool true) ∧ Below u0.heap.size u0 w' := by
  have H0 := Lib.hid h0; clear h0
  by_cases big : 1048576 < n0
  · go_enter Try.func8, Try.ntmps8
    go_wp2_with fail
    go_ret
    exact ⟨rfl, Below.refl _ _⟩
  go_enter Try.func8, Try.ntmps8
  go_wp2_with fail
  refine (DrawPileLess_any a0 n0 c0 z0 _ H0.out).mono ?_
  rintro e u1 ⟨va, n, vc, f, pa, m, pc, p, pb, l, pd, q, rfl, ⟨hv, hn, hf⟩, ⟨hp, hm, hq⟩, ⟨hp', hm', hq'⟩, hb⟩
  have RV1 := Lib.hid hv; have G1 := Lib.hid hb
  have FT : Hid (Fit f n) := fun j hj => by have := hf j hj; omega
  have HF := Lib.hid hf
  clear hv hb hf H0 big
  have RP1 := Lib.hid hp; clear hp hq
  have RQ1 := Lib.hid hp'; clear hp' hq'
  by_cases hc : lessB f n p m q l = true
  · have HC := Lib.hid hc; clear hc
    have hc := HC.out
    unfold lessB at hc
    simp only [Bool.and_eq_true, decide_eq_true_eq] at hc
    obtain ⟨hv1, hv2, hle⟩ := hc
    obtain ⟨hs, hmn, hp1, hr1, h0, h1, ho⟩ := val_of hv1
    obtain ⟨_, hln, hp2, hr2, g0, g1, _⟩ := val_of hv2
    obtain rfl : n = m := hmn.symm
    obtain rfl : n = l := hln.symm
    have hpv := pl_val' (N := val f p n - val f q n) hs
    have E1 : Hid (sumB f n (pl f n (val f p n - val f q n)) n q n = true) := by show _ = _; unfold sumB; rw [pl_pil hs (by omega) (by omega), hp2, hpv, show val f p n - val f q n + val f q n = val f p n by omega, ho]; rfl
    have E2 := Lib.hid hr1; have E3 := Lib.hid hv1; have E4 := Lib.hid ho
    have E8 : Hid (∀ j, j < n → pl f n (val f (pl f n (val f p n - val f q n)) n + val f q n) j = pl f n (val f p n) j) := fun j _ => by rw [hpv, show val f p n - val f q n + val f q n = val f p n by omega]
    clear hs hp1 hp2 hr1 hr2 hv1 hv2 ho hpv
    go_wp2_with fail
    refine ((iPileLess_any va pa pb n n n _ _ _ f p q u1 RV1.out.ls RP1.out.ls RQ1.out.ls (by omega) (by omega) (by omega) FT.out).mono (fun _ _ h => PileR.as h HC.out)).mono ?_
    rintro e u2 hr
    obtain ⟨pO, mO, qO, rfl, hmO, hres, hb⟩ := hr
    obtain rfl : n = mO := hmO.symm
    clear hmO
    have g2 : Below u1.heap.size u1 u2 := hb
    have s2 : u1.heap.size ≤ u2.heap.size := g2.size
    have RV2 := Lib.hid (RV1.out.below g2)
    have RP2 := Lib.hid (RP1.out.below g2)
    have RQ2 := Lib.hid (RQ1.out.below g2)
    clear RV1 RP1 RQ1
    have G2 := Lib.hid (bel_chain G1.out g2)
    have RO2 : Hid (Ls u2 pO n (pl f n (val f p n - val f q n))) := hres.ls
    clear hres hb g2
    go_wp2_with fail
    refine ((sPileLess_any va pa pb n n n _ _ _ f p q u2 RV2.out.ls RP2.out.ls RQ2.out.ls (by omega) (by omega) (by omega)).mono (fun _ _ h => PileR.as h HC.out)).mono ?_
    rintro e u3 hr
    obtain ⟨pS, mS, qS, rfl, hmS, hres, hb⟩ := hr
    obtain rfl : n = mS := hmS.symm
    clear hmS
    have g3 : Below u2.heap.size u2 u3 := hb
    have s3 : u2.heap.size ≤ u3.heap.size := g3.size
    have RV3 := Lib.hid (RV2.out.below g3)
    have RP3 := Lib.hid (RP2.out.below g3)
    have RQ3 := Lib.hid (RQ2.out.below g3)
    have RO3 := Lib.hid (RO2.out.below g3)
    clear RV2 RP2 RQ2 RO2
    have G3 := Lib.hid (bel_chain G2.out g3)
    have RS3 : Hid (Ls u3 pS n (pl f n (val f p n - val f q n))) := hres.ls
    clear hres hb g3
    go_wp2_with fail
    refine (sameInts_yes pO pS n _ _ (pl f n (val f p n - val f q n)) (pl f n (val f p n - val f q n)) u3 RO3.out.ls RS3.out.ls (by omega) (fun _ _ => rfl)).mono ?_
    rintro e u4 ⟨rfl, hm⟩
    have g4 : Below u3.heap.size u3 u4 := hm.bel0
    have s4 : u3.heap.size ≤ u4.heap.size := g4.size
    have RV4 := Lib.hid (RV3.out.below g4)
    have RP4 := Lib.hid (RP3.out.below g4)
    have RQ4 := Lib.hid (RQ3.out.below g4)
    have RO4 := Lib.hid (RO3.out.below g4)
    have RS4 := Lib.hid (RS3.out.below g4)
    clear RV3 RP3 RQ3 RO3 RS3
    have G4 := Lib.hid (bel_chain G3.out g4)
    clear hm g4
    go_wp2_with fail
    refine ((iPileSum_any va pO pb n n n _ _ _ f (pl f n (val f p n - val f q n)) q u4 RV4.out.ls RO4.out.ls RQ4.out.ls (by omega) (by omega) (by omega) FT.out).mono (fun _ _ h => PileR.as h E1.out)).mono ?_
    rintro e u5 hr
    obtain ⟨pX, mX, qX, rfl, hmX, hres, hb⟩ := hr
    obtain rfl : n = mX := hmX.symm
    clear hmX
    have g5 : Below u4.heap.size u4 u5 := hb
    have s5 : u4.heap.size ≤ u5.heap.size := g5.size
    have RV5 := Lib.hid (RV4.out.below g5)
    have RP5 := Lib.hid (RP4.out.below g5)
    have RQ5 := Lib.hid (RQ4.out.below g5)
    have RO5 := Lib.hid (RO4.out.below g5)
    have RS5 := Lib.hid (RS4.out.below g5)
    clear RV4 RP4 RQ4 RO4 RS4
    have G5 := Lib.hid (bel_chain G4.out g5)
    have RX5 : Hid (Ls u5 pX n (pl f n (val f (pl f n (val f p n - val f q n)) n + val f q n))) := hres.ls
    clear hres hb g5
    go_wp2_with fail
    refine ((iPileValue_any va pa n n _ _ f p u5 RV5.out.ls RP5.out.ls (by omega) (by omega) FT.out).mono (fun _ _ h => by rw [E2.out, E3.out] at h; exact h)).mono ?_
    rintro e u6 ⟨rfl, hb⟩
    have g6 : Below u5.heap.size u5 u6 := hb
    have s6 : u5.heap.size ≤ u6.heap.size := g6.size
    have RV6 := Lib.hid (RV5.out.below g6)
    have RP6 := Lib.hid (RP5.out.below g6)
    have RQ6 := Lib.hid (RQ5.out.below g6)
    have RO6 := Lib.hid (RO5.out.below g6)
    have RS6 := Lib.hid (RS5.out.below g6)
    have RX6 := Lib.hid (RX5.out.below g6)
    clear RV5 RP5 RQ5 RO5 RS5 RX5
    have G6 := Lib.hid (bel_chain G5.out g6)
    clear hb g6
    go_wp2_with fail
    refine ((iPileOf_any va n _ f (val f p n) u6 RV6.out.ls (by omega) FT.out).mono (fun _ _ h => PileR.as h E4.out)).mono ?_
    rintro e u7 hr
    obtain ⟨pY, mY, qY, rfl, hmY, hres, hb⟩ := hr
    obtain rfl : n = mY := hmY.symm
    clear hmY
    have g7 : Below u6.heap.size u6 u7 := hb
    have s7 : u6.heap.size ≤ u7.heap.size := g7.size
    have RV7 := Lib.hid (RV6.out.below g7)
    have RP7 := Lib.hid (RP6.out.below g7)
    have RQ7 := Lib.hid (RQ6.out.below g7)
    have RO7 := Lib.hid (RO6.out.below g7)
    have RS7 := Lib.hid (RS6.out.below g7)
    have RX7 := Lib.hid (RX6.out.below g7)
    clear RV6 RP6 RQ6 RO6 RS6 RX6
    have G7 := Lib.hid (bel_chain G6.out g7)
    have RY7 : Hid (Ls u7 pY n (pl f n (val f p n))) := hres.ls
    clear hres hb g7
    go_wp2_with fail
    refine (sameInts_yes pX pY n _ _ (pl f n (val f (pl f n (val f p n - val f q n)) n + val f q n)) (pl f n (val f p n)) u7 RX7.out.ls RY7.out.ls (by omega) E8.out).mono ?_
    rintro e u8 ⟨rfl, hm⟩
    have g8 : Below u7.heap.size u7 u8 := hm.bel0
    have s8 : u7.heap.size ≤ u8.heap.size := g8.size
    have RV8 := Lib.hid (RV7.out.below g8)
    have RP8 := Lib.hid (RP7.out.below g8)
    have RQ8 := Lib.hid (RQ7.out.below g8)
    have RO8 := Lib.hid (RO7.out.below g8)
    have RS8 := Lib.hid (RS7.out.below g8)
    have RX8 := Lib.hid (RX7.out.below g8)
    have RY8 := Lib.hid (RY7.out.below g8)
    clear RV7 RP7 RQ7 RO7 RS7 RX7 RY7
    have G8 := Lib.hid (bel_chain G7.out g8)
    clear hm g8
    go_wp2_with fail
    go_ret
    exact ⟨rfl, G8.out⟩
  · have HC := Lib.hid (show lessB f n p m q l = false by simpa using hc); clear hc
    go_wp2_with fail
    refine ((iPileLess_any va pa pb n m l _ _ _ f p q u1 RV1.out.ls RP1.out.ls RQ1.out.ls (by omega) (by omega) (by omega) FT.out).mono (fun _ _ h => PileR.as h HC.out)).mono ?_
    rintro e u2 hr
    obtain ⟨pO, mO, qO, rfl, hmO, hres, hb⟩ := hr
    obtain rfl : mO = 0 := hmO
    have g2 : Below u1.heap.size u1 u2 := hb
    have s2 : u1.heap.size ≤ u2.heap.size := g2.size
    have RV2 := Lib.hid (RV1.out.below g2)
    have RP2 := Lib.hid (RP1.out.below g2)
    have RQ2 := Lib.hid (RQ1.out.below g2)
    clear RV1 RP1 RQ1
    have G2 := Lib.hid (bel_chain G1.out g2)
    have RO2 : Hid (Ls u2 pO 0 (pl f n (val f p n - val f q n))) := hres.ls
    clear hres hb g2
    go_wp2_with fail
    refine ((sPileLess_any va pa pb n m l _ _ _ f p q u2 RV2.out.ls RP2.out.ls RQ2.out.ls (by omega) (by omega) (by omega)).mono (fun _ _ h => PileR.as h HC.out)).mono ?_
    rintro e u3 hr
    obtain ⟨pS, mS, qS, rfl, hmS, hres, hb⟩ := hr
    obtain rfl : mS = 0 := hmS
    have g3 : Below u2.heap.size u2 u3 := hb
    have s3 : u2.heap.size ≤ u3.heap.size := g3.size
    have RV3 := Lib.hid (RV2.out.below g3)
    have RP3 := Lib.hid (RP2.out.below g3)
    have RQ3 := Lib.hid (RQ2.out.below g3)
    have RO3 := Lib.hid (RO2.out.below g3)
    clear RV2 RP2 RQ2 RO2
    have G3 := Lib.hid (bel_chain G2.out g3)
    have RS3 : Hid (Ls u3 pS 0 (pl f n (val f p n - val f q n))) := hres.ls
    clear hres hb g3
    go_wp2_with fail
    refine (sameInts_yes pO pS 0 _ _ (pl f n (val f p n - val f q n)) (pl f n (val f p n - val f q n)) u3 RO3.out.ls RS3.out.ls (by omega) (fun _ _ => rfl)).mono ?_
    rintro e u4 ⟨rfl, hm⟩
    have g4 : Below u3.heap.size u3 u4 := hm.bel0
    have s4 : u3.heap.size ≤ u4.heap.size := g4.size
    have RV4 := Lib.hid (RV3.out.below g4)
    have RP4 := Lib.hid (RP3.out.below g4)
    have RQ4 := Lib.hid (RQ3.out.below g4)
    have RO4 := Lib.hid (RO3.out.below g4)
    have RS4 := Lib.hid (RS3.out.below g4)
    clear RV3 RP3 RQ3 RO3 RS3
    have G4 := Lib.hid (bel_chain G3.out g4)
    clear hm g4
    go_wp2_with fail
    refine (sameInts_yes pO pS 0 _ _ (pl f n (val f p n - val f q n)) (pl f n (val f p n - val f q n)) u4 RO4.out.ls RS4.out.ls (by omega) (fun _ _ => rfl)).mono ?_
    rintro e u5 ⟨rfl, hm⟩
    have g5 : Below u4.heap.size u4 u5 := hm.bel0
    have s5 : u4.heap.size ≤ u5.heap.size := g5.size
    have RV5 := Lib.hid (RV4.out.below g5)
    have RP5 := Lib.hid (RP4.out.below g5)
    have RQ5 := Lib.hid (RQ4.out.below g5)
    have RO5 := Lib.hid (RO4.out.below g5)
    have RS5 := Lib.hid (RS4.out.below g5)
    clear RV4 RP4 RQ4 RO4 RS4
    have G5 := Lib.hid (bel_chain G4.out g5)
    clear hm g5
    go_wp2_with fail
    go_ret
    exact ⟨rfl, G5.out⟩
end Go.Proofs.Ytbepcmjjgpbgaaa
