/- The law FnPileOf: its walk. -/
import Derived.Test.YtbepcmjjgpbgaaaBX
namespace Go.Proofs.Ytbepcmjjgpbgaaa
open Go.RowKit
set_option linter.unusedVariables false
set_option maxRecDepth 100000
set_option maxRecDepth 100000 in
set_option maxHeartbeats 1000000 in
theorem wFnPileOf (a0 : Option Addr) (n0 c0 : Nat) (z0 : List Int) (u0 : World) (h0 : IsRow .u8 u0 a0 n0 c0 z0) : Calls Try.prog 4 #[.slice a0 n0 c0] u0 fun e w' => e = .returned (.bool true) ∧ Below u0.heap.size u0 w' := by
  have H0 := Lib.hid h0; clear h0
  by_cases big : 1048576 < n0
  · go_enter Try.func4, Try.ntmps4
    go_wp2_with fail
    go_ret
    exact ⟨rfl, Below.refl _ _⟩
  go_enter Try.func4, Try.ntmps4
  go_wp2_with fail
  refine (DrawPileOf_any a0 n0 c0 z0 _ H0.out).mono ?_
  rintro e u1 ⟨va, n, vc, f, N, rfl, ⟨hv, hn, hf⟩, hN0, hN1, hb⟩
  have RV1 := Lib.hid hv; have G1 := Lib.hid hb
  have FT : Hid (Fit f n) := fun j hj => by have := hf j hj; omega
  have HF := Lib.hid hf
  clear hv hb hf H0 big
  by_cases hc : ofB f n N = true
  · have HC := Lib.hid hc; clear hc
    obtain ⟨hs, h0, h1⟩ := ofB_spec.1 HC.out
    have E1 := Lib.hid (pl_valR hs h0 h1); have E2 := Lib.hid (pl_valB hs h0 h1); have E3 := Lib.hid (pl_plB hs h0 h1)
    clear hs h0 h1
    go_wp2_with fail
    refine ((iPileOf_any va n _ f N u1 RV1.out.ls (by omega) FT.out).mono (fun _ _ h => PileR.as h HC.out)).mono ?_
    rintro e u2 hr
    obtain ⟨pO, mO, qO, rfl, hmO, hres, hb⟩ := hr
    obtain rfl : n = mO := hmO.symm
    clear hmO
    have g2 : Below u1.heap.size u1 u2 := hb
    have s2 : u1.heap.size ≤ u2.heap.size := g2.size
    have RV2 := Lib.hid (RV1.out.below g2)
    clear RV1
    have G2 := Lib.hid (bel_chain G1.out g2)
    have RO2 : Hid (Ls u2 pO n (pl f n (N))) := hres.ls
    clear hres hb g2
    go_wp2_with fail
    refine ((sPileOf_any va n _ f N u2 RV2.out.ls (by omega)).mono (fun _ _ h => PileR.as h HC.out)).mono ?_
    rintro e u3 hr
    obtain ⟨pS, mS, qS, rfl, hmS, hres, hb⟩ := hr
    obtain rfl : n = mS := hmS.symm
    clear hmS
    have g3 : Below u2.heap.size u2 u3 := hb
    have s3 : u2.heap.size ≤ u3.heap.size := g3.size
    have RV3 := Lib.hid (RV2.out.below g3)
    have RO3 := Lib.hid (RO2.out.below g3)
    clear RV2 RO2
    have G3 := Lib.hid (bel_chain G2.out g3)
    have RS3 : Hid (Ls u3 pS n (pl f n (N))) := hres.ls
    clear hres hb g3
    go_wp2_with fail
    refine (sameInts_yes pO pS n _ _ (pl f n (N)) (pl f n (N)) u3 RO3.out.ls RS3.out.ls (by omega) (fun _ _ => rfl)).mono ?_
    rintro e u4 ⟨rfl, hm⟩
    have g4 : Below u3.heap.size u3 u4 := hm.bel0
    have s4 : u3.heap.size ≤ u4.heap.size := g4.size
    have RV4 := Lib.hid (RV3.out.below g4)
    have RO4 := Lib.hid (RO3.out.below g4)
    have RS4 := Lib.hid (RS3.out.below g4)
    clear RV3 RO3 RS3
    have G4 := Lib.hid (bel_chain G3.out g4)
    clear hm g4
    go_wp2_with fail
    refine ((iPileValue_any va pO n n _ _ f (pl f n (N)) u4 RV4.out.ls RO4.out.ls (by omega) (by omega) FT.out).mono (fun _ _ h => by rw [E1.out, E2.out] at h; exact h)).mono ?_
    rintro e u5 ⟨rfl, hb⟩
    have g5 : Below u4.heap.size u4 u5 := hb
    have s5 : u4.heap.size ≤ u5.heap.size := g5.size
    have RV5 := Lib.hid (RV4.out.below g5)
    have RO5 := Lib.hid (RO4.out.below g5)
    have RS5 := Lib.hid (RS4.out.below g5)
    clear RV4 RO4 RS4
    have G5 := Lib.hid (bel_chain G4.out g5)
    clear hb g5
    go_wp2_with fail
    refine ((iPilePlain_any va pO n n _ _ f (pl f n (N)) u5 RV5.out.ls RO5.out.ls (by omega) (by omega) FT.out).mono (fun _ _ h => by rw [E3.out] at h; exact h)).mono ?_
    rintro e u6 ⟨rfl, hb⟩
    have g6 : Below u5.heap.size u5 u6 := hb
    have s6 : u5.heap.size ≤ u6.heap.size := g6.size
    have RV6 := Lib.hid (RV5.out.below g6)
    have RO6 := Lib.hid (RO5.out.below g6)
    have RS6 := Lib.hid (RS5.out.below g6)
    clear RV5 RO5 RS5
    have G6 := Lib.hid (bel_chain G5.out g6)
    clear hb g6
    go_wp2_with fail
    go_ret
    exact ⟨rfl, G6.out⟩
  · have HC := Lib.hid (show ofB f n N = false by simpa using hc); clear hc
    go_wp2_with fail
    refine ((iPileOf_any va n _ f N u1 RV1.out.ls (by omega) FT.out).mono (fun _ _ h => PileR.as h HC.out)).mono ?_
    rintro e u2 hr
    obtain ⟨pO, mO, qO, rfl, hmO, hres, hb⟩ := hr
    obtain rfl : mO = 0 := hmO
    have g2 : Below u1.heap.size u1 u2 := hb
    have s2 : u1.heap.size ≤ u2.heap.size := g2.size
    have RV2 := Lib.hid (RV1.out.below g2)
    clear RV1
    have G2 := Lib.hid (bel_chain G1.out g2)
    have RO2 : Hid (Ls u2 pO 0 (pl f n (N))) := hres.ls
    clear hres hb g2
    go_wp2_with fail
    refine ((sPileOf_any va n _ f N u2 RV2.out.ls (by omega)).mono (fun _ _ h => PileR.as h HC.out)).mono ?_
    rintro e u3 hr
    obtain ⟨pS, mS, qS, rfl, hmS, hres, hb⟩ := hr
    obtain rfl : mS = 0 := hmS
    have g3 : Below u2.heap.size u2 u3 := hb
    have s3 : u2.heap.size ≤ u3.heap.size := g3.size
    have RV3 := Lib.hid (RV2.out.below g3)
    have RO3 := Lib.hid (RO2.out.below g3)
    clear RV2 RO2
    have G3 := Lib.hid (bel_chain G2.out g3)
    have RS3 : Hid (Ls u3 pS 0 (pl f n (N))) := hres.ls
    clear hres hb g3
    go_wp2_with fail
    refine (sameInts_yes pO pS 0 _ _ (pl f n (N)) (pl f n (N)) u3 RO3.out.ls RS3.out.ls (by omega) (fun _ _ => rfl)).mono ?_
    rintro e u4 ⟨rfl, hm⟩
    have g4 : Below u3.heap.size u3 u4 := hm.bel0
    have s4 : u3.heap.size ≤ u4.heap.size := g4.size
    have RV4 := Lib.hid (RV3.out.below g4)
    have RO4 := Lib.hid (RO3.out.below g4)
    have RS4 := Lib.hid (RS3.out.below g4)
    clear RV3 RO3 RS3
    have G4 := Lib.hid (bel_chain G3.out g4)
    clear hm g4
    go_wp2_with fail
    refine (sameInts_yes pO pS 0 _ _ (pl f n (N)) (pl f n (N)) u4 RO4.out.ls RS4.out.ls (by omega) (fun _ _ => rfl)).mono ?_
    rintro e u5 ⟨rfl, hm⟩
    have g5 : Below u4.heap.size u4 u5 := hm.bel0
    have s5 : u4.heap.size ≤ u5.heap.size := g5.size
    have RV5 := Lib.hid (RV4.out.below g5)
    have RO5 := Lib.hid (RO4.out.below g5)
    have RS5 := Lib.hid (RS4.out.below g5)
    clear RV4 RO4 RS4
    have G5 := Lib.hid (bel_chain G4.out g5)
    clear hm g5
    go_wp2_with fail
    go_ret
    exact ⟨rfl, G5.out⟩
end Go.Proofs.Ytbepcmjjgpbgaaa
