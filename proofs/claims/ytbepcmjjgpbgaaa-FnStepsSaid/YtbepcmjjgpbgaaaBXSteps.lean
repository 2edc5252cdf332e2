/- The law FnSteps: its walk. -/
import Derived.Test.YtbepcmjjgpbgaaaBX
namespace Go.Proofs.Ytbepcmjjgpbgaaa
open Go.RowKit
set_option linter.unusedVariables false
set_option maxRecDepth 100000
set_option maxRecDepth 100000 in
set_option maxHeartbeats 1000000 in
theorem wFnSteps (a0 : Option Addr) (n0 c0 : Nat) (z0 : List Int) (u0 : World) (h0 : IsRow .u8 u0 a0 n0 c0 z0) : Calls Try.prog 10 #[.slice a0 n0 c0] u0 fun e w' => e = .returned (.bool true) ∧ Below u0.heap.size u0 w' := by
  have H0 := Lib.hid h0; clear h0
  by_cases big : 1048576 < n0
  · go_enter Try.func10, Try.ntmps10
    go_wp2_with fail
    go_ret
    exact ⟨rfl, Below.refl _ _⟩
  go_enter Try.func10, Try.ntmps10
  go_wp2_with fail
  refine (DrawPileSteps_any a0 n0 c0 z0 _ H0.out).mono ?_
  rintro e u1 ⟨va, n, vc, f, pa, m, pc, p, rfl, ⟨hv, hn, hf⟩, ⟨hp, hm, hq⟩, hb⟩
  have RV1 := Lib.hid hv; have G1 := Lib.hid hb
  have FT : Hid (Fit f n) := fun j hj => by have := hf j hj; omega
  have HF := Lib.hid hf
  clear hv hb hf H0 big
  have RP1 := Lib.hid hp; clear hp hq
  by_cases hc : valB f n p m = true
  · have HC := Lib.hid hc; clear hc
    obtain ⟨hs, hmn, hp, hvr, h0, h1, ho⟩ := val_of HC.out
    obtain rfl : n = m := hmn.symm
    obtain ⟨s1, s2, s3, _, s4, s5⟩ := pilB_sys hp
    have hle := size_saved s1 s4
    have hst : stpR f n p n = stp f p (n - 1) := if_pos HC.out
    have hiff := stp_plain s1 s4
    have hnn := stp_nonneg s1 s4 (n - 1) (by have := s1.len; omega)
    have hb1 := (sum_bd s4 s5 s2 n (Nat.le_refl _))
    have hx0 := sumF_nonneg n (f := pl f n (val f p n)) (fun j hj => pl_nonneg s1 _ h0 j hj)
    have E1 := Lib.hid hvr; have E2 := Lib.hid ho; have E3 := Lib.hid hp; have E4 := Lib.hid (pl_pil hs h0 h1); have E5 := Lib.hid (siz_eq E4.out); have E6 := Lib.hid (siz_eq hp); have E7 := Lib.hid hst
    have E8 : Hid (plB f n p n = (stp f p (n - 1) == 0)) := by
      show _ = _
      rw [Bool.eq_iff_iff, plB_spec, beq_iff_eq]
      exact ⟨fun h => hiff.2 h.2, fun h => ⟨hp, hiff.1 h⟩⟩
    clear hs hp hvr ho hst hiff s1 s3 s4 s5
    obtain ⟨hb1, hb1'⟩ := hb1
    obtain ⟨X, hX⟩ : ∃ X, sumF (pl f n (val f p n)) n = X := ⟨_, rfl⟩
    obtain ⟨Y, hY⟩ : ∃ Y, sumF p n = Y := ⟨_, rfl⟩
    obtain ⟨Z, hZ⟩ : ∃ Z, stp f p (n - 1) = Z := ⟨_, rfl⟩
    rw [hX] at E5 hle hx0
    rw [hY] at E6 hle hb1 hb1'
    rw [hZ] at E7 E8 hle hnn
    clear hX hY hZ
    go_wp2_with fail
    refine ((iPileSteps_any va pa n n _ _ f p u1 RV1.out.ls RP1.out.ls (by omega) (by omega) FT.out).mono (fun _ _ h => by rw [E7.out, HC.out] at h; exact h)).mono ?_
    rintro e u2 ⟨rfl, hb⟩
    have g2 : Below u1.heap.size u1 u2 := hb
    have s2 : u1.heap.size ≤ u2.heap.size := g2.size
    have RV2 := Lib.hid (RV1.out.below g2)
    have RP2 := Lib.hid (RP1.out.below g2)
    clear RV1 RP1
    have G2 := Lib.hid (bel_chain G1.out g2)
    clear hb g2
    go_wp2_with fail
    refine ((sPileSteps_any va pa n n _ _ f p u2 RV2.out.ls RP2.out.ls (by omega) (by omega)).mono (fun _ _ h => by rw [E7.out, HC.out] at h; exact h)).mono ?_
    rintro e u3 ⟨rfl, hm⟩
    have g3 : Below u2.heap.size u2 u3 := hm.bel0
    have s3 : u2.heap.size ≤ u3.heap.size := g3.size
    have RV3 := Lib.hid (RV2.out.below g3)
    have RP3 := Lib.hid (RP2.out.below g3)
    clear RV2 RP2
    have G3 := Lib.hid (bel_chain G2.out g3)
    clear hm g3
    go_wp2_with fail
    refine ((iPileValue_any va pa n n _ _ f p u3 RV3.out.ls RP3.out.ls (by omega) (by omega) FT.out).mono (fun _ _ h => by rw [E1.out, HC.out] at h; exact h)).mono ?_
    rintro e u4 ⟨rfl, hb⟩
    have g4 : Below u3.heap.size u3 u4 := hb
    have s4 : u3.heap.size ≤ u4.heap.size := g4.size
    have RV4 := Lib.hid (RV3.out.below g4)
    have RP4 := Lib.hid (RP3.out.below g4)
    clear RV3 RP3
    have G4 := Lib.hid (bel_chain G3.out g4)
    clear hb g4
    go_wp2_with fail
    refine ((iPileOf_any va n _ f (val f p n) u4 RV4.out.ls (by omega) FT.out).mono (fun _ _ h => PileR.as h E2.out)).mono ?_
    rintro e u5 hr
    obtain ⟨pO, mO, qO, rfl, hmO, hres, hb⟩ := hr
    obtain rfl : n = mO := hmO.symm
    clear hmO
    have g5 : Below u4.heap.size u4 u5 := hb
    have s5 : u4.heap.size ≤ u5.heap.size := g5.size
    have RV5 := Lib.hid (RV4.out.below g5)
    have RP5 := Lib.hid (RP4.out.below g5)
    clear RV4 RP4
    have G5 := Lib.hid (bel_chain G4.out g5)
    have RO5 : Hid (Ls u5 pO n (pl f n (val f p n))) := hres.ls
    clear hres hb g5
    go_wp2_with fail
    refine ((iPileSize_any va pO n n _ _ f (pl f n (val f p n)) u5 RV5.out.ls RO5.out.ls (by omega) (by omega) FT.out).mono (fun _ _ h => by rw [E5.out, E4.out] at h; exact h)).mono ?_
    rintro e u6 ⟨rfl, hb⟩
    have g6 : Below u5.heap.size u5 u6 := hb
    have s6 : u5.heap.size ≤ u6.heap.size := g6.size
    have RV6 := Lib.hid (RV5.out.below g6)
    have RP6 := Lib.hid (RP5.out.below g6)
    have RO6 := Lib.hid (RO5.out.below g6)
    clear RV5 RP5 RO5
    have G6 := Lib.hid (bel_chain G5.out g6)
    clear hb g6
    go_wp2_with fail
    refine ((iPileSize_any va pa n n _ _ f p u6 RV6.out.ls RP6.out.ls (by omega) (by omega) FT.out).mono (fun _ _ h => by rw [E6.out, E3.out] at h; exact h)).mono ?_
    rintro e u7 ⟨rfl, hb⟩
    have g7 : Below u6.heap.size u6 u7 := hb
    have s7 : u6.heap.size ≤ u7.heap.size := g7.size
    have RV7 := Lib.hid (RV6.out.below g7)
    have RP7 := Lib.hid (RP6.out.below g7)
    have RO7 := Lib.hid (RO6.out.below g7)
    clear RV6 RP6 RO6
    have G7 := Lib.hid (bel_chain G6.out g7)
    clear hb g7
    have hd1 : Z ≤ Y - X := by omega
    by_cases hz : Z = 0
    · subst hz
      have hxy : X ≤ Y := by omega
      go_wp2_with fail
      refine ((iPilePlain_any va pa n n _ _ f p u7 RV7.out.ls RP7.out.ls (by omega) (by omega) FT.out).mono (fun _ _ h => by rw [E8.out] at h; exact h)).mono ?_
      rintro e u8 ⟨rfl, hb⟩
      have g8 : Below u7.heap.size u7 u8 := hb
      have s8 : u7.heap.size ≤ u8.heap.size := g8.size
      have RV8 := Lib.hid (RV7.out.below g8)
      have RP8 := Lib.hid (RP7.out.below g8)
      have RO8 := Lib.hid (RO7.out.below g8)
      clear RV7 RP7 RO7
      have G8 := Lib.hid (bel_chain G7.out g8)
      clear hb g8
      go_wp2_with fail
      go_ret
      exact ⟨rfl, G8.out⟩
    · have hzb : (Z == 0) = false := by rw [beq_eq_false_iff_ne]; exact hz
      rw [hzb] at E8
      go_wp2_with fail
      refine ((iPilePlain_any va pa n n _ _ f p u7 RV7.out.ls RP7.out.ls (by omega) (by omega) FT.out).mono (fun _ _ h => by rw [E8.out] at h; exact h)).mono ?_
      rintro e u8 ⟨rfl, hb⟩
      have g8 : Below u7.heap.size u7 u8 := hb
      have s8 : u7.heap.size ≤ u8.heap.size := g8.size
      have RV8 := Lib.hid (RV7.out.below g8)
      have RP8 := Lib.hid (RP7.out.below g8)
      have RO8 := Lib.hid (RO7.out.below g8)
      clear RV7 RP7 RO7
      have G8 := Lib.hid (bel_chain G7.out g8)
      clear hb g8
      go_wp2_with fail
      go_ret
      exact ⟨rfl, G8.out⟩
  · have HC := Lib.hid (show valB f n p m = false by simpa using hc); clear hc
    have E1 : Hid (stpR f n p m = 0) := by show _ = _; unfold stpR; rw [HC.out]; rfl
    go_wp2_with fail
    refine ((iPileSteps_any va pa n m _ _ f p u1 RV1.out.ls RP1.out.ls (by omega) (by omega) FT.out).mono (fun _ _ h => by rw [E1.out, HC.out] at h; exact h)).mono ?_
    rintro e u2 ⟨rfl, hb⟩
    have g2 : Below u1.heap.size u1 u2 := hb
    have s2 : u1.heap.size ≤ u2.heap.size := g2.size
    have RV2 := Lib.hid (RV1.out.below g2)
    have RP2 := Lib.hid (RP1.out.below g2)
    clear RV1 RP1
    have G2 := Lib.hid (bel_chain G1.out g2)
    clear hb g2
    go_wp2_with fail
    refine ((sPileSteps_any va pa n m _ _ f p u2 RV2.out.ls RP2.out.ls (by omega) (by omega)).mono (fun _ _ h => by rw [E1.out, HC.out] at h; exact h)).mono ?_
    rintro e u3 ⟨rfl, hm⟩
    have g3 : Below u2.heap.size u2 u3 := hm.bel0
    have s3 : u2.heap.size ≤ u3.heap.size := g3.size
    have RV3 := Lib.hid (RV2.out.below g3)
    have RP3 := Lib.hid (RP2.out.below g3)
    clear RV2 RP2
    have G3 := Lib.hid (bel_chain G2.out g3)
    clear hm g3
    go_wp2_with fail
    go_ret
    exact ⟨rfl, G3.out⟩
end Go.Proofs.Ytbepcmjjgpbgaaa
