/- The law FnSize: its walk. -/
import Derived.Test.YtbepcmjjgpbgaaaBX
namespace Go.Proofs.Ytbepcmjjgpbgaaa
open Go.RowKit
set_option linter.unusedVariables false
set_option maxRecDepth 100000
set_option maxRecDepth 100000 in
set_option maxHeartbeats 1000000 in
theorem wFnSize (a0 : Option Addr) (n0 c0 : Nat) (z0 : List Int) (u0 : World) (h0 : IsRow .u8 u0 a0 n0 c0 z0) : Calls Try.prog 9 #[.slice a0 n0 c0] u0 fun e w' => e = .returned (.bool true) ∧ Below u0.heap.size u0 w' := by
  have H0 := Lib.hid h0; clear h0
  by_cases big : 1048576 < n0
  · go_enter Try.func9, Try.ntmps9
    go_wp2_with fail
    go_ret
    exact ⟨rfl, Below.refl _ _⟩
  go_enter Try.func9, Try.ntmps9
  go_wp2_with fail
  refine (DrawPileSize_any a0 n0 c0 z0 _ H0.out).mono ?_
  rintro e u1 ⟨va, n, vc, f, pa, m, pc, p, rfl, ⟨hv, hn, hf⟩, ⟨hp, hm, hq⟩, hb⟩
  have RV1 := Lib.hid hv; have G1 := Lib.hid hb
  have FT : Hid (Fit f n) := fun j hj => by have := hf j hj; omega
  have HF := Lib.hid hf
  clear hv hb hf H0 big
  have RP1 := Lib.hid hp; clear hp hq
  by_cases hc : pilB f n p m = true
  · have HC := Lib.hid hc; clear hc
    obtain ⟨s1, s2, s3, hmn, s4, s5⟩ := pilB_sys HC.out
    obtain rfl : n = m := hmn.symm
    have hsz := siz_eq HC.out
    have hle := size_val s1 s4; have hz := size_zero s1 s4; have hnn := sumF_nonneg n s4
    by_cases hv : valB f n p n = true
    · have hvr := (val_of hv).2.2.2.1
      have HV := Lib.hid hv; have E1 := Lib.hid hvr; have E2 := Lib.hid hsz
      clear hv hvr hsz s1 s3 s4 s5
      obtain ⟨Y, hY⟩ : ∃ Y, sumF p n = Y := ⟨_, rfl⟩
      obtain ⟨Z, hZ⟩ : ∃ Z, val f p n = Z := ⟨_, rfl⟩
      rw [hY] at E2 hle hz hnn
      rw [hZ] at E1 hle hz
      clear hY hZ
      have E3 : Hid (((Y == 0) == (Z == 0)) = true) := by show _ = _; (have e1 : (Y == 0) = (Z == 0) := by rw [Bool.eq_iff_iff, beq_iff_eq, beq_iff_eq]; exact hz); rw [e1]; simp
      clear hz
      go_wp2_with fail
      refine ((iPileSize_any va pa n n _ _ f p u1 RV1.out.ls RP1.out.ls (by omega) (by omega) FT.out).mono (fun _ _ h => by rw [E2.out, HC.out] at h; exact h)).mono ?_
      rintro e u2 ⟨rfl, hb⟩
      have g2 : Below u1.heap.size u1 u2 := hb
      have s2 : u1.heap.size ≤ u2.heap.size := g2.size
      have RV2 := Lib.hid (RV1.out.below g2)
      have RP2 := Lib.hid (RP1.out.below g2)
      clear RV1 RP1
      have G2 := Lib.hid (bel_chain G1.out g2)
      clear hb g2
      go_wp2_with fail
      refine ((sPileSize_any va pa n n _ _ f p u2 RV2.out.ls RP2.out.ls (by omega) (by omega)).mono (fun _ _ h => by rw [E2.out, HC.out] at h; exact h)).mono ?_
      rintro e u3 ⟨rfl, hm⟩
      have g3 : Below u2.heap.size u2 u3 := hm.bel0
      have s3 : u2.heap.size ≤ u3.heap.size := g3.size
      have RV3 := Lib.hid (RV2.out.below g3)
      have RP3 := Lib.hid (RP2.out.below g3)
      clear RV2 RP2
      have G3 := Lib.hid (bel_chain G2.out g3)
      clear hm g3
      go_wp2_with fail
      refine ((iPileValue_any va pa n n _ _ f p u3 RV3.out.ls RP3.out.ls (by omega) (by omega) FT.out).mono (fun _ _ h => by rw [E1.out, HV.out] at h; exact h)).mono ?_
      rintro e u4 ⟨rfl, hb⟩
      have g4 : Below u3.heap.size u3 u4 := hb
      have s4 : u3.heap.size ≤ u4.heap.size := g4.size
      have RV4 := Lib.hid (RV3.out.below g4)
      have RP4 := Lib.hid (RP3.out.below g4)
      clear RV3 RP3
      have G4 := Lib.hid (bel_chain G3.out g4)
      clear hb g4
      have e3 := E3.out
      go_wp2_with fail
      go_ret
      exact ⟨rfl, G4.out⟩
    · have hvf : valB f n p n = false := by simpa using hv
      have HV := Lib.hid hvf; have E1 := Lib.hid (val_not hvf); have E2 := Lib.hid hsz
      clear hv hvf hsz s1 s3 s4 s5 hle hz hnn
      generalize sumF p n = Y at *
      go_wp2_with fail
      refine ((iPileSize_any va pa n n _ _ f p u1 RV1.out.ls RP1.out.ls (by omega) (by omega) FT.out).mono (fun _ _ h => by rw [E2.out, HC.out] at h; exact h)).mono ?_
      rintro e u2 ⟨rfl, hb⟩
      have g2 : Below u1.heap.size u1 u2 := hb
      have s2 : u1.heap.size ≤ u2.heap.size := g2.size
      have RV2 := Lib.hid (RV1.out.below g2)
      have RP2 := Lib.hid (RP1.out.below g2)
      clear RV1 RP1
      have G2 := Lib.hid (bel_chain G1.out g2)
      clear hb g2
      go_wp2_with fail
      refine ((sPileSize_any va pa n n _ _ f p u2 RV2.out.ls RP2.out.ls (by omega) (by omega)).mono (fun _ _ h => by rw [E2.out, HC.out] at h; exact h)).mono ?_
      rintro e u3 ⟨rfl, hm⟩
      have g3 : Below u2.heap.size u2 u3 := hm.bel0
      have s3 : u2.heap.size ≤ u3.heap.size := g3.size
      have RV3 := Lib.hid (RV2.out.below g3)
      have RP3 := Lib.hid (RP2.out.below g3)
      clear RV2 RP2
      have G3 := Lib.hid (bel_chain G2.out g3)
      clear hm g3
      go_wp2_with fail
      refine ((iPileValue_any va pa n n _ _ f p u3 RV3.out.ls RP3.out.ls (by omega) (by omega) FT.out).mono (fun _ _ h => by rw [E1.out, HV.out] at h; exact h)).mono ?_
      rintro e u4 ⟨rfl, hb⟩
      have g4 : Below u3.heap.size u3 u4 := hb
      have s4 : u3.heap.size ≤ u4.heap.size := g4.size
      have RV4 := Lib.hid (RV3.out.below g4)
      have RP4 := Lib.hid (RP3.out.below g4)
      clear RV3 RP3
      have G4 := Lib.hid (bel_chain G3.out g4)
      clear hb g4
      go_wp2_with fail
      go_ret
      exact ⟨rfl, G4.out⟩
  · have HC := Lib.hid (show pilB f n p m = false by simpa using hc); clear hc
    have E1 : Hid (sizR f n p m = 0) := by show _ = _; unfold sizR; rw [HC.out]; rfl
    go_wp2_with fail
    refine ((iPileSize_any va pa n m _ _ f p u1 RV1.out.ls RP1.out.ls (by omega) (by omega) FT.out).mono (fun _ _ h => by rw [E1.out, HC.out] at h; exact h)).mono ?_
    rintro e u2 ⟨rfl, hb⟩
    have g2 : Below u1.heap.size u1 u2 := hb
    have s2 : u1.heap.size ≤ u2.heap.size := g2.size
    have RV2 := Lib.hid (RV1.out.below g2)
    have RP2 := Lib.hid (RP1.out.below g2)
    clear RV1 RP1
    have G2 := Lib.hid (bel_chain G1.out g2)
    clear hb g2
    go_wp2_with fail
    refine ((sPileSize_any va pa n m _ _ f p u2 RV2.out.ls RP2.out.ls (by omega) (by omega)).mono (fun _ _ h => by rw [E1.out, HC.out] at h; exact h)).mono ?_
    rintro e u3 ⟨rfl, hm⟩
    have g3 : Below u2.heap.size u2 u3 := hm.bel0
    have s3 : u2.heap.size ≤ u3.heap.size := g3.size
    have RV3 := Lib.hid (RV2.out.below g3)
    have RP3 := Lib.hid (RP2.out.below g3)
    clear RV2 RP2
    have G3 := Lib.hid (bel_chain G2.out g3)
    clear hm g3
    go_wp2_with fail
    go_ret
    exact ⟨rfl, G3.out⟩
end Go.Proofs.Ytbepcmjjgpbgaaa
