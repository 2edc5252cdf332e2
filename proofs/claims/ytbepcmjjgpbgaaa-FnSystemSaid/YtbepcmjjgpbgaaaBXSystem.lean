/- The law FnSystem: its walk. -/
import Derived.Test.YtbepcmjjgpbgaaaBX
namespace Go.Proofs.Ytbepcmjjgpbgaaa
open Go.RowKit
set_option linter.unusedVariables false
set_option maxRecDepth 100000
set_option maxRecDepth 100000 in
set_option maxHeartbeats 1000000 in
theorem wFnSystem (a0 : Option Addr) (n0 c0 : Nat) (z0 : List Int) (u0 : World) (h0 : IsRow .u8 u0 a0 n0 c0 z0) : Calls Try.prog 3 #[.slice a0 n0 c0] u0 fun e w' => e = .returned (.bool true) ∧ Below u0.heap.size u0 w' := by
  have H0 := Lib.hid h0; clear h0
  by_cases big : 1048576 < n0
  · go_enter Try.func3, Try.ntmps3
    go_wp2_with fail
    go_ret
    exact ⟨rfl, Below.refl _ _⟩
  go_enter Try.func3, Try.ntmps3
  go_wp2_with fail
  refine (DrawPileIn_any a0 n0 c0 z0 _ H0.out).mono ?_
  rintro e u1 ⟨va, n, vc, f, rfl, ⟨hv, hn, hf⟩, hb⟩
  have RV1 := Lib.hid hv; have G1 := Lib.hid hb
  have FT : Hid (Fit f n) := fun j hj => by have := hf j hj; omega
  have HF := Lib.hid hf
  clear hv hb hf H0 big
  by_cases hc : sysB f n = true
  · have HC := Lib.hid hc; clear hc
    have HSY := Lib.hid (sysB_sys HC.out)
    have E1 : Hid (ofB f n 0 = true) := ofB_spec.2 ⟨HC.out, by omega, by omega⟩
    have E2 := Lib.hid (pl_pil (N := 0) HC.out (by omega) (by omega))
    have E3 : Hid (sizR f n (pl f n 0) n = 0) := by show _ = _; rw [siz_eq E2.out]; exact sumF_none n fun j hj => zero_pl HSY.out.1 j hj
    go_wp2_with fail
    refine ((iPileIn_any va n _ f u1 RV1.out.ls (by omega) FT.out).mono (fun _ _ h => by rw [HC.out] at h; exact h)).mono ?_
    rintro e u2 ⟨rfl, hb⟩
    have g2 : Below u1.heap.size u1 u2 := hb
    have s2 : u1.heap.size ≤ u2.heap.size := g2.size
    have RV2 := Lib.hid (RV1.out.below g2)
    clear RV1
    have G2 := Lib.hid (bel_chain G1.out g2)
    clear hb g2
    go_wp2_with fail
    refine ((sPileIn_any va n _ f u2 RV2.out.ls (by omega)).mono (fun _ _ h => by rw [HC.out] at h; exact h)).mono ?_
    rintro e u3 ⟨rfl, hm⟩
    have g3 : Below u2.heap.size u2 u3 := hm.bel0
    have s3 : u2.heap.size ≤ u3.heap.size := g3.size
    have RV3 := Lib.hid (RV2.out.below g3)
    clear RV2
    have G3 := Lib.hid (bel_chain G2.out g3)
    clear hm g3
    go_wp2_with fail
    refine ((iPileOf_any va n _ f 0 u3 RV3.out.ls (by omega) FT.out).mono (fun _ _ h => PileR.as h E1.out)).mono ?_
    rintro e u4 hr
    obtain ⟨pO, mO, qO, rfl, hmO, hres, hb⟩ := hr
    obtain rfl : n = mO := hmO.symm
    clear hmO
    have g4 : Below u3.heap.size u3 u4 := hb
    have s4 : u3.heap.size ≤ u4.heap.size := g4.size
    have RV4 := Lib.hid (RV3.out.below g4)
    clear RV3
    have G4 := Lib.hid (bel_chain G3.out g4)
    have RO4 : Hid (Ls u4 pO n (pl f n (0))) := hres.ls
    clear hres hb g4
    go_wp2_with fail
    refine ((iPileSize_any va pO n n _ _ f (pl f n (0)) u4 RV4.out.ls RO4.out.ls (by omega) (by omega) FT.out).mono (fun _ _ h => by rw [E3.out, E2.out] at h; exact h)).mono ?_
    rintro e u5 ⟨rfl, hb⟩
    have g5 : Below u4.heap.size u4 u5 := hb
    have s5 : u4.heap.size ≤ u5.heap.size := g5.size
    have RV5 := Lib.hid (RV4.out.below g5)
    have RO5 := Lib.hid (RO4.out.below g5)
    clear RV4 RO4
    have G5 := Lib.hid (bel_chain G4.out g5)
    clear hb g5
    go_wp2_with fail
    go_loopw [10] (fun i wr => ∃ k : Nat, i = .int .i64 k ∧ k ≤ n ∧ Below u5.heap.size u5 wr) (fun i _ => n - (intOf i).toNat)
    case atStart => exact ⟨0, rfl, by omega, Below.refl _ _⟩
    case round =>
      obtain ⟨k, rfl, hk, hb⟩ := hrel
      have HB := Lib.hid hb; have GB := Lib.hid (bel_chain G5.out hb)
      have RV := Lib.hid (RV5.out.below hb)
      clear hb
      by_cases hlt : k < n
      · obtain ⟨b, off, rfl, _, hc⟩ := RV.out k hlt
        have hp1 := HSY.out.1.pos k hlt
        have hp2 := HSY.out.2.2 k hlt
        have F1 : Hid (ofB f n (f k) = true) := ofB_spec.2 ⟨HC.out, by omega, by omega⟩
        have F2 := Lib.hid (pl_pil (N := f k) HC.out (by omega) (by omega))
        have F3 : Hid (sizR f n (pl f n (f k)) n = 1) := by show _ = _; rw [siz_eq F2.out, sumF_congr n (fun j hj => unit_pl HSY.out.1 k hlt j hj)]; exact unit_size k n hlt
        have F4 : Hid (pl f n (f k) k = 1) := by show _ = _; rw [unit_pl HSY.out.1 k hlt k hlt]; unfold unit; rw [if_pos rfl]
        go_wp2_with fail
        refine ((iPileOf_any _ n _ f (f k) wr RV.out (by omega) FT.out).mono (fun _ _ h => PileR.as h F1.out)).mono ?_
        rintro e v1 hr
        obtain ⟨py, my, cy, rfl, hmy, hres, hb1⟩ := hr
        obtain rfl : n = my := hmy.symm
        have RY := Lib.hid hres.ls; have RV2 := Lib.hid (RV.out.below hb1); have GB2 := Lib.hid (bel_chain GB.out hb1); have HB2 := Lib.hid (HB.out.trans (hb1.mono HB.out.size))
        clear hmy hres hb1
        go_wp2_with fail
        refine ((iPileSize_any _ py n n _ cy f (pl f n (f k)) v1 RV2.out RY.out (by omega) (by omega) FT.out).mono (fun _ _ h => by rw [F3.out, F2.out] at h; exact h)).mono ?_
        rintro e v2 ⟨rfl, hb2⟩
        obtain ⟨b', off', rfl, _, hc'⟩ := (RY.out.below hb2) k hlt
        rw [F4.out] at hc'
        have HB3 := Lib.hid (HB2.out.trans (hb2.mono HB2.out.size))
        clear hb2
        go_wp2_with fail
        go_roundw
        case rel => exact ⟨k + 1, by go_num, by omega, HB3.out⟩
        case measure => simp [intOf]; omega
      · go_wp2_with fail
        go_ret
        exact ⟨rfl, GB.out⟩
  · have HC := Lib.hid (show sysB f n = false by simpa using hc); clear hc
    go_wp2_with fail
    refine ((iPileIn_any va n _ f u1 RV1.out.ls (by omega) FT.out).mono (fun _ _ h => by rw [HC.out] at h; exact h)).mono ?_
    rintro e u2 ⟨rfl, hb⟩
    have g2 : Below u1.heap.size u1 u2 := hb
    have s2 : u1.heap.size ≤ u2.heap.size := g2.size
    have RV2 := Lib.hid (RV1.out.below g2)
    clear RV1
    have G2 := Lib.hid (bel_chain G1.out g2)
    clear hb g2
    go_wp2_with fail
    refine ((sPileIn_any va n _ f u2 RV2.out.ls (by omega)).mono (fun _ _ h => by rw [HC.out] at h; exact h)).mono ?_
    rintro e u3 ⟨rfl, hm⟩
    have g3 : Below u2.heap.size u2 u3 := hm.bel0
    have s3 : u2.heap.size ≤ u3.heap.size := g3.size
    have RV3 := Lib.hid (RV2.out.below g3)
    clear RV2
    have G3 := Lib.hid (bel_chain G2.out g3)
    clear hm g3
    go_wp2_with fail
    go_ret
    exact ⟨rfl, G3.out⟩
end Go.Proofs.Ytbepcmjjgpbgaaa
