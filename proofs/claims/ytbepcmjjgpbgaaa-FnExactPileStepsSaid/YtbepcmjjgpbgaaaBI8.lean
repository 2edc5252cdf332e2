/- The program's PileIn, PileOf. -/
import Derived.Test.YtbepcmjjgpbgaaaBI7
namespace Go.Proofs.Ytbepcmjjgpbgaaa
open Go.RowKit
set_option linter.unusedVariables false
set_option maxRecDepth 100000
def Fit (f : Nat → Int) (n : Nat) : Prop := ∀ j, j < n → f j ≤ 9223372036854775807
theorem iPileIn_any (a : Option Addr) (n c : Nat) (f : Nat → Int) (w : World) (h : Ls w a n f) (hn : n ≤ 10000000) (hfit : Fit f n) :
    Calls Try.prog 20 #[.slice a n c] w fun e w' => e = .returned (.bool (sysB f n)) ∧ Below w.heap.size w w' := by
  have C1 := Lib.hid (systemOf_any a n c f w h hn hfit)
  clear h hfit
  have HC : Hid (arr7 f (sysN f n) = (intCells (sysF f (sysN f n)) 7).toArray) := rfl
  generalize arr7 f (sysN f n) = C at *
  generalize hb : sysB f n = b at *
  clear hb
  go_enter Try.func20, Try.ntmps20
  go_wp2_with fail
  refine C1.out.mono ?_
  rintro e w2 ⟨rfl, g2⟩
  have HW2 := Lib.hid g2
  have hlt : w.heap.size ≤ w2.heap.size := g2.size
  clear g2
  have HZ : Hid (Blk 48 (w2.alloc (.cells zero7 48)) w2.heap.size 7 (fun _ => 0)) := zero7_blk w2 _
  have HZW : Hid (Below w.heap.size w (w2.alloc (.cells zero7 48))) := HW2.out.alloc hlt _
  go_wp2_with (first
    | ((with_reducible refine here ⟨none, .store 48 (.tmp 3) (.tmp 8), _, _, _, _⟩ ?_)
       refine wpList_store_blk rfl 48 (.tmp 3) (.tmp 8) rfl 48 w2.heap.size 7 (fun _ => 0) (sysF f (sysN f n)) rfl (by rw [← HC.out]; rfl) HZ.out szSys ?_
       intro w4 hb4 hm4
       have HW4 : Hid (Below w.heap.size w w4) := hm4.bel HZW.out (by omega)
       clear hb4 hm4))
  go_ret
  exact ⟨rfl, HW4.out⟩
set_option maxHeartbeats 1000000 in
theorem iPileOf_any (a : Option Addr) (n c : Nat) (f : Nat → Int) (N : Int) (w : World) (h : Ls w a n f) (hn : n ≤ 10000000) (hfit : Fit f n) :
    Calls Try.prog 22 #[.slice a n c, .int .i64 N] w fun e w' => PileR w w' f n N (ofB f n N) e := by
  have C1 := Lib.hid (systemOf_any a n c f w h hn hfit)
  clear h hfit
  have HC : Hid (arr7 f (sysN f n) = (intCells (sysF f (sysN f n)) 7).toArray) := rfl
  obtain ⟨C, hC⟩ : ∃ C, arr7 f (sysN f n) = C := ⟨_, rfl⟩
  rw [hC] at C1 HC
  have HCe := Lib.hid hC
  clear hC
  go_enter Try.func22, Try.ntmps22
  go_wp2_with fail
  refine C1.out.mono ?_
  rintro e w2 ⟨rfl, g2⟩
  have HW2 := Lib.hid g2
  have hlt : w.heap.size ≤ w2.heap.size := g2.size
  clear g2
  have HZ : Hid (Blk 48 (w2.alloc (.cells zero7 48)) w2.heap.size 7 (fun _ => 0)) := zero7_blk w2 _
  have HZW : Hid (Below w.heap.size w (w2.alloc (.cells zero7 48))) := HW2.out.alloc hlt _
  by_cases hs : sysB f n = true
  · rw [hs]
    have HN : Hid (sysF f (sysN f n) = sysF f n) := by show _ = _; rw [sysN_yes hs]
    by_cases h0 : 0 ≤ N
    · by_cases h1 : N ≤ 1000000
      · have HO := Lib.hid (ofB_spec.2 ⟨hs, h0, h1⟩)
        obtain ⟨s1, s2, s3⟩ := sysB_sys hs
        have C2 := Lib.hid (fun w1 => plainOf_any f n N w1 s1 s2 s3 h0 h1)
        have C3 := Lib.hid (fun w1 => list_any (pad (pl f n N) n) f n w1 s2)
        rw [show arr7 f n = C by rw [← HCe.out, sysN_yes hs]] at C2 C3
        have d1 : decide (N < 0) = false := decide_eq_false (by omega)
        have d2 : decide (1000000 < N) = false := decide_eq_false (by omega)
        clear hs s1 s3
        go_wp2_with (first
          | ((with_reducible refine here ⟨none, .store 48 (.tmp 6) (.tmp 11), _, _, _, _⟩ ?_)
             refine wpList_store_blk rfl 48 (.tmp 6) (.tmp 11) rfl 48 w2.heap.size 7 (fun _ => 0) (sysF f (sysN f n)) rfl (by rw [← HC.out]; rfl) HZ.out szSys ?_
             intro w4 hb4 hm4
             have HB4 := Lib.hid hb4
             have HW4 : Hid (Below w.heap.size w w4) := hm4.bel HZW.out (by omega)
             clear hb4 hm4))
        refine wp_region_any (by kernel_rfl) ?_
        change wpAny _ _ _ _ _ _ _ (World.drew _)
        have HB5 : Hid (Blk 48 w4.drew w2.heap.size 7 (sysF f (sysN f n))) := HB4.out
        have HW5 : Hid (Below w.heap.size w w4.drew) := HW4.out.drew
        generalize w4.drew = w5 at *
        refine wpAny_take (i := 1) (v := ?_) rfl (by kernel_rfl) (by kernel_rfl) (by kernel_rfl) (fun _ _ _ h => h) (Or.inl ⟨by rfl, ?_⟩) ?_
        rotate_left
        · intro w; go_simp; try with_reducible rfl
        refine wpAny_ready (rs := [0, 3]) (by kernel_rfl) (by simp) ?_
        refine AllReady.cons rfl (fun K hK => ?_) (AllReady.cons rfl (fun K hK => ?_) AllReady.nil)
        · refine step_load_blk rfl 48 (.tmp 6) rfl 48 w2.heap.size 7 _ _ rfl HB5.out Try.underlying48 rfl szSys ?_
          rw [← HC.out]
          refine hK _ _ ?_
          clear hK K
          refine wpAny_ready (rs := [2, 3]) (by kernel_rfl) (by simp) ?_
          refine AllReady.cons rfl (fun K hK => ?_) (AllReady.cons rfl (fun K hK => ?_) AllReady.nil)
          · go_simp
            refine (C2.out _).mono ?_
            rintro e w6 ⟨rfl, g6⟩
            have HB6 : Hid (Blk 48 w6 w2.heap.size 7 (sysF f (sysN f n))) := HB5.out.below g6
            have HW6 : Hid (Below w.heap.size w w6) := HW5.out.trans (g6.mono HW5.out.size)
            clear g6
            refine hK _ _ ?_
            clear hK K
            refine wpAny_ready (rs := [3]) (by kernel_rfl) (by simp) ?_
            refine AllReady.cons rfl (fun K hK => ?_) AllReady.nil
            refine step_load_blk rfl 48 (.tmp 6) rfl 48 w2.heap.size 7 _ _ rfl HB6.out Try.underlying48 rfl szSys ?_
            rw [← HC.out]
            refine hK _ _ ?_
            clear hK K
            refine wpAny_ready (rs := [4]) (by kernel_rfl) (by simp) ?_
            refine AllReady.cons rfl (fun K hK => ?_) AllReady.nil
            go_simp
            refine (C3.out _).mono ?_
            rintro e w7 ⟨b', rfl, hb1, hb2, hown, g7⟩
            have HR : Hid (PileR w w7 f n N (ofB f n N) (.returned (.tuple #[.slice (some ⟨b', 0, none⟩) n n, .bool true]))) :=
              ⟨_, n, n, by rw [HO.out], by rw [HO.out, if_pos rfl], .inr ⟨b', rfl, Nat.le_trans HW6.out.size hb1, hb2, hown.congr fun j hj => pad_in _ _ _ hj⟩, HW6.out.trans (g7.mono HW6.out.size)⟩
            clear g7 hown hb1 hb2
            refine hK _ _ ?_
            clear hK K
            refine wpAny_ready (rs := [5]) (by kernel_rfl) (by simp) ?_
            refine AllReady.cons rfl (fun K hK => ?_) AllReady.nil
            go_simp
            refine hK _ _ ?_
            clear hK K
            refine wpAny_ready (rs := [6]) (by kernel_rfl) (by simp) ?_
            refine AllReady.cons rfl (fun K hK => ?_) AllReady.nil
            go_simp
            refine hK _ _ ?_
            clear hK K
            refine wpAny_done (by kernel_rfl) ?_ _
            go_wp2
            go_ret2
            exact HR.out
          · refine step_load_blk rfl 48 (.tmp 6) rfl 48 w2.heap.size 7 _ _ rfl HB5.out Try.underlying48 rfl szSys ?_
            rw [← HC.out]
            refine hK _ _ ?_
            clear hK K
            refine wpAny_ready (rs := [2]) (by kernel_rfl) (by simp) ?_
            refine AllReady.cons rfl (fun K hK => ?_) AllReady.nil
            go_simp
            refine (C2.out _).mono ?_
            rintro e w6 ⟨rfl, g6⟩
            have HB6 : Hid (Blk 48 w6 w2.heap.size 7 (sysF f (sysN f n))) := HB5.out.below g6
            have HW6 : Hid (Below w.heap.size w w6) := HW5.out.trans (g6.mono HW5.out.size)
            clear g6
            refine hK _ _ ?_
            clear hK K
            refine wpAny_ready (rs := [4]) (by kernel_rfl) (by simp) ?_
            refine AllReady.cons rfl (fun K hK => ?_) AllReady.nil
            go_simp
            refine (C3.out _).mono ?_
            rintro e w7 ⟨b', rfl, hb1, hb2, hown, g7⟩
            have HR : Hid (PileR w w7 f n N (ofB f n N) (.returned (.tuple #[.slice (some ⟨b', 0, none⟩) n n, .bool true]))) :=
              ⟨_, n, n, by rw [HO.out], by rw [HO.out, if_pos rfl], .inr ⟨b', rfl, Nat.le_trans HW6.out.size hb1, hb2, hown.congr fun j hj => pad_in _ _ _ hj⟩, HW6.out.trans (g7.mono HW6.out.size)⟩
            clear g7 hown hb1 hb2
            refine hK _ _ ?_
            clear hK K
            refine wpAny_ready (rs := [5]) (by kernel_rfl) (by simp) ?_
            refine AllReady.cons rfl (fun K hK => ?_) AllReady.nil
            go_simp
            refine hK _ _ ?_
            clear hK K
            refine wpAny_ready (rs := [6]) (by kernel_rfl) (by simp) ?_
            refine AllReady.cons rfl (fun K hK => ?_) AllReady.nil
            go_simp
            refine hK _ _ ?_
            clear hK K
            refine wpAny_done (by kernel_rfl) ?_ _
            go_wp2
            go_ret2
            exact HR.out
        · refine step_load_blk rfl 48 (.tmp 6) rfl 48 w2.heap.size 7 _ _ rfl HB5.out Try.underlying48 rfl szSys ?_
          rw [← HC.out]
          refine hK _ _ ?_
          clear hK K
          refine wpAny_ready (rs := [0]) (by kernel_rfl) (by simp) ?_
          refine AllReady.cons rfl (fun K hK => ?_) AllReady.nil
          refine step_load_blk rfl 48 (.tmp 6) rfl 48 w2.heap.size 7 _ _ rfl HB5.out Try.underlying48 rfl szSys ?_
          rw [← HC.out]
          refine hK _ _ ?_
          clear hK K
          refine wpAny_ready (rs := [2]) (by kernel_rfl) (by simp) ?_
          refine AllReady.cons rfl (fun K hK => ?_) AllReady.nil
          go_simp
          refine (C2.out _).mono ?_
          rintro e w6 ⟨rfl, g6⟩
          have HB6 : Hid (Blk 48 w6 w2.heap.size 7 (sysF f (sysN f n))) := HB5.out.below g6
          have HW6 : Hid (Below w.heap.size w w6) := HW5.out.trans (g6.mono HW5.out.size)
          clear g6
          refine hK _ _ ?_
          clear hK K
          refine wpAny_ready (rs := [4]) (by kernel_rfl) (by simp) ?_
          refine AllReady.cons rfl (fun K hK => ?_) AllReady.nil
          go_simp
          refine (C3.out _).mono ?_
          rintro e w7 ⟨b', rfl, hb1, hb2, hown, g7⟩
          have HR : Hid (PileR w w7 f n N (ofB f n N) (.returned (.tuple #[.slice (some ⟨b', 0, none⟩) n n, .bool true]))) :=
            ⟨_, n, n, by rw [HO.out], by rw [HO.out, if_pos rfl], .inr ⟨b', rfl, Nat.le_trans HW6.out.size hb1, hb2, hown.congr fun j hj => pad_in _ _ _ hj⟩, HW6.out.trans (g7.mono HW6.out.size)⟩
          clear g7 hown hb1 hb2
          refine hK _ _ ?_
          clear hK K
          refine wpAny_ready (rs := [5]) (by kernel_rfl) (by simp) ?_
          refine AllReady.cons rfl (fun K hK => ?_) AllReady.nil
          go_simp
          refine hK _ _ ?_
          clear hK K
          refine wpAny_ready (rs := [6]) (by kernel_rfl) (by simp) ?_
          refine AllReady.cons rfl (fun K hK => ?_) AllReady.nil
          go_simp
          refine hK _ _ ?_
          clear hK K
          refine wpAny_done (by kernel_rfl) ?_ _
          go_wp2
          go_ret2
          exact HR.out
      · have HO : Hid (ofB f n N = false) := by show _ = _; rw [Bool.eq_false_iff]; exact fun h => h1 (ofB_spec.1 h).2.2
        have d1 : decide (N < 0) = false := decide_eq_false (by omega)
        have d2 : decide (1000000 < N) = true := decide_eq_true (by omega)
        clear hs
        go_wp2_with (first
          | ((with_reducible refine here ⟨none, .store 48 (.tmp 6) (.tmp 11), _, _, _, _⟩ ?_)
             refine wpList_store_blk rfl 48 (.tmp 6) (.tmp 11) rfl 48 w2.heap.size 7 (fun _ => 0) (sysF f (sysN f n)) rfl (by rw [← HC.out]; rfl) HZ.out szSys ?_
             intro w4 hb4 hm4
             have HW4 : Hid (Below w.heap.size w w4) := hm4.bel HZW.out (by omega)
             clear hb4 hm4))
        go_ret2
        exact PileR.no HO.out HW4.out
    · have HO : Hid (ofB f n N = false) := by show _ = _; rw [Bool.eq_false_iff]; exact fun h => h0 (ofB_spec.1 h).2.1
      have d1 : decide (N < 0) = true := decide_eq_true (by omega)
      clear hs
      go_wp2_with (first
        | ((with_reducible refine here ⟨none, .store 48 (.tmp 6) (.tmp 11), _, _, _, _⟩ ?_)
           refine wpList_store_blk rfl 48 (.tmp 6) (.tmp 11) rfl 48 w2.heap.size 7 (fun _ => 0) (sysF f (sysN f n)) rfl (by rw [← HC.out]; rfl) HZ.out szSys ?_
           intro w4 hb4 hm4
           have HW4 : Hid (Below w.heap.size w w4) := hm4.bel HZW.out (by omega)
           clear hb4 hm4))
      go_ret2
      exact PileR.no HO.out HW4.out
  · have hsf : sysB f n = false := by simpa using hs
    rw [hsf]
    have HO : Hid (ofB f n N = false) := by show _ = _; unfold ofB; rw [hsf]; rfl
    clear hs hsf
    go_wp2_with (first
      | ((with_reducible refine here ⟨none, .store 48 (.tmp 6) (.tmp 11), _, _, _, _⟩ ?_)
         refine wpList_store_blk rfl 48 (.tmp 6) (.tmp 11) rfl 48 w2.heap.size 7 (fun _ => 0) (sysF f (sysN f n)) rfl (by rw [← HC.out]; rfl) HZ.out szSys ?_
         intro w4 hb4 hm4
         have HW4 : Hid (Below w.heap.size w w4) := hm4.bel HZW.out (by omega)
         clear hb4 hm4))
    go_ret2
    exact PileR.no HO.out HW4.out
end Go.Proofs.Ytbepcmjjgpbgaaa
