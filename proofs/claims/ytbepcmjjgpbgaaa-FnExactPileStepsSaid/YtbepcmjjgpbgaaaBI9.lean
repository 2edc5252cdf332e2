/- The program's PileValue, PilePlain, PileSum, PileLess, PileSize, PileSteps. -/
import Derived.Test.YtbepcmjjgpbgaaaBI8
namespace Go.Proofs.Ytbepcmjjgpbgaaa
open Go.RowKit
set_option linter.unusedVariables false
set_option maxRecDepth 100000
theorem fit_val {f : Nat → Int} {n : Nat} {p : Nat → Int} {m : Nat} (h : pilB f n p m = true) : fitB f p n = valB f n p m ∧ fitR f p n = valR f n p m := by
  have e : fitB f p n = valB f n p m := by unfold valB; rw [h]; rfl
  refine ⟨e, ?_⟩
  unfold fitR valR
  rw [e]

set_option maxHeartbeats 1000000 in
theorem iPileValue_any (a b : Option Addr) (n m c d : Nat) (f p : Nat → Int) (w : World) (h : Ls w a n f) (h' : Ls w b m p) (hn : n ≤ 10000000) (hm : m ≤ 10000000) (hfit : Fit f n) :
    Calls Try.prog 27 #[.slice a n c, .slice b m d] w fun e w' => e = .returned (.tuple #[.int .i64 (valR f n p m), .bool (valB f n p m)]) ∧ Below w.heap.size w w' := by
  have C1 := Lib.hid (readPile_any a b n m c d f p w h h' hn hm hfit)
  clear h h' hfit
  have HC : Hid (arr7 f (rdN f n p m) = (intCells (sysF f (rdN f n p m)) 7).toArray) := rfl
  have HD : Hid (arr6 (pad p (rdN f n p m)) = (intCells (pad p (rdN f n p m)) 6).toArray) := rfl
  obtain ⟨C, hC⟩ : ∃ C, arr7 f (rdN f n p m) = C := ⟨_, rfl⟩
  obtain ⟨D, hD⟩ : ∃ D, arr6 (pad p (rdN f n p m)) = D := ⟨_, rfl⟩
  rw [hC, hD] at C1
  rw [hC] at HC
  rw [hD] at HD
  have HCe := Lib.hid hC; have HDe := Lib.hid hD
  clear hC hD
  go_enter Try.func27, Try.ntmps27
  go_wp2_with fail
  refine C1.out.mono ?_
  rintro e w2 ⟨rfl, g2⟩
  have HW2 := Lib.hid g2
  have hlt : w.heap.size ≤ w2.heap.size := g2.size
  clear g2
  have HZA : Hid (Blk 48 ((w2.alloc (.cells zero7 48)).alloc (.cells zero6 52)) w2.heap.size 7 (fun _ => 0)) := by show _ = _; rw [← zero7_eq]; exact (two_boxes w2 zero7 zero6 _ _).1
  have HZB : Hid (Blk 52 ((w2.alloc (.cells zero7 48)).alloc (.cells zero6 52)) (w2.heap.size + 1) 6 (fun _ => 0)) := by show _ = _; rw [← zero6_eq]; exact (two_boxes w2 zero7 zero6 _ _).2
  have HZW : Hid (Below w.heap.size w ((w2.alloc (.cells zero7 48)).alloc (.cells zero6 52))) := HW2.out.trans ((two_bel w2 _ _).mono hlt)
  by_cases hs : pilB f n p m = true
  · rw [hs]
    obtain ⟨s1, s2, s3, hmn, s4, s5⟩ := pilB_sys hs
    have hC' : arr7 f n = C := by rw [← HCe.out, rdN_yes hs]
    have hD' : arr6 (pad p n) = D := by rw [← HDe.out, rdN_yes hs]
    have C2 := Lib.hid (fun w1 => value_any f p n w1 s1 s2 s3 s4 s5)
    rw [hC', hD', (fit_val hs).1, (fit_val hs).2] at C2
    clear hs s1 s3 s4 s5 hC' hD' hmn
    go_wp2_with (first
      | ((with_reducible refine here ⟨none, .store 48 (.tmp 6) (.tmp 13), _, _, _, _⟩ ?_)
         refine wpList_store_blk rfl 48 (.tmp 6) (.tmp 13) rfl 48 w2.heap.size 7 (fun _ => 0) (sysF f (rdN f n p m)) rfl (by rw [← HC.out]; rfl) HZA.out szSys ?_
         intro w4 hb4 hm4
         have HB4 := Lib.hid hb4
         have HB4' : Hid (Blk 52 w4 (w2.heap.size + 1) 6 (fun _ => 0)) := HZB.out.mid hm4 (by omega)
         have HW4 : Hid (Below w.heap.size w w4) := hm4.bel HZW.out (by omega)
         clear hb4 hm4)
      | ((with_reducible refine here ⟨none, .store 52 (.tmp 7) (.tmp 14), _, _, _, _⟩ ?_)
         refine wpList_store_blk rfl 52 (.tmp 7) (.tmp 14) rfl 52 (w2.heap.size + 1) 6 (fun _ => 0) (pad p (rdN f n p m)) rfl (by rw [← HD.out]; rfl) HB4'.out szPile ?_
         intro w5 hb5 hm5
         have HB5 := Lib.hid hb5
         have HB5' : Hid (Blk 48 w5 w2.heap.size 7 (sysF f (rdN f n p m))) := HB4.out.mid hm5 (by omega)
         have HW5 : Hid (Below w.heap.size w w5) := hm5.bel HW4.out (by omega)
         clear hb5 hm5)
      | ((with_reducible refine here ⟨some 18, _, _, _, _, _⟩ ?_)
         refine wpList_load_blk rfl 52 (.tmp 7) rfl 52 (w2.heap.size + 1) 6 _ _ rfl HB5.out Try.underlying52 rfl szPile ?_
         rw [← HD.out])
      | ((with_reducible refine here ⟨some 19, _, _, _, _, _⟩ ?_)
         refine wpList_load_blk rfl 48 (.tmp 6) rfl 48 w2.heap.size 7 _ _ rfl HB5'.out Try.underlying48 rfl szSys ?_
         rw [← HC.out]))
    refine (C2.out _).mono ?_
    rintro e w6 ⟨rfl, g6⟩
    have HW6 : Hid (Below w.heap.size w w6) := HW5.out.trans (g6.mono HW5.out.size)
    clear g6
    go_wp2_with fail
    go_ret2
    exact ⟨rfl, HW6.out⟩
  · have hsf : pilB f n p m = false := by simpa using hs
    rw [hsf]
    have HB : Hid (valB f n p m = false) := by show _ = _; unfold valB; rw [hsf]; rfl
    have HV : Hid (valR f n p m = 0) := by show _ = _; unfold valR; rw [HB.out]; rfl
    clear hs hsf
    go_wp2_with (first
      | ((with_reducible refine here ⟨none, .store 48 (.tmp 6) (.tmp 13), _, _, _, _⟩ ?_)
         refine wpList_store_blk rfl 48 (.tmp 6) (.tmp 13) rfl 48 w2.heap.size 7 (fun _ => 0) (sysF f (rdN f n p m)) rfl (by rw [← HC.out]; rfl) HZA.out szSys ?_
         intro w4 hb4 hm4
         have HB4 := Lib.hid hb4
         have HB4' : Hid (Blk 52 w4 (w2.heap.size + 1) 6 (fun _ => 0)) := HZB.out.mid hm4 (by omega)
         have HW4 : Hid (Below w.heap.size w w4) := hm4.bel HZW.out (by omega)
         clear hb4 hm4)
      | ((with_reducible refine here ⟨none, .store 52 (.tmp 7) (.tmp 14), _, _, _, _⟩ ?_)
         refine wpList_store_blk rfl 52 (.tmp 7) (.tmp 14) rfl 52 (w2.heap.size + 1) 6 (fun _ => 0) (pad p (rdN f n p m)) rfl (by rw [← HD.out]; rfl) HB4'.out szPile ?_
         intro w5 hb5 hm5
         have HB5 := Lib.hid hb5
         have HB5' : Hid (Blk 48 w5 w2.heap.size 7 (sysF f (rdN f n p m))) := HB4.out.mid hm5 (by omega)
         have HW5 : Hid (Below w.heap.size w w5) := hm5.bel HW4.out (by omega)
         clear hb5 hm5))
    go_ret2
    exact ⟨ret_int_bool HV.out.symm HB.out.symm, HW5.out⟩
theorem size_pad {f : Nat → Int} {n : Nat} {p : Nat → Int} {m : Nat} (h : pilB f n p m = true) : sumF (pad p n) 6 = sizR f n p m := by
  obtain ⟨s1, s2, s3, rfl, s4, s5⟩ := pilB_sys h
  unfold sizR
  rw [if_pos h, pad_sum, show min 6 m = m by omega]
set_option maxHeartbeats 1000000 in
theorem iPileSize_any (a b : Option Addr) (n m c d : Nat) (f p : Nat → Int) (w : World) (h : Ls w a n f) (h' : Ls w b m p) (hn : n ≤ 10000000) (hm : m ≤ 10000000) (hfit : Fit f n) :
    Calls Try.prog 23 #[.slice a n c, .slice b m d] w fun e w' => e = .returned (.tuple #[.int .i64 (sizR f n p m), .bool (pilB f n p m)]) ∧ Below w.heap.size w w' := by
  have C1 := Lib.hid (readPile_any a b n m c d f p w h h' hn hm hfit)
  clear h h' hfit
  have HC : Hid (arr7 f (rdN f n p m) = (intCells (sysF f (rdN f n p m)) 7).toArray) := rfl
  have HD : Hid (arr6 (pad p (rdN f n p m)) = (intCells (pad p (rdN f n p m)) 6).toArray) := rfl
  obtain ⟨C, hC⟩ : ∃ C, arr7 f (rdN f n p m) = C := ⟨_, rfl⟩
  obtain ⟨D, hD⟩ : ∃ D, arr6 (pad p (rdN f n p m)) = D := ⟨_, rfl⟩
  rw [hC, hD] at C1
  rw [hC] at HC
  rw [hD] at HD
  have HCe := Lib.hid hC; have HDe := Lib.hid hD
  clear hC hD
  go_enter Try.func23, Try.ntmps23
  go_wp2_with fail
  refine C1.out.mono ?_
  rintro e w2 ⟨rfl, g2⟩
  have HW2 := Lib.hid g2
  have hlt : w.heap.size ≤ w2.heap.size := g2.size
  clear g2
  have HZA : Hid (Blk 48 ((w2.alloc (.cells zero7 48)).alloc (.cells zero6 52)) w2.heap.size 7 (fun _ => 0)) := by show _ = _; rw [← zero7_eq]; exact (two_boxes w2 zero7 zero6 _ _).1
  have HZB : Hid (Blk 52 ((w2.alloc (.cells zero7 48)).alloc (.cells zero6 52)) (w2.heap.size + 1) 6 (fun _ => 0)) := by show _ = _; rw [← zero6_eq]; exact (two_boxes w2 zero7 zero6 _ _).2
  have HZW : Hid (Below w.heap.size w ((w2.alloc (.cells zero7 48)).alloc (.cells zero6 52))) := HW2.out.trans ((two_bel w2 _ _).mono hlt)
  by_cases hs : pilB f n p m = true
  · rw [hs]
    obtain ⟨s1, s2, s3, hmn, s4, s5⟩ := pilB_sys hs
    have hC' : arr7 f n = C := by rw [← HCe.out, rdN_yes hs]
    have hD' : arr6 (pad p n) = D := by rw [← HDe.out, rdN_yes hs]
    have C2 := Lib.hid (fun w1 => size_any (pad p n) w1 (fun j hj => by unfold pad; split; · { rename_i e; exact s4 j e }; · { omega }) (fun j hj => by unfold pad; split; · { rename_i e; exact s5 j e }; · { omega }))
    rw [hD', size_pad hs] at C2
    have HP := Lib.hid hs
    clear hs s1 s3 s4 s5 hC' hD' hmn
    go_wp2_with (first
      | ((with_reducible refine here ⟨none, .store 48 (.tmp 6) (.tmp 13), _, _, _, _⟩ ?_)
         refine wpList_store_blk rfl 48 (.tmp 6) (.tmp 13) rfl 48 w2.heap.size 7 (fun _ => 0) (sysF f (rdN f n p m)) rfl (by rw [← HC.out]; rfl) HZA.out szSys ?_
         intro w4 hb4 hm4
         have HB4 := Lib.hid hb4
         have HB4' : Hid (Blk 52 w4 (w2.heap.size + 1) 6 (fun _ => 0)) := HZB.out.mid hm4 (by omega)
         have HW4 : Hid (Below w.heap.size w w4) := hm4.bel HZW.out (by omega)
         clear hb4 hm4)
      | ((with_reducible refine here ⟨none, .store 52 (.tmp 7) (.tmp 14), _, _, _, _⟩ ?_)
         refine wpList_store_blk rfl 52 (.tmp 7) (.tmp 14) rfl 52 (w2.heap.size + 1) 6 (fun _ => 0) (pad p (rdN f n p m)) rfl (by rw [← HD.out]; rfl) HB4'.out szPile ?_
         intro w5 hb5 hm5
         have HB5 := Lib.hid hb5
         have HB5' : Hid (Blk 48 w5 w2.heap.size 7 (sysF f (rdN f n p m))) := HB4.out.mid hm5 (by omega)
         have HW5 : Hid (Below w.heap.size w w5) := hm5.bel HW4.out (by omega)
         clear hb5 hm5)
      | ((with_reducible refine here ⟨some 18, _, _, _, _, _⟩ ?_)
         refine wpList_load_blk rfl 52 (.tmp 7) rfl 52 (w2.heap.size + 1) 6 _ _ rfl HB5.out Try.underlying52 rfl szPile ?_
         rw [← HD.out]))
    refine (C2.out _).mono ?_
    rintro e w6 ⟨rfl, g6⟩
    have HW6 : Hid (Below w.heap.size w w6) := HW5.out.trans (g6.mono HW5.out.size)
    clear g6
    go_wp2_with fail
    go_ret2
    exact ⟨ret_int_bool rfl HP.out.symm, HW6.out⟩
  · have hsf : pilB f n p m = false := by simpa using hs
    rw [hsf]
    have HV : Hid (sizR f n p m = 0) := by show _ = _; unfold sizR; rw [hsf]; rfl
    have HP := Lib.hid hsf
    clear hs hsf
    go_wp2_with (first
      | ((with_reducible refine here ⟨none, .store 48 (.tmp 6) (.tmp 13), _, _, _, _⟩ ?_)
         refine wpList_store_blk rfl 48 (.tmp 6) (.tmp 13) rfl 48 w2.heap.size 7 (fun _ => 0) (sysF f (rdN f n p m)) rfl (by rw [← HC.out]; rfl) HZA.out szSys ?_
         intro w4 hb4 hm4
         have HB4 := Lib.hid hb4
         have HB4' : Hid (Blk 52 w4 (w2.heap.size + 1) 6 (fun _ => 0)) := HZB.out.mid hm4 (by omega)
         have HW4 : Hid (Below w.heap.size w w4) := hm4.bel HZW.out (by omega)
         clear hb4 hm4)
      | ((with_reducible refine here ⟨none, .store 52 (.tmp 7) (.tmp 14), _, _, _, _⟩ ?_)
         refine wpList_store_blk rfl 52 (.tmp 7) (.tmp 14) rfl 52 (w2.heap.size + 1) 6 (fun _ => 0) (pad p (rdN f n p m)) rfl (by rw [← HD.out]; rfl) HB4'.out szPile ?_
         intro w5 hb5 hm5
         have HB5 := Lib.hid hb5
         have HB5' : Hid (Blk 48 w5 w2.heap.size 7 (sysF f (rdN f n p m))) := HB4.out.mid hm5 (by omega)
         have HW5 : Hid (Below w.heap.size w w5) := hm5.bel HW4.out (by omega)
         clear hb5 hm5))
    go_ret2
    exact ⟨ret_int_bool HV.out.symm HP.out.symm, HW5.out⟩
set_option maxHeartbeats 1000000 in
theorem iPilePlain_any (a b : Option Addr) (n m c d : Nat) (f p : Nat → Int) (w : World) (h : Ls w a n f) (h' : Ls w b m p) (hn : n ≤ 10000000) (hm : m ≤ 10000000) (hfit : Fit f n) :
    Calls Try.prog 28 #[.slice a n c, .slice b m d] w fun e w' => e = .returned (.bool (plB f n p m)) ∧ Below w.heap.size w w' := by
  have C1 := Lib.hid (readPile_any a b n m c d f p w h h' hn hm hfit)
  clear h h' hfit
  have HC : Hid (arr7 f (rdN f n p m) = (intCells (sysF f (rdN f n p m)) 7).toArray) := rfl
  have HD : Hid (arr6 (pad p (rdN f n p m)) = (intCells (pad p (rdN f n p m)) 6).toArray) := rfl
  obtain ⟨C, hC⟩ : ∃ C, arr7 f (rdN f n p m) = C := ⟨_, rfl⟩
  obtain ⟨D, hD⟩ : ∃ D, arr6 (pad p (rdN f n p m)) = D := ⟨_, rfl⟩
  rw [hC, hD] at C1
  rw [hC] at HC
  rw [hD] at HD
  have HCe := Lib.hid hC; have HDe := Lib.hid hD
  clear hC hD
  go_enter Try.func28, Try.ntmps28
  go_wp2_with fail
  refine C1.out.mono ?_
  rintro e w2 ⟨rfl, g2⟩
  have HW2 := Lib.hid g2
  have hlt : w.heap.size ≤ w2.heap.size := g2.size
  clear g2
  have HZA : Hid (Blk 48 ((w2.alloc (.cells zero7 48)).alloc (.cells zero6 52)) w2.heap.size 7 (fun _ => 0)) := by show _ = _; rw [← zero7_eq]; exact (two_boxes w2 zero7 zero6 _ _).1
  have HZB : Hid (Blk 52 ((w2.alloc (.cells zero7 48)).alloc (.cells zero6 52)) (w2.heap.size + 1) 6 (fun _ => 0)) := by show _ = _; rw [← zero6_eq]; exact (two_boxes w2 zero7 zero6 _ _).2
  have HZW : Hid (Below w.heap.size w ((w2.alloc (.cells zero7 48)).alloc (.cells zero6 52))) := HW2.out.trans ((two_bel w2 _ _).mono hlt)
  by_cases hs : pilB f n p m = true
  · rw [hs]
    obtain ⟨s1, s2, s3, hmn, s4, s5⟩ := pilB_sys hs
    have hC' : arr7 f n = C := by rw [← HCe.out, rdN_yes hs]
    have hD' : arr6 (pad p n) = D := by rw [← HDe.out, rdN_yes hs]
    have C2 := Lib.hid (fun w1 => isPlain_any f p n w1 s1 s2 s3 s4 s5)
    rw [hC', hD', plainB_plB hs, ← HDe.out, ← HCe.out] at C2
    clear hs s1 s3 s4 s5 hC' hD' hmn
    obtain ⟨B, hB⟩ : ∃ B, plB f n p m = B := ⟨_, rfl⟩
    rw [hB] at C2
    have HPl := Lib.hid hB
    clear hB
    go_wp2_with (first
      | ((with_reducible refine here ⟨none, .store 48 (.tmp 5) (.tmp 12), _, _, _, _⟩ ?_)
         refine wpList_store_blk rfl 48 (.tmp 5) (.tmp 12) rfl 48 w2.heap.size 7 (fun _ => 0) (sysF f (rdN f n p m)) rfl (by rw [← HC.out]; rfl) HZA.out szSys ?_
         intro w4 hb4 hm4
         have HB4 := Lib.hid hb4
         have HB4' : Hid (Blk 52 w4 (w2.heap.size + 1) 6 (fun _ => 0)) := HZB.out.mid hm4 (by omega)
         have HW4 : Hid (Below w.heap.size w w4) := hm4.bel HZW.out (by omega)
         clear hb4 hm4)
      | ((with_reducible refine here ⟨none, .store 52 (.tmp 6) (.tmp 13), _, _, _, _⟩ ?_)
         refine wpList_store_blk rfl 52 (.tmp 6) (.tmp 13) rfl 52 (w2.heap.size + 1) 6 (fun _ => 0) (pad p (rdN f n p m)) rfl (by rw [← HD.out]; rfl) HB4'.out szPile ?_
         intro w5 hb5 hm5
         have HB5 := Lib.hid hb5
         have HB5' : Hid (Blk 48 w5 w2.heap.size 7 (sysF f (rdN f n p m))) := HB4.out.mid hm5 (by omega)
         have HW5 : Hid (Below w.heap.size w w5) := hm5.bel HW4.out (by omega)
         have a0 := HB5'.out.cell 0 (by omega); have a1 := HB5'.out.cell 1 (by omega); have a2 := HB5'.out.cell 2 (by omega); have a3 := HB5'.out.cell 3 (by omega); have a4 := HB5'.out.cell 4 (by omega); have a5 := HB5'.out.cell 5 (by omega); have a6 := HB5'.out.cell 6 (by omega)
         have b0 := HB5.out.cell 0 (by omega); have b1 := HB5.out.cell 1 (by omega); have b2 := HB5.out.cell 2 (by omega); have b3 := HB5.out.cell 3 (by omega); have b4 := HB5.out.cell 4 (by omega); have b5 := HB5.out.cell 5 (by omega)
         clear hb5 hm5))
    refine (C2.out _).mono ?_
    rintro e w6 ⟨rfl, g6⟩
    have HW6 : Hid (Below w.heap.size w w6) := HW5.out.trans (g6.mono HW5.out.size)
    clear g6
    go_wp2_with fail
    go_ret
    exact ⟨ret_bool HPl.out.symm, HW6.out⟩
  · have hsf : pilB f n p m = false := by simpa using hs
    rw [hsf]
    have HV : Hid (plB f n p m = false) := by show _ = _; unfold plB; rw [hsf]; rfl
    clear hs hsf
    go_wp2_with (first
      | ((with_reducible refine here ⟨none, .store 48 (.tmp 5) (.tmp 12), _, _, _, _⟩ ?_)
         refine wpList_store_blk rfl 48 (.tmp 5) (.tmp 12) rfl 48 w2.heap.size 7 (fun _ => 0) (sysF f (rdN f n p m)) rfl (by rw [← HC.out]; rfl) HZA.out szSys ?_
         intro w4 hb4 hm4
         have HB4 := Lib.hid hb4
         have HB4' : Hid (Blk 52 w4 (w2.heap.size + 1) 6 (fun _ => 0)) := HZB.out.mid hm4 (by omega)
         have HW4 : Hid (Below w.heap.size w w4) := hm4.bel HZW.out (by omega)
         clear hb4 hm4)
      | ((with_reducible refine here ⟨none, .store 52 (.tmp 6) (.tmp 13), _, _, _, _⟩ ?_)
         refine wpList_store_blk rfl 52 (.tmp 6) (.tmp 13) rfl 52 (w2.heap.size + 1) 6 (fun _ => 0) (pad p (rdN f n p m)) rfl (by rw [← HD.out]; rfl) HB4'.out szPile ?_
         intro w5 hb5 hm5
         have HB5 := Lib.hid hb5
         have HB5' : Hid (Blk 48 w5 w2.heap.size 7 (sysF f (rdN f n p m))) := HB4.out.mid hm5 (by omega)
         have HW5 : Hid (Below w.heap.size w w5) := hm5.bel HW4.out (by omega)
         clear hb5 hm5))
    go_ret
    exact ⟨ret_bool HV.out.symm, HW5.out⟩
set_option maxHeartbeats 1000000 in
theorem iPileSteps_any (a b : Option Addr) (n m c d : Nat) (f p : Nat → Int) (w : World) (h : Ls w a n f) (h' : Ls w b m p) (hn : n ≤ 10000000) (hm : m ≤ 10000000) (hfit : Fit f n) :
    Calls Try.prog 33 #[.slice a n c, .slice b m d] w fun e w' => e = .returned (.tuple #[.int .i64 (stpR f n p m), .bool (valB f n p m)]) ∧ Below w.heap.size w w' := by
  have C1 := Lib.hid (readPile_any a b n m c d f p w h h' hn hm hfit)
  clear h h' hfit
  have HC : Hid (arr7 f (rdN f n p m) = (intCells (sysF f (rdN f n p m)) 7).toArray) := rfl
  have HD : Hid (arr6 (pad p (rdN f n p m)) = (intCells (pad p (rdN f n p m)) 6).toArray) := rfl
  obtain ⟨C, hC⟩ : ∃ C, arr7 f (rdN f n p m) = C := ⟨_, rfl⟩
  obtain ⟨D, hD⟩ : ∃ D, arr6 (pad p (rdN f n p m)) = D := ⟨_, rfl⟩
  rw [hC, hD] at C1
  rw [hC] at HC
  rw [hD] at HD
  have HCe := Lib.hid hC; have HDe := Lib.hid hD
  clear hC hD
  go_enter Try.func33, Try.ntmps33
  go_wp2_with fail
  refine C1.out.mono ?_
  rintro e w2 ⟨rfl, g2⟩
  have HW2 := Lib.hid g2
  have hlt : w.heap.size ≤ w2.heap.size := g2.size
  clear g2
  have HZA : Hid (Blk 48 ((w2.alloc (.cells zero7 48)).alloc (.cells zero6 52)) w2.heap.size 7 (fun _ => 0)) := by show _ = _; rw [← zero7_eq]; exact (two_boxes w2 zero7 zero6 _ _).1
  have HZB : Hid (Blk 52 ((w2.alloc (.cells zero7 48)).alloc (.cells zero6 52)) (w2.heap.size + 1) 6 (fun _ => 0)) := by show _ = _; rw [← zero6_eq]; exact (two_boxes w2 zero7 zero6 _ _).2
  have HZW : Hid (Below w.heap.size w ((w2.alloc (.cells zero7 48)).alloc (.cells zero6 52))) := HW2.out.trans ((two_bel w2 _ _).mono hlt)
  by_cases hs : pilB f n p m = true
  · rw [hs]
    obtain ⟨s1, s2, s3, hmn, s4, s5⟩ := pilB_sys hs
    have hC' : arr7 f n = C := by rw [← HCe.out, rdN_yes hs]
    have hD' : arr6 (pad p n) = D := by rw [← HDe.out, rdN_yes hs]
    have C2 := Lib.hid (fun w1 => value_any f p n w1 s1 s2 s3 s4 s5)
    have C3 := Lib.hid (fun w1 => exchanged_any f p n w1 s1 s2 s3 s4 s5)
    have HE : Hid (arr6 (pad (exq f p n) n) = (intCells (pad (exq f p n) n) 6).toArray) := rfl
    obtain ⟨E, hE⟩ : ∃ E, arr6 (pad (exq f p n) n) = E := ⟨_, rfl⟩
    rw [hC', hD', (fit_val hs).1, (fit_val hs).2] at C2
    rw [hC', hD', hE] at C3
    rw [hE] at HE
    clear hs s1 s3 s4 s5 hC' hD' hmn hE
    by_cases hv : valB f n p m = true
    · have HR : Hid (stpR f n p m = stp f p (n - 1)) := by show _ = _; unfold stpR; rw [if_pos hv]
      have HV := Lib.hid hv
      rw [hv] at C2
      clear hv
      generalize stp f p (n - 1) = st at *
      go_wp2_with (first
        | ((with_reducible refine here ⟨none, .store 48 (.tmp 6) (.tmp 17), _, _, _, _⟩ ?_)
           refine wpList_store_blk rfl 48 (.tmp 6) (.tmp 17) rfl 48 w2.heap.size 7 (fun _ => 0) (sysF f (rdN f n p m)) rfl (by rw [← HC.out]; rfl) HZA.out szSys ?_
           intro w4 hb4 hm4
           have HB4 := Lib.hid hb4
           have HB4' : Hid (Blk 52 w4 (w2.heap.size + 1) 6 (fun _ => 0)) := HZB.out.mid hm4 (by omega)
           have HW4 : Hid (Below w.heap.size w w4) := hm4.bel HZW.out (by omega)
           clear hb4 hm4)
        | ((with_reducible refine here ⟨none, .store 52 (.tmp 7) (.tmp 18), _, _, _, _⟩ ?_)
           refine wpList_store_blk rfl 52 (.tmp 7) (.tmp 18) rfl 52 (w2.heap.size + 1) 6 (fun _ => 0) (pad p (rdN f n p m)) rfl (by rw [← HD.out]; rfl) HB4'.out szPile ?_
           intro w5 hb5 hm5
           have HB5 := Lib.hid hb5
           have HB5' : Hid (Blk 48 w5 w2.heap.size 7 (sysF f (rdN f n p m))) := HB4.out.mid hm5 (by omega)
           have HW5 : Hid (Below w.heap.size w w5) := hm5.bel HW4.out (by omega)
           clear hb5 hm5)
        | ((with_reducible refine here ⟨some 23, _, _, _, _, _⟩ ?_)
           refine wpList_load_blk rfl 52 (.tmp 7) rfl 52 (w2.heap.size + 1) 6 _ _ rfl HB5.out Try.underlying52 rfl szPile ?_
           rw [← HD.out])
        | ((with_reducible refine here ⟨some 24, _, _, _, _, _⟩ ?_)
           refine wpList_load_blk rfl 48 (.tmp 6) rfl 48 w2.heap.size 7 _ _ rfl HB5'.out Try.underlying48 rfl szSys ?_
           rw [← HC.out]))
      refine (C2.out _).mono ?_
      rintro e w6 ⟨rfl, g6⟩
      have HB6 : Hid (Blk 52 w6 (w2.heap.size + 1) 6 (pad p (rdN f n p m))) := HB5.out.below g6
      have HB6' : Hid (Blk 48 w6 w2.heap.size 7 (sysF f (rdN f n p m))) := HB5'.out.below g6
      have HW6 : Hid (Below w.heap.size w w6) := HW5.out.trans (g6.mono HW5.out.size)
      clear g6
      go_wp2_with (first
        | ((with_reducible refine here ⟨some 31, _, _, _, _, _⟩ ?_)
           refine wpList_load_blk rfl 52 (.tmp 7) rfl 52 (w2.heap.size + 1) 6 _ _ rfl HB6.out Try.underlying52 rfl szPile ?_
           rw [← HD.out])
        | ((with_reducible refine here ⟨some 32, _, _, _, _, _⟩ ?_)
           refine wpList_load_blk rfl 48 (.tmp 6) rfl 48 w2.heap.size 7 _ _ rfl HB6'.out Try.underlying48 rfl szSys ?_
           rw [← HC.out]))
      refine (C3.out _).mono ?_
      rintro e w7 ⟨rfl, g7⟩
      have HW7 : Hid (Below w.heap.size w w7) := HW6.out.trans (g7.mono HW6.out.size)
      clear g7
      have hlt7 := HW7.out.size
      have HZ7 : Hid (Blk 52 (w7.alloc (.cells zero6 52)) w7.heap.size 6 (fun _ => 0)) := zero6_blk w7 _
      have HZW7 : Hid (Below w.heap.size w (w7.alloc (.cells zero6 52))) := HW7.out.alloc hlt7 _
      go_wp2_with (first
        | ((with_reducible refine here ⟨none, .store 52 (.tmp 11) (.tmp 34), _, _, _, _⟩ ?_)
           refine wpList_store_blk rfl 52 (.tmp 11) (.tmp 34) rfl 52 w7.heap.size 6 (fun _ => 0) (pad (exq f p n) n) rfl (by rw [← HE.out]; rfl) HZ7.out szPile ?_
           intro w8 hb8 hm8
           have HW8 : Hid (Below w.heap.size w w8) := hm8.bel HZW7.out (by omega)
           clear hb8 hm8))
      go_ret2
      exact ⟨ret_int_bool HR.out.symm HV.out.symm, HW8.out⟩
    · have hvf : valB f n p m = false := by simpa using hv
      have HR : Hid (stpR f n p m = 0) := by show _ = _; unfold stpR; rw [hvf]; rfl
      have HV := Lib.hid hvf
      rw [hvf] at C2
      clear hv hvf
      go_wp2_with (first
        | ((with_reducible refine here ⟨none, .store 48 (.tmp 6) (.tmp 17), _, _, _, _⟩ ?_)
           refine wpList_store_blk rfl 48 (.tmp 6) (.tmp 17) rfl 48 w2.heap.size 7 (fun _ => 0) (sysF f (rdN f n p m)) rfl (by rw [← HC.out]; rfl) HZA.out szSys ?_
           intro w4 hb4 hm4
           have HB4 := Lib.hid hb4
           have HB4' : Hid (Blk 52 w4 (w2.heap.size + 1) 6 (fun _ => 0)) := HZB.out.mid hm4 (by omega)
           have HW4 : Hid (Below w.heap.size w w4) := hm4.bel HZW.out (by omega)
           clear hb4 hm4)
        | ((with_reducible refine here ⟨none, .store 52 (.tmp 7) (.tmp 18), _, _, _, _⟩ ?_)
           refine wpList_store_blk rfl 52 (.tmp 7) (.tmp 18) rfl 52 (w2.heap.size + 1) 6 (fun _ => 0) (pad p (rdN f n p m)) rfl (by rw [← HD.out]; rfl) HB4'.out szPile ?_
           intro w5 hb5 hm5
           have HB5 := Lib.hid hb5
           have HB5' : Hid (Blk 48 w5 w2.heap.size 7 (sysF f (rdN f n p m))) := HB4.out.mid hm5 (by omega)
           have HW5 : Hid (Below w.heap.size w w5) := hm5.bel HW4.out (by omega)
           clear hb5 hm5)
        | ((with_reducible refine here ⟨some 23, _, _, _, _, _⟩ ?_)
           refine wpList_load_blk rfl 52 (.tmp 7) rfl 52 (w2.heap.size + 1) 6 _ _ rfl HB5.out Try.underlying52 rfl szPile ?_
           rw [← HD.out])
        | ((with_reducible refine here ⟨some 24, _, _, _, _, _⟩ ?_)
           refine wpList_load_blk rfl 48 (.tmp 6) rfl 48 w2.heap.size 7 _ _ rfl HB5'.out Try.underlying48 rfl szSys ?_
           rw [← HC.out]))
      refine (C2.out _).mono ?_
      rintro e w6 ⟨rfl, g6⟩
      have HW6 : Hid (Below w.heap.size w w6) := HW5.out.trans (g6.mono HW5.out.size)
      clear g6
      go_wp2_with fail
      go_ret2
      exact ⟨ret_int_bool HR.out.symm HV.out.symm, HW6.out⟩
  · have hsf : pilB f n p m = false := by simpa using hs
    rw [hsf]
    have HB : Hid (valB f n p m = false) := by show _ = _; unfold valB; rw [hsf]; rfl
    have HV : Hid (stpR f n p m = 0) := by show _ = _; unfold stpR; rw [HB.out]; rfl
    clear hs hsf
    go_wp2_with (first
      | ((with_reducible refine here ⟨none, .store 48 (.tmp 6) (.tmp 17), _, _, _, _⟩ ?_)
         refine wpList_store_blk rfl 48 (.tmp 6) (.tmp 17) rfl 48 w2.heap.size 7 (fun _ => 0) (sysF f (rdN f n p m)) rfl (by rw [← HC.out]; rfl) HZA.out szSys ?_
         intro w4 hb4 hm4
         have HB4 := Lib.hid hb4
         have HB4' : Hid (Blk 52 w4 (w2.heap.size + 1) 6 (fun _ => 0)) := HZB.out.mid hm4 (by omega)
         have HW4 : Hid (Below w.heap.size w w4) := hm4.bel HZW.out (by omega)
         clear hb4 hm4)
      | ((with_reducible refine here ⟨none, .store 52 (.tmp 7) (.tmp 18), _, _, _, _⟩ ?_)
         refine wpList_store_blk rfl 52 (.tmp 7) (.tmp 18) rfl 52 (w2.heap.size + 1) 6 (fun _ => 0) (pad p (rdN f n p m)) rfl (by rw [← HD.out]; rfl) HB4'.out szPile ?_
         intro w5 hb5 hm5
         have HB5 := Lib.hid hb5
         have HB5' : Hid (Blk 48 w5 w2.heap.size 7 (sysF f (rdN f n p m))) := HB4.out.mid hm5 (by omega)
         have HW5 : Hid (Below w.heap.size w w5) := hm5.bel HW4.out (by omega)
         clear hb5 hm5))
    go_ret2
    exact ⟨ret_int_bool HV.out.symm HB.out.symm, HW5.out⟩
set_option maxHeartbeats 1000000 in
/-- what valuesOfBoth hands out -/
def bothB (f : Nat → Int) (n : Nat) (p : Nat → Int) (m : Nat) (q : Nat → Int) (l : Nat) : Bool := valB f n p m && valB f n q l
def bothV (B : Bool) (v : Int) : Int := if B = true then v else 0
theorem bothV_yes {B : Bool} {v : Int} (h : B = true) : bothV B v = v := if_pos h
theorem bothV_no {B : Bool} {v : Int} (h : B = false) : bothV B v = 0 := by rw [h]; rfl
theorem ret_3 {a b a' b' : Int} {x y : Bool} (h : a = a') (h' : b = b') (k : x = y) : Ending.returned (.tuple #[.int .i64 a, .int .i64 b, .bool x]) = .returned (.tuple #[.int .i64 a', .int .i64 b', .bool y]) := by rw [h, h', k]
theorem valuesOfBoth_any (a b b' : Option Addr) (n m l c d d' : Nat) (f p q : Nat → Int) (w : World) (h : Ls w a n f) (h' : Ls w b m p) (h'' : Ls w b' l q) (hn : n ≤ 10000000) (hm : m ≤ 10000000) (hl : l ≤ 10000000) (hfit : Fit f n) :
    Calls Try.prog 65 #[.slice a n c, .slice b m d, .slice b' l d'] w fun e w' => e = .returned (.tuple #[.int .i64 (bothV (bothB f n p m q l) (val f p n)), .int .i64 (bothV (bothB f n p m q l) (val f q n)), .bool (bothB f n p m q l)]) ∧ Below w.heap.size w w' := by
  have C1 := Lib.hid (iPileValue_any a b n m c d f p w h h' hn hm hfit)
  have C2 : Hid (∀ w1, Below w.heap.size w w1 → Calls Try.prog 27 #[.slice a n c, .slice b' l d'] w1 fun e w' => e = .returned (.tuple #[.int .i64 (valR f n q l), .bool (valB f n q l)]) ∧ Below w1.heap.size w1 w') := fun w1 g => iPileValue_any a b' n l c d' f q w1 (h.below g) (h''.below g) hn hl hfit
  clear h h' h'' hfit
  by_cases hp : valB f n p m = true
  · rw [hp, valR_eq hp] at C1
    by_cases hq : valB f n q l = true
    · rw [hq, valR_eq hq] at C2
      have HB : Hid (bothB f n p m q l = true) := by show _ = _; unfold bothB; rw [hp, hq]; rfl
      clear hp hq
      generalize val f p n = x at *
      generalize val f q n = y at *
      go_enter Try.func65, Try.ntmps65
      go_wp2_with fail
      refine C1.out.mono ?_
      rintro e w1 ⟨rfl, g1⟩
      have G1 := Lib.hid g1; clear g1
      go_wp2_with fail
      refine (C2.out _ G1.out).mono ?_
      rintro e w2 ⟨rfl, g2⟩
      have G2 := Lib.hid (bel_chain G1.out g2); clear g2
      go_wp2_with fail
      go_ret3
      exact ⟨ret_3 (bothV_yes HB.out).symm (bothV_yes HB.out).symm HB.out.symm, G2.out⟩
    · have hqf : valB f n q l = false := by simpa using hq
      have HV : Hid (valR f n q l = 0) := by show _ = _; unfold valR; rw [hqf]; rfl
      rw [hqf, HV.out] at C2
      have HB : Hid (bothB f n p m q l = false) := by show _ = _; unfold bothB; rw [hp, hqf]; rfl
      clear hp hq hqf
      generalize val f p n = x at *
      generalize val f q n = y at *
      go_enter Try.func65, Try.ntmps65
      go_wp2_with fail
      refine C1.out.mono ?_
      rintro e w1 ⟨rfl, g1⟩
      have G1 := Lib.hid g1; clear g1
      go_wp2_with fail
      refine (C2.out _ G1.out).mono ?_
      rintro e w2 ⟨rfl, g2⟩
      have G2 := Lib.hid (bel_chain G1.out g2); clear g2
      go_wp2_with fail
      go_ret3
      exact ⟨ret_3 (bothV_no HB.out).symm (bothV_no HB.out).symm HB.out.symm, G2.out⟩
  · have hpf : valB f n p m = false := by simpa using hp
    have HV : Hid (valR f n p m = 0) := by show _ = _; unfold valR; rw [hpf]; rfl
    rw [hpf, HV.out] at C1
    have HB : Hid (bothB f n p m q l = false) := by show _ = _; unfold bothB; rw [hpf]; rfl
    clear hp hpf
    generalize val f p n = x at *
    generalize val f q n = y at *
    go_enter Try.func65, Try.ntmps65
    go_wp2_with fail
    refine C1.out.mono ?_
    rintro e w1 ⟨rfl, g1⟩
    have G1 := Lib.hid g1; clear g1
    go_wp2_with fail
    go_ret3
    exact ⟨ret_3 (bothV_no HB.out).symm (bothV_no HB.out).symm HB.out.symm, G1.out⟩
theorem bothB_spec {f : Nat → Int} {n : Nat} {p : Nat → Int} {m : Nat} {q : Nat → Int} {l : Nat} : bothB f n p m q l = true ↔ valB f n p m = true ∧ valB f n q l = true := by unfold bothB; rw [Bool.and_eq_true]
theorem val_nn {f : Nat → Int} {n : Nat} {p : Nat → Int} {m : Nat} (h : pilB f n p m = true) : 0 ≤ val f p n := by
  obtain ⟨s1, s2, s3, _, s4, s5⟩ := pilB_sys h
  exact (val_bd s1.pos s3 s4 s5 s2 n (Nat.le_refl _)).1
/-- the two ways to ask whether there is a sum -/
theorem sum_both (f : Nat → Int) (n : Nat) (p : Nat → Int) (m : Nat) (q : Nat → Int) (l : Nat) : sumB f n p m q l = (bothB f n p m q l && ofB f n (val f p n + val f q n)) := by
  rw [Bool.eq_iff_iff]
  unfold sumB
  simp only [Bool.and_eq_true]
  rw [bothB_spec, valB_spec, valB_spec, ofB_spec]
  constructor
  · rintro ⟨a, b, c, d, e⟩
    have := val_nn a
    have := val_nn b
    exact ⟨⟨⟨a, by omega⟩, b, by omega⟩, c, d, e⟩
  · rintro ⟨⟨⟨a, _⟩, b, _⟩, c⟩
    exact ⟨a, b, c⟩
theorem less_both (f : Nat → Int) (n : Nat) (p : Nat → Int) (m : Nat) (q : Nat → Int) (l : Nat) : lessB f n p m q l = (bothB f n p m q l && ofB f n (val f p n - val f q n)) := by
  rw [Bool.eq_iff_iff]
  unfold lessB
  simp only [Bool.and_eq_true, decide_eq_true_eq]
  rw [bothB_spec, ofB_spec]
  constructor
  · rintro ⟨a, b, c⟩
    have h1 := val_nn (valB_spec.1 b).1
    have h2 := (valB_spec.1 a).2
    exact ⟨⟨a, b⟩, (pilB_spec.1 (valB_spec.1 a).1).1, by omega, by omega⟩
  · rintro ⟨⟨a, b⟩, _, c, _⟩
    exact ⟨a, b, by omega⟩
theorem iPileSum_any (a b b' : Option Addr) (n m l c d d' : Nat) (f p q : Nat → Int) (w : World) (h : Ls w a n f) (h' : Ls w b m p) (h'' : Ls w b' l q) (hn : n ≤ 10000000) (hm : m ≤ 10000000) (hl : l ≤ 10000000) (hfit : Fit f n) :
    Calls Try.prog 35 #[.slice a n c, .slice b m d, .slice b' l d'] w fun e w' => PileR w w' f n (val f p n + val f q n) (sumB f n p m q l) e := by
  have C1 := Lib.hid (valuesOfBoth_any a b b' n m l c d d' f p q w h h' h'' hn hm hl hfit)
  have C2 : Hid (∀ w1, Below w.heap.size w w1 → Calls Try.prog 22 #[.slice a n c, .int .i64 (val f p n + val f q n)] w1 fun e w' => PileR w1 w' f n (val f p n + val f q n) (ofB f n (val f p n + val f q n)) e) := fun w1 g => iPileOf_any a n c f _ w1 (h.below g) hn hfit
  clear h h' h'' hfit
  by_cases hb : bothB f n p m q l = true
  · rw [bothV_yes hb, bothV_yes hb, hb] at C1
    have HS : Hid (ofB f n (val f p n + val f q n) = sumB f n p m q l) := by show _ = _; rw [sum_both, hb]; rfl
    obtain ⟨u1, u2⟩ := bothB_spec.1 hb
    have b1 := val_nn (valB_spec.1 u1).1
    have b2 := val_nn (valB_spec.1 u2).1
    have b3 := (valB_spec.1 u1).2
    have b4 := (valB_spec.1 u2).2
    clear hb u1 u2
    generalize val f p n = x at *
    generalize val f q n = y at *
    go_enter Try.func35, Try.ntmps35
    go_wp2_with fail
    refine C1.out.mono ?_
    rintro e w1 ⟨rfl, g1⟩
    have G1 := Lib.hid g1; clear g1
    go_wp2_with fail
    refine (C2.out _ G1.out).mono ?_
    rintro e w2 hr
    obtain ⟨a1, m1, c1, rfl, hm1, hres, hbl⟩ := hr
    have HR : Hid (PileR w w2 f n (x + y) (sumB f n p m q l) (.returned (.tuple #[.slice a1 m1 c1, .bool (ofB f n (x + y))]))) := PileR.later ⟨a1, m1, c1, rfl, hm1, hres, hbl⟩ G1.out HS.out
    clear hm1 hres hbl HS
    go_wp2_with fail
    go_ret2
    exact HR.out
  · have hbf : bothB f n p m q l = false := by simpa using hb
    rw [bothV_no hbf, bothV_no hbf, hbf] at C1
    have HS : Hid (sumB f n p m q l = false) := by show _ = _; rw [sum_both, hbf]; rfl
    clear hb hbf
    generalize val f p n = x at *
    generalize val f q n = y at *
    go_enter Try.func35, Try.ntmps35
    go_wp2_with fail
    refine C1.out.mono ?_
    rintro e w1 ⟨rfl, g1⟩
    have G1 := Lib.hid g1; clear g1
    go_wp2_with fail
    go_ret2
    exact PileR.no HS.out G1.out
theorem iPileLess_any (a b b' : Option Addr) (n m l c d d' : Nat) (f p q : Nat → Int) (w : World) (h : Ls w a n f) (h' : Ls w b m p) (h'' : Ls w b' l q) (hn : n ≤ 10000000) (hm : m ≤ 10000000) (hl : l ≤ 10000000) (hfit : Fit f n) :
    Calls Try.prog 38 #[.slice a n c, .slice b m d, .slice b' l d'] w fun e w' => PileR w w' f n (val f p n - val f q n) (lessB f n p m q l) e := by
  have C1 := Lib.hid (valuesOfBoth_any a b b' n m l c d d' f p q w h h' h'' hn hm hl hfit)
  have C2 : Hid (∀ w1, Below w.heap.size w w1 → Calls Try.prog 22 #[.slice a n c, .int .i64 (val f p n - val f q n)] w1 fun e w' => PileR w1 w' f n (val f p n - val f q n) (ofB f n (val f p n - val f q n)) e) := fun w1 g => iPileOf_any a n c f _ w1 (h.below g) hn hfit
  clear h h' h'' hfit
  by_cases hb : bothB f n p m q l = true
  · rw [bothV_yes hb, bothV_yes hb, hb] at C1
    have HS : Hid (ofB f n (val f p n - val f q n) = lessB f n p m q l) := by show _ = _; rw [less_both, hb]; rfl
    obtain ⟨u1, u2⟩ := bothB_spec.1 hb
    have b1 := val_nn (valB_spec.1 u1).1
    have b2 := val_nn (valB_spec.1 u2).1
    have b3 := (valB_spec.1 u1).2
    have b4 := (valB_spec.1 u2).2
    clear hb u1 u2
    generalize val f p n = x at *
    generalize val f q n = y at *
    go_enter Try.func38, Try.ntmps38
    go_wp2_with fail
    refine C1.out.mono ?_
    rintro e w1 ⟨rfl, g1⟩
    have G1 := Lib.hid g1; clear g1
    go_wp2_with fail
    refine (C2.out _ G1.out).mono ?_
    rintro e w2 hr
    obtain ⟨a1, m1, c1, rfl, hm1, hres, hbl⟩ := hr
    have HR : Hid (PileR w w2 f n (x - y) (lessB f n p m q l) (.returned (.tuple #[.slice a1 m1 c1, .bool (ofB f n (x - y))]))) := PileR.later ⟨a1, m1, c1, rfl, hm1, hres, hbl⟩ G1.out HS.out
    clear hm1 hres hbl HS
    go_wp2_with fail
    go_ret2
    exact HR.out
  · have hbf : bothB f n p m q l = false := by simpa using hb
    rw [bothV_no hbf, bothV_no hbf, hbf] at C1
    have HS : Hid (lessB f n p m q l = false) := by show _ = _; rw [less_both, hbf]; rfl
    clear hb hbf
    generalize val f p n = x at *
    generalize val f q n = y at *
    go_enter Try.func38, Try.ntmps38
    go_wp2_with fail
    refine C1.out.mono ?_
    rintro e w1 ⟨rfl, g1⟩
    have G1 := Lib.hid g1; clear g1
    go_wp2_with fail
    go_ret2
    exact PileR.no HS.out G1.out
end Go.Proofs.Ytbepcmjjgpbgaaa
