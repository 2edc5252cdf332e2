/- The program's PileValue, PilePlain, PileSum, PileLess, PileSize, PileSteps. -/
import Derived.Test.YtgcalmenlcpjpaaDoorBI8
namespace Go.Proofs.YtgcalmenlcpjpaaDoor
open Go.RowKit
set_option linter.unusedVariables false
set_option maxRecDepth 100000
theorem fit_val {f : Nat → Int} {n : Nat} {p : Nat → Int} {m : Nat} (h : pilB f n p m = true) : fitB f p n = valB f n p m ∧ fitR f p n = valR f n p m := by
  have e : fitB f p n = valB f n p m := by unfold valB; rw [h]; rfl
  refine ⟨e, ?_⟩
  unfold fitR valR
  rw [e]

theorem size_pad {f : Nat → Int} {n : Nat} {p : Nat → Int} {m : Nat} (h : pilB f n p m = true) : sumF (pad p n) 6 = sizR f n p m := by
  obtain ⟨s1, s2, s3, rfl, s4, s5⟩ := pilB_sys h
  unfold sizR
  rw [if_pos h, pad_sum, show min 6 m = m by omega]
set_option maxHeartbeats 1000000 in
theorem iPileSize_any (a b : Option Addr) (n m c d : Nat) (f p : Nat → Int) (w : World) (h : Ls w a n f) (h' : Ls w b m p) (hn : n ≤ 10000000) (hm : m ≤ 10000000) (hfit : Fit f n) :
    Calls Tryd.prog 30 #[.slice a n c, .slice b m d] w fun e w' => e = .returned (.tuple #[.int .i64 (sizR f n p m), .bool (pilB f n p m)]) ∧ Below w.heap.size w w' := by
  have C1 := Lib.hid (readPile_any a b n m c d f p w h h' hn hm hfit)
  clear h h' hfit
  have HC : Hid (arr7 f (rdN f n p m) = (intCells (sysF f (rdN f n p m)) 7).toArray) := rfl
  have HD : Hid (arr6 (pad p (rdN f n p m)) = (intCells (pad p (rdN f n p m)) 6).toArray) := rfl
  obtain ⟨C, hC⟩ : ∃ C, arr7 f (rdN f n p m) = C := ⟨_, rfl⟩
  obtain ⟨D, hD⟩ : ∃ D, arr6 (pad p (rdN f n p m)) = D := ⟨_, rfl⟩
  rw [hC, hD] at C1
  rw [hC] at HC
  rw [hD] at HD
  have HCe := Lib.hid hC; have HDe := Lib.hid hD
  clear hC hD
  go_enter Tryd.func30, Tryd.ntmps30
  go_wp2_with fail
  refine C1.out.mono ?_
  rintro e w2 ⟨rfl, g2⟩
  have HW2 := Lib.hid g2
  have hlt : w.heap.size ≤ w2.heap.size := g2.size
  clear g2
  have HZA : Hid (Blk 41 ((w2.alloc (.cells zero7 41)).alloc (.cells zero6 47)) w2.heap.size 7 (fun _ => 0)) := by show _ = _; rw [← zero7_eq]; exact (two_boxes w2 zero7 zero6 _ _).1
  have HZB : Hid (Blk 47 ((w2.alloc (.cells zero7 41)).alloc (.cells zero6 47)) (w2.heap.size + 1) 6 (fun _ => 0)) := by show _ = _; rw [← zero6_eq]; exact (two_boxes w2 zero7 zero6 _ _).2
  have HZW : Hid (Below w.heap.size w ((w2.alloc (.cells zero7 41)).alloc (.cells zero6 47))) := HW2.out.trans ((two_bel w2 _ _).mono hlt)
  by_cases hs : pilB f n p m = true
  · rw [hs]
    obtain ⟨s1, s2, s3, hmn, s4, s5⟩ := pilB_sys hs
    have hC' : arr7 f n = C := by rw [← HCe.out, rdN_yes hs]
    have hD' : arr6 (pad p n) = D := by rw [← HDe.out, rdN_yes hs]
    have C2 := Lib.hid (fun w1 => size_any (pad p n) w1 (fun j hj => by unfold pad; split; · { rename_i e; exact s4 j e }; · { omega }) (fun j hj => by unfold pad; split; · { rename_i e; exact s5 j e }; · { omega }))
    rw [hD', size_pad hs] at C2
    have HP := Lib.hid hs
    clear hs s1 s3 s4 s5 hC' hD' hmn
    go_wp2_with (first
      | ((with_reducible refine here ⟨none, .store 41 (.tmp 6) (.tmp 13), _, _, _, _⟩ ?_)
         refine wpList_store_blk rfl 41 (.tmp 6) (.tmp 13) rfl 41 w2.heap.size 7 (fun _ => 0) (sysF f (rdN f n p m)) rfl (by rw [← HC.out]; rfl) HZA.out szSys ?_
         intro w4 hb4 hm4
         have HB4 := Lib.hid hb4
         have HB4' : Hid (Blk 47 w4 (w2.heap.size + 1) 6 (fun _ => 0)) := HZB.out.mid hm4 (by omega)
         have HW4 : Hid (Below w.heap.size w w4) := hm4.bel HZW.out (by omega)
         clear hb4 hm4)
      | ((with_reducible refine here ⟨none, .store 47 (.tmp 7) (.tmp 14), _, _, _, _⟩ ?_)
         refine wpList_store_blk rfl 47 (.tmp 7) (.tmp 14) rfl 47 (w2.heap.size + 1) 6 (fun _ => 0) (pad p (rdN f n p m)) rfl (by rw [← HD.out]; rfl) HB4'.out szPile ?_
         intro w5 hb5 hm5
         have HB5 := Lib.hid hb5
         have HB5' : Hid (Blk 41 w5 w2.heap.size 7 (sysF f (rdN f n p m))) := HB4.out.mid hm5 (by omega)
         have HW5 : Hid (Below w.heap.size w w5) := hm5.bel HW4.out (by omega)
         clear hb5 hm5)
      | ((with_reducible refine here ⟨some 18, _, _, _, _, _⟩ ?_)
         refine wpList_load_blk rfl 47 (.tmp 7) rfl 47 (w2.heap.size + 1) 6 _ _ rfl HB5.out Tryd.underlying47 rfl szPile ?_
         rw [← HD.out]))
    refine (C2.out _).mono ?_
    rintro e w6 ⟨rfl, g6⟩
    have HW6 : Hid (Below w.heap.size w w6) := HW5.out.trans (g6.mono HW5.out.size)
    clear g6
    go_wp2_with fail
    go_ret2
    exact ⟨ret_int_bool rfl HP.out.symm, HW6.out⟩
  · have hsf : pilB f n p m = false := by simpa using hs
    rw [hsf]
    have HV : Hid (sizR f n p m = 0) := by show _ = _; unfold sizR; rw [hsf]; rfl
    have HP := Lib.hid hsf
    clear hs hsf
    go_wp2_with (first
      | ((with_reducible refine here ⟨none, .store 41 (.tmp 6) (.tmp 13), _, _, _, _⟩ ?_)
         refine wpList_store_blk rfl 41 (.tmp 6) (.tmp 13) rfl 41 w2.heap.size 7 (fun _ => 0) (sysF f (rdN f n p m)) rfl (by rw [← HC.out]; rfl) HZA.out szSys ?_
         intro w4 hb4 hm4
         have HB4 := Lib.hid hb4
         have HB4' : Hid (Blk 47 w4 (w2.heap.size + 1) 6 (fun _ => 0)) := HZB.out.mid hm4 (by omega)
         have HW4 : Hid (Below w.heap.size w w4) := hm4.bel HZW.out (by omega)
         clear hb4 hm4)
      | ((with_reducible refine here ⟨none, .store 47 (.tmp 7) (.tmp 14), _, _, _, _⟩ ?_)
         refine wpList_store_blk rfl 47 (.tmp 7) (.tmp 14) rfl 47 (w2.heap.size + 1) 6 (fun _ => 0) (pad p (rdN f n p m)) rfl (by rw [← HD.out]; rfl) HB4'.out szPile ?_
         intro w5 hb5 hm5
         have HB5 := Lib.hid hb5
         have HB5' : Hid (Blk 41 w5 w2.heap.size 7 (sysF f (rdN f n p m))) := HB4.out.mid hm5 (by omega)
         have HW5 : Hid (Below w.heap.size w w5) := hm5.bel HW4.out (by omega)
         clear hb5 hm5))
    go_ret2
    exact ⟨ret_int_bool HV.out.symm HP.out.symm, HW5.out⟩
set_option maxHeartbeats 1000000 in
/-- what valuesOfBoth hands out -/
def bothB (f : Nat → Int) (n : Nat) (p : Nat → Int) (m : Nat) (q : Nat → Int) (l : Nat) : Bool := valB f n p m && valB f n q l
def bothV (B : Bool) (v : Int) : Int := if B = true then v else 0
theorem bothV_yes {B : Bool} {v : Int} (h : B = true) : bothV B v = v := if_pos h
theorem bothV_no {B : Bool} {v : Int} (h : B = false) : bothV B v = 0 := by rw [h]; rfl
theorem ret_3 {a b a' b' : Int} {x y : Bool} (h : a = a') (h' : b = b') (k : x = y) : Ending.returned (.tuple #[.int .i64 a, .int .i64 b, .bool x]) = .returned (.tuple #[.int .i64 a', .int .i64 b', .bool y]) := by rw [h, h', k]
theorem bothB_spec {f : Nat → Int} {n : Nat} {p : Nat → Int} {m : Nat} {q : Nat → Int} {l : Nat} : bothB f n p m q l = true ↔ valB f n p m = true ∧ valB f n q l = true := by unfold bothB; rw [Bool.and_eq_true]
theorem val_nn {f : Nat → Int} {n : Nat} {p : Nat → Int} {m : Nat} (h : pilB f n p m = true) : 0 ≤ val f p n := by
  obtain ⟨s1, s2, s3, _, s4, s5⟩ := pilB_sys h
  exact (val_bd s1.pos s3 s4 s5 s2 n (Nat.le_refl _)).1
/-- the two ways to ask whether there is a sum -/
theorem sum_both (f : Nat → Int) (n : Nat) (p : Nat → Int) (m : Nat) (q : Nat → Int) (l : Nat) : sumB f n p m q l = (bothB f n p m q l && ofB f n (val f p n + val f q n)) := by
  rw [Bool.eq_iff_iff]
  unfold sumB
  simp only [Bool.and_eq_true]
  rw [bothB_spec, valB_spec, valB_spec, ofB_spec]
  constructor
  · rintro ⟨a, b, c, d, e⟩
    have := val_nn a
    have := val_nn b
    exact ⟨⟨⟨a, by omega⟩, b, by omega⟩, c, d, e⟩
  · rintro ⟨⟨⟨a, _⟩, b, _⟩, c⟩
    exact ⟨a, b, c⟩
theorem less_both (f : Nat → Int) (n : Nat) (p : Nat → Int) (m : Nat) (q : Nat → Int) (l : Nat) : lessB f n p m q l = (bothB f n p m q l && ofB f n (val f p n - val f q n)) := by
  rw [Bool.eq_iff_iff]
  unfold lessB
  simp only [Bool.and_eq_true, decide_eq_true_eq]
  rw [bothB_spec, ofB_spec]
  constructor
  · rintro ⟨a, b, c⟩
    have h1 := val_nn (valB_spec.1 b).1
    have h2 := (valB_spec.1 a).2
    exact ⟨⟨a, b⟩, (pilB_spec.1 (valB_spec.1 a).1).1, by omega, by omega⟩
  · rintro ⟨⟨a, b⟩, _, c, _⟩
    exact ⟨a, b, by omega⟩
end Go.Proofs.YtgcalmenlcpjpaaDoor
