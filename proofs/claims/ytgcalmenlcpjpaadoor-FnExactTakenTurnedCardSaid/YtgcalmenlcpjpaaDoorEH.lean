/- The program's signedOf. -/
import Derived.Test.YtgcalmenlcpjpaaDoorEG
namespace Go.Proofs.YtgcalmenlcpjpaaDoor
open Go.RowKit
set_option linter.unusedVariables false
set_option maxRecDepth 100000
/-- a number without its sign, as the program makes it: the least int stays -/
def gA (x : Int) : Int := if x < IntKind.i64.wrap (-x) then IntKind.i64.wrap (-x) else x
theorem gA_eq {x : Int} (h1 : -9223372036854775808 < x) (h2 : x ≤ 9223372036854775807) : gA x = abz x := by
  unfold gA abz
  rw [IntWalk.i64_in (-x) (by omega)]
  split <;> omega
theorem gA_least : gA (-9223372036854775808) = -9223372036854775808 := by decide
def mrk (p : Nat → Int) (n j : Nat) : Bool := decide (j < n ∧ p j < 0)
def sbB (p : Nat → Int) (m n : Nat) : Bool := decide (m = n ∧ ∀ j, j < m → -1000000 ≤ p j ∧ p j ≤ 1000000)
theorem sgnB_sb (f : Nat → Int) (n : Nat) (p : Nat → Int) (m : Nat) : sgnB f n p m = (sysB f n && sbB p m n) := rfl
def sbN (p : Nat → Int) (m n : Nat) : Nat := if sbB p m n = true then n else 0
theorem gA_in {x : Int} (h : IntOk x) : (0 ≤ gA x ∧ gA x ≤ 1000000) ↔ (-1000000 ≤ x ∧ x ≤ 1000000) := by
  obtain ⟨h1, h2⟩ := h
  by_cases e : x = -9223372036854775808
  · subst e; rw [gA_least]; omega
  · rw [gA_eq (by omega) h2]; unfold abz; omega
theorem numB_gA {p : Nat → Int} {m n : Nat} (h : Bnd p m) : numB (fun j => gA (p j)) m n = sbB p m n := by
  unfold numB sbB
  congr 1
  refine propext (and_congr_right fun _ => ?_)
  exact forall_congr' fun j => forall_congr' fun hj => gA_in (h j hj)
theorem sg_nil (q p : Nat → Int) : sgA (pad q 0) (mrk p 0) = zero12 := by
  rw [zero12_eq]
  refine sgA_congr (fun j _ => pad_none q j) (fun j _ => ?_)
  unfold mrk
  exact decide_eq_false (by omega)
theorem mrk_step {w : World} {b : Nat} {q p : Nat → Int} {k : Nat} {d : Bool} (hd : d = decide (p k < 0)) (h : Sg w b q (mrk p k)) : Sg (w.setCell ⟨b, 6 + k, none⟩ (.bool d)) b q (mrk p (k + 1)) := by
  refine VRow.congr (set_mark h k d) fun j hj => ?_
  unfold sgV
  by_cases g : j < 6
  · rw [if_pos g, if_pos g]
  · rw [if_neg g, if_neg g]
    congr 1
    show (if j - 6 = k then d else mrk p k (j - 6)) = mrk p (k + 1) (j - 6)
    unfold mrk
    by_cases e : j - 6 = k
    · rw [if_pos e, hd, e]
      congr 1
      exact propext ⟨fun h => ⟨by omega, h⟩, fun h => h.2⟩
    · rw [if_neg e]
      congr 1
      exact propext ⟨fun h => ⟨by omega, h.2⟩, fun h => ⟨by omega, h.2⟩⟩
set_option maxHeartbeats 2000000 in
theorem signedOf_any (f : Nat → Int) (n : Nat) (a : Option Addr) (m c : Nat) (p : Nat → Int) (w : World) (h : Ls w a m p) (hm : m ≤ 10000000) (hn : n ≤ 6) (hbd : Bnd p m) :
    Calls Tryd.prog 67 #[.agg (arr7 f n), .slice a m c] w (SysR w (sgA (pad (fun j => gA (p j)) (sbN p m n)) (mrk p (sbN p m n))) (sbB p m n)) := by
  obtain ⟨i0, hi, hz0, hz1, hz2⟩ := info_parts info_int
  obtain ⟨w1, hw1, hb1, hb2, hbel, hsz⟩ := boxes w (arr7 f n) zero12 41 50
  have HY1 : Hid (Blk 41 w1 w.heap.size 7 (sysF f n)) := Lib.hid hb1
  have HZ1 : Hid (Sg w1 (w.heap.size + 1) (fun _ => 0) (fun _ => false)) := Lib.hid (by rw [zero12_eq] at hb2; exact hb2)
  have HB := Lib.hid hbel
  have Hsz := Lib.hid hsz
  have H := Lib.hid h
  have Hbd := Lib.hid hbd
  have C := Lib.hid (fun ad w (h : Ls w ad m (fun j => gA (p j))) => pileOf_any f n ad m m (fun j => gA (p j)) w h hm hn)
  have HN := Lib.hid (numB_gA (n := n) hbd)
  have HC : Hid (arr7 f n = (intCells (sysF f n) 7).toArray) := Lib.hid rfl
  clear hb1 hb2 hbel hsz h hbd
  generalize arr7 f n = Y at *
  unfold zero12 at hw1
  have Hw1 := Lib.hid hw1
  clear hw1
  go_enter Tryd.func67, Tryd.ntmps67
  go_wp2_with (first
    | (at_make
       rw [← Hw1.out]
       refine wpList_make_ints _ rfl _ _ 23 rfl i0 Tryd.underlying23 hi hz0 hz1 hz2 m (by omega) rfl rfl ?_
       intro w2 hown hb hsz2
       have HO2 := Lib.hid hown; have HB2 := Lib.hid hb; have Hs2 := Lib.hid hsz2
       clear hown hb hsz2))
  generalize w1.heap.size = r at *
  have HBw2 : Hid (Below w.heap.size w w2) := Lib.hid (HB.out.trans (HB2.out.mono (by have := Hsz.out; omega)))
  go_loopw [19] (fun i wr => ∃ k : Nat, i = .int .i64 k ∧ k ≤ m ∧ Own wr r m (fun j => if j < k then gA (p j) else 0) ∧ Mid r (r + 1) w2 wr) (fun i _ => m - (intOf i).toNat)
  case atStart => exact ⟨0, rfl, by omega, HO2.out.congr fun j hj => by simp, Mid.refl _ _ _⟩
  case round =>
    obtain ⟨k, rfl, hk, hown, hmid⟩ := hrel
    have Ho := Lib.hid hown; have Hm := Lib.hid hmid
    clear hown hmid
    have HWr : Hid (Below w.heap.size w wr) := Lib.hid (Hm.out.bel HBw2.out (by have := Hsz.out; omega))
    by_cases hlt : k < m
    · obtain ⟨b1, o1, rfl, hb1, hc1⟩ := (H.out.below HWr.out) k hlt
      obtain ⟨v0, hv0⟩ : ∃ v0, wr.cell? ⟨r, k, none⟩ = some v0 := ⟨_, Ho.out.cell k hlt⟩
      have hfr := Ho.out.frozen k
      have HX : Hid (Own (wr.setCell ⟨r, k, none⟩ (.int .i64 (gA (p k)))) r m (fun j => if j < k + 1 then gA (p j) else 0)) := Lib.hid ((Ho.out.set_ k (gA (p k))).congr fun j hj => by
        by_cases e : j = k
        · subst e; rw [if_pos rfl, if_pos (by omega)]
        · rw [if_neg e]
          by_cases e2 : j < k
          · rw [if_pos e2, if_pos (by omega)]
          · rw [if_neg e2, if_neg (by omega)])
      have HM := Lib.hid (Hm.out.setCell (Nat.le_refl _) (by omega) k (.int .i64 (gA (p k))))
      have hg : (if p k < IntKind.i64.wrap (-p k) then IntKind.i64.wrap (-p k) else p k) = gA (p k) := rfl
      generalize gA (p k) = z at *
      generalize p k = x at *
      generalize hy : IntKind.i64.wrap (-x) = y at *
      clear hb1
      go_wp2_with fail
      go_roundw
      case rel => exact ⟨k + 1, by go_num, by omega, HX.out, HM.out⟩
      case measure => simp [intOf]; omega
    · obtain rfl : k = m := by omega
      have HLr : Hid (Ls wr (some ⟨r, 0, none⟩) k (fun j => gA (p j))) := Lib.hid ((Ho.out.congr fun j hj => by rw [if_pos hj]).ls)
      have HYr : Hid (Blk 41 wr w.heap.size 7 (sysF f n)) := Lib.hid ((HY1.out.keep (HB2.out.block _ (by have := Hsz.out; omega))).mid Hm.out (by have := Hsz.out; omega))
      have HZr : Hid (Sg wr (w.heap.size + 1) (fun _ => 0) (fun _ => false)) := Lib.hid (VRow.mid (VRow.keep HZ1.out (HB2.out.block _ (by have := Hsz.out; omega))) Hm.out (by have := Hsz.out; omega))
      clear hlt
      go_wp2_with (first
        | ((with_reducible refine here ⟨some 33, _, _, _, _, _⟩ ?_)
           refine wpList_load_blk rfl 41 (.tmp 2) rfl 41 w.heap.size 7 _ _ rfl HYr.out Tryd.underlying41 rfl szSys ?_
           rw [← HC.out]))
      refine (C.out _ _ HLr.out).mono ?_
      rintro e w3 ⟨rfl, g3⟩
      have HW3 : Hid (Below w.heap.size w w3) := Lib.hid (HWr.out.trans (g3.mono HWr.out.size))
      have HZ3 : Hid (Sg w3 (w.heap.size + 1) (fun _ => 0) (fun _ => false)) := Lib.hid (VRow.below HZr.out g3)
      clear g3
      have hlt3 : w.heap.size + 1 < w3.heap.size := VRow.lt HZ3.out
      rw [HN.out]
      have HD : Hid (arr6 (pad (fun j => gA (p j)) (numN (fun j => gA (p j)) k n)) = (intCells (pad (fun j => gA (p j)) (numN (fun j => gA (p j)) k n)) 6).toArray) := Lib.hid rfl
      have HNN : Hid (numN (fun j => gA (p j)) k n = sbN p k n) := Lib.hid (by unfold numN sbN; rw [HN.out])
      have HV : Hid (Blk 47 (w3.alloc (.cells zero6 47)) w3.heap.size 6 (fun _ => 0)) := zero6_blk w3 _
      have HVZ : Hid (Sg (w3.alloc (.cells zero6 47)) (w.heap.size + 1) (fun _ => 0) (fun _ => false)) := Lib.hid (VRow.alloc HZ3.out _)
      have HVW : Hid (Below w.heap.size w (w3.alloc (.cells zero6 47))) := HW3.out.alloc (by omega) _
      cases hsb : sbB p k n with
      | false =>
        have HE : Hid (sgA (pad (fun j => gA (p j)) (sbN p k n)) (mrk p (sbN p k n)) = zero12) := Lib.hid (by unfold sbN; rw [hsb, if_neg (by decide)]; exact sg_nil _ _)
        have HSB := Lib.hid hsb
        generalize arr6 (pad (fun j => gA (p j)) (numN (fun j => gA (p j)) k n)) = D at *
        clear hsb
        go_wp2_with (first
          | ((with_reducible refine here ⟨none, .store 47 (.tmp 9) (.tmp 36), _, _, _, _⟩ ?_)
             refine wpList_store_blk rfl 47 (.tmp 9) (.tmp 36) rfl 47 w3.heap.size 6 (fun _ => 0) _ rfl (by rw [HD.out]; rfl) HV.out szPile ?_
             intro w4 hb4 hm4
             have HZ4 := Lib.hid (VRow.mid HVZ.out hm4 (by omega)); have HW4 : Hid (Below w.heap.size w w4) := hm4.bel HVW.out (by omega); clear hb4 hm4)
          | ((with_reducible refine here ⟨none, .store 50 (.tmp 4) (.tmp 40), _, _, _, _⟩ ?_)
             refine wpList_store_vals rfl 50 (.tmp 4) (.tmp 40) rfl 50 (w.heap.size + 1) 12 0 12 _ (sgV (fun _ => 0) (fun _ => false)) rfl rfl HZ4.out (by omega) szSg (sgV_one _ _ 12) ?_
             intro w5 hb5 hm5
             have HB5 := Lib.hid hb5; have HW5 : Hid (Below w.heap.size w w5) := hm5.bel HW4.out (by omega); clear hb5 hm5))
        refine bodyPost_ret (results_cell_val Tryd.results67 _ _ 50 (w.heap.size + 1) 12 _ _ _ rfl rfl HB5.out Tryd.underlying50 rfl szSg) rfl ?_
        rw [HE.out, vals_congr (fun j hj => ovr_all _ _ 12 j hj)]
        exact SysR.mkN ⟨_, rfl⟩ HSB.out HW5.out
      | true =>
        have HSB := Lib.hid hsb
        have hkn : k = n := by
          unfold sbB at hsb
          exact (of_decide_eq_true hsb).1
        subst hkn
        have hsn : sbN p k k = k := if_pos hsb
        rw [HNN.out, hsn] at HD ⊢
        have HSN := Lib.hid hsn
        clear HNN hsn hsb
        have hbs := Lib.hid (build_sg (pad (fun j => gA (p j)) k))
        have HFe : Hid (sgA (pad (fun j => gA (p j)) k) (fun _ => false) = (vals (sgV (pad (fun j => gA (p j)) k) (fun _ => false)) 12).toArray) := Lib.hid rfl
        obtain ⟨F, hF⟩ : ∃ F, sgA (pad (fun j => gA (p j)) k) (fun _ => false) = F := ⟨_, rfl⟩
        rw [hF] at hbs HFe
        obtain ⟨D, hD⟩ : ∃ D, arr6 (pad (fun j => gA (p j)) k) = D := ⟨_, rfl⟩
        rw [hD] at hbs HD ⊢
        obtain ⟨q, hq⟩ : ∃ q, pad (fun j => gA (p j)) k = q := ⟨_, rfl⟩
        rw [hq] at HD HFe
        have HQ := Lib.hid hq
        clear hF hD hq
        go_wp2_with (first
          | ((with_reducible refine here ⟨none, .store 47 (.tmp 9) (.tmp 36), _, _, _, _⟩ ?_)
             refine wpList_store_blk rfl 47 (.tmp 9) (.tmp 36) rfl 47 w3.heap.size 6 (fun _ => 0) q rfl (by rw [← HD.out]; rfl) HV.out szPile ?_
             intro w4 hb4 hm4
             have HD4 := Lib.hid hb4; have HZ4 := Lib.hid (VRow.mid HVZ.out hm4 (by omega)); have HW4 : Hid (Below w.heap.size w w4) := hm4.bel HVW.out (by omega)
             have hlt4 := VRow.lt HZ4.out
             have HA4 : Hid (Sg (w4.alloc (.cells zero12 50)) w4.heap.size (fun _ => 0) (fun _ => false)) := Lib.hid (sg_zero w4)
             have HAZ : Hid (Sg (w4.alloc (.cells zero12 50)) (w.heap.size + 1) (fun _ => 0) (fun _ => false)) := Lib.hid (VRow.alloc HZ4.out _)
             have HAW : Hid (Below w.heap.size w (w4.alloc (.cells zero12 50))) := HW4.out.alloc (by omega) _
             clear hb4 hm4)
          | ((with_reducible refine here ⟨some 43, _, _, _, _, _⟩ ?_)
             refine wpList_load_blk rfl 47 (.tmp 9) rfl 47 w3.heap.size 6 _ _ rfl HD4.out Tryd.underlying47 rfl szPile ?_
             rw [← HD.out]
             refine wpList_yields rfl (.agg F) (exec_build 50 0 (.tmp 43) rfl _ (hbs.out _)) ?_)
          | ((with_reducible refine here ⟨none, .store 50 (.tmp 11) (.tmp 44), _, _, _, _⟩ ?_)
             refine wpList_store_vals rfl 50 (.tmp 11) (.tmp 44) rfl 50 w4.heap.size 12 0 12 _ (sgV q (fun _ => false)) rfl (by rw [← HFe.out]; rfl) HA4.out (by omega) szSg (sgV_one _ _ 12) ?_
             intro w5 hb5 hm5
             have HB5 : Hid (Sg w5 w4.heap.size q (fun _ => false)) := Lib.hid (VRow.congr hb5 (fun j hj => ovr_all _ _ 12 j hj)); have HZ5 := Lib.hid (VRow.mid HAZ.out hm5 (by omega)); have HW5 : Hid (Below w.heap.size w w5) := hm5.bel HAW.out (by omega); clear hb5 hm5))
        generalize w4.heap.size = r2 at *
        go_loopw [47] (fun i wr => ∃ k2 : Nat, i = .int .i64 k2 ∧ k2 ≤ k ∧ Sg wr r2 q (mrk p k2) ∧ Mid r2 (r2 + 1) w5 wr) (fun i _ => k - (intOf i).toNat)
        case atStart => exact ⟨0, rfl, by omega, VRow.congr HB5.out fun j hj => by unfold sgV mrk; simp, Mid.refl _ _ _⟩
        case round =>
          obtain ⟨k2, rfl, hk2, hsg, hmid⟩ := hrel
          have Hs := Lib.hid hsg; have Hm2 := Lib.hid hmid
          clear hsg hmid
          have HWr2 : Hid (Below w.heap.size w wr) := Lib.hid (Hm2.out.bel HW5.out (by omega))
          by_cases hlt : k2 < k
          · obtain ⟨b1, o1, rfl, hb1, hc1⟩ := (H.out.below HWr2.out) k2 hlt
            have hk6 : k2 < 6 := by omega
            have hc2 : wr.cell? ⟨r2, 6 + k2, none⟩ = some (.bool (mrk p k2 k2)) := by
              rw [← sgV_mark q (mrk p k2) k2]; exact VRow.cell Hs.out (6 + k2) (by omega)
            have hf2 := VRow.frozen Hs.out (6 + k2)
            have HX := Lib.hid (fun d (hd : d = decide (p k2 < 0)) => mrk_step hd Hs.out)
            have HM := Lib.hid (fun d => Hm2.out.setCell (Nat.le_refl _) (by omega) (6 + k2) (.bool d))
            generalize mrk p k2 k2 = z at *
            generalize p k2 = x at *
            clear hb1
            by_cases hx : x < 0
            · have HX1 := Lib.hid (HX.out true (decide_eq_true hx).symm); have HM1 := Lib.hid (HM.out true)
              go_wp2_with fail
              go_roundw
              case rel => exact ⟨k2 + 1, by go_num, by omega, HX1.out, HM1.out⟩
              case measure => simp [intOf]; omega
            · have HX1 := Lib.hid (HX.out false (decide_eq_false hx).symm); have HM1 := Lib.hid (HM.out false)
              have hx' : 0 ≤ x := by omega
              go_wp2_with fail
              go_roundw
              case rel => exact ⟨k2 + 1, by go_num, by omega, HX1.out, HM1.out⟩
              case measure => simp [intOf]; omega
          · obtain rfl : k2 = k := by omega
            have HT := Lib.hid (VRow.mid HZ5.out Hm2.out (by omega))
            go_wp2_with (first
              | ((with_reducible refine here ⟨some 58, _, _, _, _, _⟩ ?_)
                 refine wpList_load_vals rfl 50 (.tmp 11) rfl 50 r2 12 0 12 _ _ rfl Hs.out (by omega) Tryd.underlying50 rfl szSg ?_)
              | ((with_reducible refine here ⟨none, .store 50 (.tmp 4) (.tmp 58), _, _, _, _⟩ ?_)
                 refine wpList_store_vals rfl 50 (.tmp 4) (.tmp 58) rfl 50 (w.heap.size + 1) 12 0 12 _ _ rfl rfl HT.out (by omega) szSg (fun j hj => sgV_one _ _ 12 (0 + j) (by omega)) ?_
                 intro w6 hb6 hm6
                 have HB6 := Lib.hid hb6; have HW6 : Hid (Below w.heap.size w w6) := hm6.bel HWr2.out (by omega); clear hb6 hm6))
            refine bodyPost_ret (results_cell_val Tryd.results67 _ _ 50 (w.heap.size + 1) 12 _ _ _ rfl rfl HB6.out Tryd.underlying50 rfl szSg) rfl ?_
            rw [HSN.out, HQ.out, vals_congr (fun j hj => ovr_all _ _ 12 j hj), sg_all]
            exact SysR.mkY HSB.out HW6.out
end Go.Proofs.YtgcalmenlcpjpaaDoor
