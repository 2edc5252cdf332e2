/- The program's chapter 6: ranked texts. -/
import Derived.Test.YtagipmfkmikagaaDoorUN
namespace Go.Proofs.YtagipmfkmikagaaDoor
open Go.RowKit
set_option linter.unusedVariables false
set_option maxRecDepth 100000
/-- the rank of the last sign behind i digits -/
def lrk (n : Nat) : Nat → Nat
  | 0 => 5
  | i + 1 => if dgt n i = 0 then lrk n i else 3 - i
theorem lrk_ge (n : Nat) : ∀ i, i ≤ 4 → 4 - i ≤ lrk n i
  | 0, _ => by show 4 ≤ 5; decide
  | i + 1, h => by
    have := lrk_ge n i (by omega)
    unfold lrk
    split <;> omega
theorem lrk_le (n : Nat) : ∀ i, lrk n i ≤ 5
  | 0 => Nat.le_refl 5
  | i + 1 => by
    have := lrk_le n i
    unfold lrk
    split <;> omega
theorem rkS_gap (n : Nat) : ∀ i, i ≤ 3 → (rkS n i).2 = (((rkS n i).1 != []) && decide ((3 - i : Nat) < lrk n i - 1))
  | 0, _ => rfl
  | i + 1, h => by
    have hl := lrk_ge n i (by omega)
    unfold rkS lrk
    by_cases h0 : dgt n i = 0
    · rw [if_pos h0, if_pos h0]
      show ((rkS n i).1 != []) = (((rkS n i).1 != []) && _)
      rw [decide_eq_true (by omega), Bool.and_true]
    · rw [if_neg h0, if_neg h0]
      show false = (_ && _)
      rw [decide_eq_false (by omega), Bool.and_false]
theorem rkT_rnv (i : Nat) (h : i < 4) : rnv (3 - i) = (rkT i : Nat) := by
  rcases (show i = 0 ∨ i = 1 ∨ i = 2 ∨ i = 3 by omega) with rfl | rfl | rfl | rfl <;> rfl
theorem sgz_rsg (i : Nat) (h : i < 4) : sgz (3 - i) = rsg i := by
  rcases (show i = 0 ∨ i = 1 ∨ i = 2 ∨ i = 3 by omega) with rfl | rfl | rfl | rfl <;> rfl
theorem dig_cut : ∀ d, d < 9 → digitsR.extract d (d + 1) = ⟨[dch (d + 1)].toArray⟩ := by
  have h : ∀ d, d < 9 → (digitsR.extract d (d + 1)).data = [dch (d + 1)].toArray := by decide +kernel
  exact fun d hd => ByteArray.ext (h d hd)
set_option maxHeartbeats 1000000 in
theorem rankedPart_any (n : Nat) (w : World) (hw : RV w) (hn : n ≤ 9999) : Calls Tryd.prog 47 #[.int .i64 n] w fun e w' => e = .returned (.string ⟨(rk4 n).toArray⟩) ∧ Below w.heap.size w w' := by
  have HR : Hid (rk4 n = (rkS n 4).1) := Lib.hid rfl
  have HW := Lib.hid hw; clear hw
  go_enter Tryd.func47, Tryd.ntmps47
  go_wp2_with fail
  go_loopw [3, 4, 5] (fun o l i wr => ∃ k : Nat, k ≤ 4 ∧ i = .int .i64 (3 - (k : Int)) ∧ o = .string ⟨(rkS n k).1.toArray⟩ ∧ l = .int .i64 (lrk n k : Nat) ∧ Hid (Below w.heap.size w wr)) (fun _ _ i _ => (intOf i + 1).toNat)
  case atStart => exact ⟨0, by omega, rfl, rfl, rfl, Lib.hid (Below.refl _ _)⟩
  case round =>
    obtain ⟨k, hk, rfl, rfl, rfl, HB⟩ := hrel
    have hlen := rkS_len n k
    by_cases hlt : k < 4
    · obtain ⟨d1, d2, d3⟩ := rkT_dgt n k hlt
      have hd := dgt_lt n k
      have HS : Hid (rkS n (k + 1) = if dgt n k = 0 then ((rkS n k).1, (rkS n k).1 != []) else ((rkS n k).1 ++ (if (rkS n k).2 = true then [111] else []) ++ [dch (dgt n k)] ++ rsg k, false)) := Lib.hid rfl
      have HL : Hid (lrk n (k + 1) = if dgt n k = 0 then lrk n k else 3 - k) := Lib.hid rfl
      have HG := Lib.hid (rkS_gap n k (by omega))
      have hdd : (n : Int) / (rkT k : Nat) % 10 = (dgt n k : Nat) := by rw [← d1]; omega
      have hsg : (rsg k).length ≤ 1 := by unfold rsg; split <;> (try split) <;> (try split) <;> simp
      have CV := Lib.hid (rvalue_any (3 - k) wr (HW.out.step HB.out) (by omega))
      have CS := Lib.hid (fun w => rsign_any (3 - k) w (by omega))
      rw [rkT_rnv k hlt] at CV
      rw [sgz_rsg k hlt] at CS
      rw [show ((3 - k : Nat) : Int) = 3 - (k : Int) by omega] at CV CS
      have hl1 := lrk_ge n k (by omega)
      have hl2 := lrk_le n k
      clear d1
      generalize (rkS n k).1 = L at *
      generalize (rkS n k).2 = G at *
      generalize rsg k = sg at *
      generalize rkT k = s at *
      generalize lrk n k = lr at *
      generalize dgt n k = d at *
      have hq0 : (0:Int) ≤ (n : Int) / (s : Nat) := Int.ediv_nonneg (by omega) (by omega)
      have hq1 : (n : Int) / (s : Nat) ≤ n := Int.ediv_le_self _ (by omega)
      have hwr64 : wrap64 ((n : Int) / (s : Nat)) = (n : Int) / (s : Nat) := by unfold wrap64; omega
      have htm : ((n : Int) / (s : Nat)).tmod 10 = d := by rw [Int.tmod_eq_emod_of_nonneg hq0, hdd]
      have hk3 : (0:Int) ≤ 3 - (k : Int) := by omega
      by_cases h0 : d = 0
      · rw [if_pos h0] at HS HL
        subst h0
        go_wp2_with fail
        refine CV.out.mono ?_
        rintro e w1 ⟨rfl, rfl⟩
        go_wp2_with fail
        go_roundw
        case rel => exact ⟨k + 1, by omega, by go_num, by rw [HS.out], by rw [HL.out], HB⟩
        case measure => simp [intOf]; omega
      · obtain ⟨e', rfl⟩ : ∃ e', d = e' + 1 := Nat.exists_eq_succ_of_ne_zero h0
        rw [if_neg h0] at HS HL
        have l1 : ¬ 9223372036854775807 < L.length + 1 := by omega
        have l2 : ¬ 9223372036854775807 < L.length + 1 + 1 := by omega
        have l3 : ¬ 9223372036854775807 < L.length + 1 + sg.length := by omega
        have l4 : ¬ 9223372036854775807 < L.length + 1 + 1 + sg.length := by omega
        have HE : Hid ((⟨#[49, 50, 51, 52, 53, 54, 55, 56, 57]⟩ : ByteArray).extract e' (e' + 1) = ⟨[dch (e' + 1)].toArray⟩) := Lib.hid (dig_cut e' (by omega))
        have hz : (((e' + 1 : Nat) : Int) == 0) = false := by rw [beq_eq_false_iff_ne]; omega
        go_wp2_with fail
        refine CV.out.mono ?_
        rintro e w1 ⟨rfl, rfl⟩
        by_cases hL : L = []
        · subst hL
          rw [show G = false from HG.out] at HS
          go_wp2_with fail
          go_quiet ((go_at_call 40; exact quiet_mine (CS.out _)))
          go_wp2_with fail
          go_roundw
          case rel => exact ⟨k + 1, by omega, by go_num, by { rw [HS.out, HE.out]; simp [cat_bytes] }, by { rw [HL.out]; go_num }, Lib.hid (bel_drewN HB.out _)⟩
          case measure => simp [intOf]; omega
        · have hL1 : (L == []) = false := by rw [beq_eq_false_iff_ne]; exact hL
          have hL2 : (L != []) = true := by rw [bne_iff_ne]; exact hL
          have HL2 := Lib.hid hL2; clear hL2
          clear hL
          by_cases hg : 3 - k < lr - 1
          · have hg' : (3:Int) - (k : Int) < (lr : Int) - 1 := by omega
            have hG : G = true := by rw [HG.out, HL2.out, decide_eq_true hg]; rfl
            rw [hG] at HS; clear hG
            go_wp2_with fail
            go_quiet ((go_at_call 40; exact quiet_mine (CS.out _)))
            go_wp2_with fail
            go_roundw
            case rel => exact ⟨k + 1, by omega, by go_num, by { rw [HS.out, HE.out]; simp [cat_bytes] }, by { rw [HL.out]; go_num }, Lib.hid (bel_drewN HB.out _)⟩
            case measure => simp [intOf]; omega
          · have hg' : ¬ (3:Int) - (k : Int) < (lr : Int) - 1 := by omega
            have hG : G = false := by rw [HG.out, HL2.out, decide_eq_false hg]; rfl
            rw [hG] at HS; clear hG
            go_wp2_with fail
            go_quiet ((go_at_call 40; exact quiet_mine (CS.out _)))
            go_wp2_with fail
            go_roundw
            case rel => exact ⟨k + 1, by omega, by go_num, by { rw [HS.out, HE.out]; simp [cat_bytes] }, by { rw [HL.out]; go_num }, Lib.hid (bel_drewN HB.out _)⟩
            case measure => simp [intOf]; omega
    · obtain rfl : k = 4 := by omega
      go_wp2_with fail
      go_ret
      exact ⟨by rw [HR.out]; rfl, HB.out⟩
theorem rvalue4 (w : World) (hw : RV w) : Calls Tryd.prog 46 #[.int .i64 4] w fun e w' => e = .returned (.int .i64 10000) ∧ w = w' := rvalue_any 4 w hw (by decide)
theorem rvalue3 (w : World) (hw : RV w) : Calls Tryd.prog 46 #[.int .i64 3] w fun e w' => e = .returned (.int .i64 1000) ∧ w = w' := rvalue_any 3 w hw (by decide)
theorem rsign4 (w : World) : Calls Tryd.prog 40 #[.int .i64 4] w fun e w' => e = .returned (.string ⟨#[119]⟩) ∧ w = w' := rsign_any 4 w (by decide)
theorem rsign1 (w : World) : Calls Tryd.prog 40 #[.int .i64 1] w fun e w' => e = .returned (.string ⟨#[115]⟩) ∧ w = w' := rsign_any 1 w (by decide)
set_option maxHeartbeats 1000000 in
theorem rankedText_any (n : Nat) (w : World) (hw : RV w) (hn : n ≤ 99999999) : Calls Tryd.prog 35 #[.int .i64 n] w fun e w' => e = .returned (.string ⟨(rkO n).toArray⟩) ∧ Below w.heap.size w w' := by
  have HW := Lib.hid hw; clear hw
  by_cases h0 : n = 0
  · subst h0
    go_enter Tryd.func35, Tryd.ntmps35
    go_wp2_with fail
    go_ret
    exact ⟨rfl, Below.refl _ _⟩
  · have hz : ((n : Int) == 0) = false := by rw [beq_eq_false_iff_ne]; omega
    have V4 := Lib.hid (fun w h => rvalue4 w h)
    by_cases h1 : n < 10000
    · have HR : Hid (rkO n = rk4 n) := Lib.hid (by unfold rkO; rw [if_neg h0, if_pos h1])
      have C := Lib.hid (rankedPart_any n w HW.out (by omega))
      have hl := rk4_len n
      have hz' : (n : Int) < 10000 := by omega
      generalize rk4 n = L at *
      clear h0
      go_enter Tryd.func35, Tryd.ntmps35
      go_wp2_with fail
      refine (V4.out _ HW.out).mono ?_
      rintro e w1 ⟨rfl, rfl⟩
      go_wp2_with fail
      refine C.out.mono ?_
      rintro e w1 ⟨rfl, g1⟩
      have G1 := Lib.hid g1; clear g1 C
      go_wp2_with fail
      go_ret
      exact ⟨by rw [HR.out]; simp [cat_bytes], G1.out⟩
    · have HR : Hid (rkO n = rk4 (n / 10000) ++ [119] ++ (if 0 < n % 10000 ∧ n % 10000 < 1000 then [111] else []) ++ rk4 (n % 10000)) := Lib.hid (by unfold rkO; rw [if_neg h0, if_neg h1])
      have C := Lib.hid (fun w h => rankedPart_any (n / 10000) w h (by omega))
      have D := Lib.hid (fun w h => rankedPart_any (n % 10000) w h (by omega))
      have S4 := Lib.hid (fun w => rsign4 w)
      have V3 := Lib.hid (fun w h => rvalue3 w h)
      have hz' : ¬ ((n : Int) < 10000) := by omega
      have l1 := rk4_len (n / 10000)
      have l2 := rk4_len (n % 10000)
      have e1 : (n : Int) / 10000 = ((n / 10000 : Nat) : Int) := by omega
      have e2 : (n : Int).tmod 10000 = ((n % 10000 : Nat) : Int) := by rw [Int.tmod_eq_emod_of_nonneg (by omega)]; omega
      have e3 : (n : Int) % 10000 = ((n % 10000 : Nat) : Int) := by omega
      have hw : wrap64 ((n : Int) / 10000) = (n / 10000 : Nat) := by rw [e1]; unfold wrap64; omega
      have hb1 : n / 10000 ≤ 9999 := by omega
      have hb2 : n % 10000 ≤ 9999 := by omega
      generalize n / 10000 = u at *
      generalize n % 10000 = v at *
      generalize rk4 u = U at *
      generalize rk4 v = V at *
      go_enter Tryd.func35, Tryd.ntmps35
      go_wp2_with fail
      refine (V4.out _ HW.out).mono ?_
      rintro e w1 ⟨rfl, rfl⟩
      go_wp2_with fail
      refine (V4.out _ HW.out).mono ?_
      rintro e w1 ⟨rfl, rfl⟩
      go_wp2_with fail
      refine (C.out _ HW.out).mono ?_
      rintro e w1 ⟨rfl, g1⟩
      have HW1 := Lib.hid (HW.out.step g1)
      have G1 := Lib.hid g1; clear g1 C
      go_wp2_with fail
      refine (S4.out _).mono ?_
      rintro e w2 ⟨rfl, rfl⟩
      have a1 : ¬ 9223372036854775807 < U.length + 1 := by omega
      have a2 : ¬ 9223372036854775807 < U.length + 1 + 1 := by omega
      have a3 : ¬ 9223372036854775807 < U.length + 1 + V.length := by omega
      have a4 : ¬ 9223372036854775807 < U.length + 1 + 1 + V.length := by omega
      go_wp2_with fail
      refine (V4.out _ HW1.out).mono ?_
      rintro e w2 ⟨rfl, rfl⟩
      by_cases hv0 : v = 0
      · rw [if_neg (by omega)] at HR
        have v1 : ¬ (0 : Int) < (v : Int) := by omega
        clear hv0
        go_wp2_with fail
        refine (D.out _ HW1.out).mono ?_
        rintro e w2 ⟨rfl, g2⟩
        have G2 := Lib.hid g2; clear g2 D
        go_wp2_with fail
        go_ret
        exact ⟨by rw [HR.out]; simp [cat_bytes], G1.out.trans (G2.out.mono G1.out.size)⟩
      · have v1 : (0 : Int) < (v : Int) := by omega
        by_cases hv : v < 1000
        · rw [if_pos ⟨by omega, hv⟩] at HR
          have v2 : (v : Int) < 1000 := by omega
          clear hv hv0
          go_wp2_with fail
          refine (V3.out _ HW1.out).mono ?_
          rintro e w2 ⟨rfl, rfl⟩
          go_wp2_with fail
          refine (D.out _ HW1.out).mono ?_
          rintro e w2 ⟨rfl, g2⟩
          have G2 := Lib.hid g2; clear g2 D
          go_wp2_with fail
          go_ret
          exact ⟨by rw [HR.out]; simp [cat_bytes], G1.out.trans (G2.out.mono G1.out.size)⟩
        · rw [if_neg (fun h => hv h.2)] at HR
          have v2 : ¬ (v : Int) < 1000 := by omega
          clear hv hv0
          go_wp2_with fail
          refine (V3.out _ HW1.out).mono ?_
          rintro e w2 ⟨rfl, rfl⟩
          go_wp2_with fail
          refine (D.out _ HW1.out).mono ?_
          rintro e w2 ⟨rfl, g2⟩
          have G2 := Lib.hid g2; clear g2 D
          go_wp2_with fail
          go_ret
          exact ⟨by rw [HR.out]; simp [cat_bytes], G1.out.trans (G2.out.mono G1.out.size)⟩
theorem iRankOf_any (n : Int) (w : World) (hR : RV w) : Calls Tryd.prog 20 #[.int .i64 n] w fun e w' => e = .returned (rkR n) ∧ Below w.heap.size w w' := by
  by_cases h : 0 ≤ n ∧ n ≤ 99999999
  · obtain ⟨u, rfl⟩ := Int.eq_ofNat_of_zero_le h.1
    have Hf : Hid (rkR (u : Int) = .tuple #[.string ⟨(rkO u).toArray⟩, .bool true]) := Lib.hid (by unfold rkR; rw [if_pos h]; rfl)
    have O := Lib.hid (rankedText_any u w hR (by omega))
    have h1 : ¬ ((u : Int) < 0) := by omega
    have h2 : ¬ ((99999999 : Int) < u) := by omega
    generalize rkO u = L at *
    clear h
    go_enter Tryd.func20, Tryd.ntmps20
    go_wp2_with fail
    refine O.out.mono ?_
    rintro e w1 ⟨rfl, g1⟩
    have G1 := Lib.hid g1; clear g1
    go_wp2_with fail
    go_ret2
    exact ⟨rret Hf.out.symm, G1.out⟩
  · have Hf : Hid (rkR n = .tuple #[.string ⟨#[]⟩, .bool false]) := Lib.hid (by unfold rkR; rw [if_neg h])
    by_cases h1 : n < 0
    · clear h
      go_enter Tryd.func20, Tryd.ntmps20
      go_wp2_with fail
      go_ret2
      exact ⟨rret Hf.out.symm, Below.refl _ _⟩
    · have h2 : (99999999 : Int) < n := by omega
      clear h
      go_enter Tryd.func20, Tryd.ntmps20
      go_wp2_with fail
      go_ret2
      exact ⟨rret Hf.out.symm, Below.refl _ _⟩
theorem iRankNoughts_any (n : Int) (w : World) (hR : RV w) : Calls Tryd.prog 18 #[.int .i64 n] w fun e w' => e = .returned (rnR n) ∧ Below w.heap.size w w' := by
  have C := Lib.hid (iRankOf_any n w hR)
  have K := Lib.hid countR
  by_cases h : 0 ≤ n ∧ n ≤ 99999999
  · have Hf : Hid (rnR n = .tuple #[.int .i64 (nts (rkO n.toNat) : Nat), .bool true]) := Lib.hid (by unfold rnR; rw [if_pos h])
    rw [show rkR n = .tuple #[.string ⟨(rkO n.toNat).toArray⟩, .bool true] by unfold rkR; rw [if_pos h]] at C
    generalize rkO n.toNat = L at *
    have HN := Lib.hid (count_nts L)
    clear h
    go_enter Tryd.func18, Tryd.ntmps18
    go_wp2_with fail
    refine C.out.mono ?_
    rintro e w1 ⟨rfl, g1⟩
    have G1 := Lib.hid g1; clear g1
    go_wp2_with fail
    refine (K.out _ _).mono ?_
    rintro e w2 ⟨rfl, rfl⟩
    go_wp2_with fail
    go_ret2
    exact ⟨rret (by rw [Hf.out, ← HN.out]; rfl), G1.out⟩
  · have Hf : Hid (rnR n = .tuple #[.int .i64 0, .bool false]) := Lib.hid (by unfold rnR; rw [if_neg h])
    rw [show rkR n = .tuple #[.string ⟨#[]⟩, .bool false] by unfold rkR; rw [if_neg h]] at C
    clear h
    go_enter Tryd.func18, Tryd.ntmps18
    go_wp2_with fail
    refine C.out.mono ?_
    rintro e w1 ⟨rfl, g1⟩
    have G1 := Lib.hid g1; clear g1
    go_wp2_with fail
    go_ret2
    exact ⟨rret Hf.out.symm, G1.out⟩
theorem iRankShort_any (n : Int) (w : World) (hR : RV w) : Calls Tryd.prog 24 #[.int .i64 n] w fun e w' => e = .returned (rhR n) ∧ Below w.heap.size w w' := by
  have C := Lib.hid (iRankOf_any n w hR)
  have S := Lib.hid rsign1
  by_cases h : 0 ≤ n ∧ n ≤ 99999999
  · have Hf : Hid (rhR n = .tuple #[.string ⟨(shL (rkO n.toNat)).toArray⟩, .bool true]) := Lib.hid (by unfold rhR; rw [if_pos h])
    rw [show rkR n = .tuple #[.string ⟨(rkO n.toNat).toArray⟩, .bool true] by unfold rkR; rw [if_pos h]] at C
    have hl := rkO_len n.toNat
    generalize rkO n.toNat = L at *
    have P := Lib.hid (fun w => prefixR L w (by omega))
    have hl1 : 1 ≤ L.length := hl.1
    clear h hl
    by_cases h2 : L.take 2 = [49, 115]
    · rw [show shL L = L.drop 1 by unfold shL; rw [if_pos h2], ← (ext_take L 1).2] at Hf
      rw [show decide (L.take 2 = [49, 115]) = true from decide_eq_true h2] at P
      clear h2
      go_enter Tryd.func24, Tryd.ntmps24
      go_wp2_with fail
      refine C.out.mono ?_
      rintro e w1 ⟨rfl, g1⟩
      have G1 := Lib.hid g1; clear g1
      go_wp2_with fail
      refine (S.out _).mono ?_
      rintro e w2 ⟨rfl, rfl⟩
      go_wp2_with fail
      refine (P.out _).mono ?_
      rintro e w2 ⟨rfl, rfl⟩
      go_wp2_with fail
      go_ret2
      exact ⟨rret Hf.out.symm, G1.out⟩
    · rw [show shL L = L by unfold shL; rw [if_neg h2]] at Hf
      rw [show decide (L.take 2 = [49, 115]) = false from decide_eq_false h2] at P
      clear h2
      go_enter Tryd.func24, Tryd.ntmps24
      go_wp2_with fail
      refine C.out.mono ?_
      rintro e w1 ⟨rfl, g1⟩
      have G1 := Lib.hid g1; clear g1
      go_wp2_with fail
      refine (S.out _).mono ?_
      rintro e w2 ⟨rfl, rfl⟩
      go_wp2_with fail
      refine (P.out _).mono ?_
      rintro e w2 ⟨rfl, rfl⟩
      go_wp2_with fail
      go_ret2
      exact ⟨rret Hf.out.symm, G1.out⟩
  · have Hf : Hid (rhR n = .tuple #[.string ⟨#[]⟩, .bool false]) := Lib.hid (by unfold rhR; rw [if_neg h])
    rw [show rkR n = .tuple #[.string ⟨#[]⟩, .bool false] by unfold rkR; rw [if_neg h]] at C
    clear h
    go_enter Tryd.func24, Tryd.ntmps24
    go_wp2_with fail
    refine C.out.mono ?_
    rintro e w1 ⟨rfl, g1⟩
    have G1 := Lib.hid g1; clear g1
    go_wp2_with fail
    go_ret2
    exact ⟨rret Hf.out.symm, G1.out⟩
/-- the length of the longest text before k -/
def bsn : Nat → Nat
  | 0 => 0
  | k + 1 => (rkO (bsl k)).length
theorem bsn_step (k : Nat) : bsl k = (if bsn k < (rkO k).length then k else bsl (k - 1)) ∧ bsn (k + 1) = (if bsn k < (rkO k).length then (rkO k).length else bsn k) := by
  cases k with
  | zero => exact ⟨rfl, rfl⟩
  | succ k =>
    show bsl (k + 1) = (if (rkO (bsl k)).length < _ then _ else bsl k) ∧ (rkO (bsl (k + 1))).length = (if (rkO (bsl k)).length < _ then _ else (rkO (bsl k)).length)
    have e : bsl (k + 1) = if (rkO (bsl k)).length < (rkO (k + 1)).length then k + 1 else bsl k := rfl
    rw [e]
    by_cases h : (rkO (bsl k)).length < (rkO (k + 1)).length
    · rw [if_pos h, if_pos h]; exact ⟨rfl, rfl⟩
    · rw [if_neg h, if_neg h]; exact ⟨rfl, rfl⟩
theorem iRankLong_any (n : Int) (w : World) (hR : RV w) : Calls Tryd.prog 16 #[.int .i64 n] w fun e w' => e = .returned (rlR n) ∧ Below w.heap.size w w' := by
  have HW := Lib.hid hR; clear hR
  by_cases h : 0 ≤ n ∧ n ≤ 2000
  · obtain ⟨N, rfl⟩ := Int.eq_ofNat_of_zero_le h.1
    have Hf : Hid (rlR (N : Int) = .tuple #[.int .i64 (bsl N : Nat), .bool true]) := Lib.hid (by unfold rlR; rw [if_pos h]; rfl)
    have hN : N ≤ 2000 := by omega
    have h1 : ¬ ((N : Int) < 0) := by omega
    have h2 : ¬ ((2000 : Int) < N) := by omega
    clear h
    go_enter Tryd.func16, Tryd.ntmps16
    go_wp2_with fail
    go_loopw [4, 5, 16] (fun b c i wr => ∃ k : Nat, k ≤ N + 1 ∧ i = .int .i64 k ∧ b = .int .i64 (bsl (k - 1) : Nat) ∧ c = .int .i64 (bsn k : Nat) ∧ Hid (Below w.heap.size w wr)) (fun _ _ i _ => N + 1 - (intOf i).toNat)
    case atStart => exact ⟨0, by omega, rfl, rfl, rfl, Lib.hid (Below.refl _ _)⟩
    case round =>
      obtain ⟨k, hk, rfl, rfl, rfl, Hw⟩ := hrel
      by_cases hlt : k < N + 1
      · have C1 := Lib.hid (fun w h => rankedText_any k w h (by omega))
        have b1 := (rkO_len k).2
        have HS := Lib.hid (bsn_step k)
        generalize rkO k = X at *
        have l0 : (k : Int) < (N : Int) + 1 := by omega
        generalize bsl (k - 1) = B at *
        generalize bsn k = D at *
        by_cases hxy : D < X.length
        · have hxy' : (D : Int) < (X.length : Int) := by omega
          rw [if_pos hxy, if_pos hxy] at HS
          go_wp2_with fail
          refine (C1.out _ (HW.out.step Hw.out)).mono ?_
          rintro e w2 ⟨rfl, g2⟩
          have G2 := Lib.hid (Hw.out.trans (g2.mono Hw.out.size)); clear g2 C1
          go_wp2_with fail
          go_roundw
          case rel => exact ⟨k + 1, by omega, by go_num, by rw [Nat.add_sub_cancel, HS.out.1], by rw [HS.out.2], G2⟩
          case measure => simp [intOf]; omega
        · have hxy' : ¬ (D : Int) < (X.length : Int) := by omega
          rw [if_neg hxy, if_neg hxy] at HS
          go_wp2_with fail
          refine (C1.out _ (HW.out.step Hw.out)).mono ?_
          rintro e w2 ⟨rfl, g2⟩
          have G2 := Lib.hid (Hw.out.trans (g2.mono Hw.out.size)); clear g2 C1
          go_wp2_with fail
          go_roundw
          case rel => exact ⟨k + 1, by omega, by go_num, by rw [Nat.add_sub_cancel, HS.out.1], by rw [HS.out.2], G2⟩
          case measure => simp [intOf]; omega
      · obtain rfl : k = N + 1 := by omega
        go_wp2_with fail
        go_ret2
        exact ⟨rret Hf.out.symm, Hw.out⟩
  · have Hf : Hid (rlR n = .tuple #[.int .i64 0, .bool false]) := Lib.hid (by unfold rlR; rw [if_neg h])
    by_cases h1 : n < 0
    · clear h
      go_enter Tryd.func16, Tryd.ntmps16
      go_wp2_with fail
      go_ret2
      exact ⟨rret Hf.out.symm, Below.refl _ _⟩
    · have h2 : (2000 : Int) < n := by omega
      clear h
      go_enter Tryd.func16, Tryd.ntmps16
      go_wp2_with fail
      go_ret2
      exact ⟨rret Hf.out.symm, Below.refl _ _⟩
end Go.Proofs.YtagipmfkmikagaaDoor
