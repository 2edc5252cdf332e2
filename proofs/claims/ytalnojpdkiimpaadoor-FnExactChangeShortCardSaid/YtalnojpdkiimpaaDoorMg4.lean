/- Several texts of mine, one after another: UN2, YP, YQ, YR, YH, YK, Fw, GS, Lv, YS. -/
import Derived.Test.YtalnojpdkiimpaaDoorMg3
import Derived.Test.YtalnojpdkiimpaaDoorMg2
import Derived.Test.YtalnojpdkiimpaaDoorMg1
import Derived.Lib.AppendIntMem
import Derived.OwnWalk
import Derived.Test.YtalnojpdkiimpaaDoorRows
import Derived.ProofKit
import Derived.OpenShut
import Derived.JoinedOf
import Derived.SizedLaws
import Derived.Handed
import Derived.Stop.Joined
import Derived.Conc.Holds
import Derived.SevenTiedAt
import GoSem.ClaimSeven
/- The program's chapter 6: ranked texts. -/
namespace Go.Proofs.YtalnojpdkiimpaaDoor
open Go.RowKit
set_option linter.unusedVariables false
set_option maxRecDepth 100000
/-- the rank of the last sign behind i digits -/
def lrk (n : Nat) : Nat → Nat
  | 0 => 5
  | i + 1 => if dgt n i = 0 then lrk n i else 3 - i
theorem lrk_ge (n : Nat) : ∀ i, i ≤ 4 → 4 - i ≤ lrk n i
  | 0, _ => by show 4 ≤ 5; decide
  | i + 1, h => by
    have := lrk_ge n i (by omega)
    unfold lrk
    split <;> omega
theorem lrk_le (n : Nat) : ∀ i, lrk n i ≤ 5
  | 0 => Nat.le_refl 5
  | i + 1 => by
    have := lrk_le n i
    unfold lrk
    split <;> omega
theorem rkS_gap (n : Nat) : ∀ i, i ≤ 3 → (rkS n i).2 = (((rkS n i).1 != []) && decide ((3 - i : Nat) < lrk n i - 1))
  | 0, _ => rfl
  | i + 1, h => by
    have hl := lrk_ge n i (by omega)
    unfold rkS lrk
    by_cases h0 : dgt n i = 0
    · rw [if_pos h0, if_pos h0]
      show ((rkS n i).1 != []) = (((rkS n i).1 != []) && _)
      rw [decide_eq_true (by omega), Bool.and_true]
    · rw [if_neg h0, if_neg h0]
      show false = (_ && _)
      rw [decide_eq_false (by omega), Bool.and_false]
theorem rkT_rnv (i : Nat) (h : i < 4) : rnv (3 - i) = (rkT i : Nat) := by
  rcases (show i = 0 ∨ i = 1 ∨ i = 2 ∨ i = 3 by omega) with rfl | rfl | rfl | rfl <;> rfl
theorem sgz_rsg (i : Nat) (h : i < 4) : sgz (3 - i) = rsg i := by
  rcases (show i = 0 ∨ i = 1 ∨ i = 2 ∨ i = 3 by omega) with rfl | rfl | rfl | rfl <;> rfl
theorem dig_cut : ∀ d, d < 9 → digitsR.extract d (d + 1) = ⟨[dch (d + 1)].toArray⟩ := by
  have h : ∀ d, d < 9 → (digitsR.extract d (d + 1)).data = [dch (d + 1)].toArray := by decide +kernel
  exact fun d hd => ByteArray.ext (h d hd)
set_option maxHeartbeats 1000000 in
theorem rankedPart_any (n : Nat) (w : World) (hw : RV w) (hn : n ≤ 9999) : Calls Tryd.prog 67 #[.int .i64 n] w fun e w' => e = .returned (.string ⟨(rk4 n).toArray⟩) ∧ Below w.heap.size w w' := by
  have HR : Hid (rk4 n = (rkS n 4).1) := Lib.hid rfl
  have HW := Lib.hid hw; clear hw
  go_enter Tryd.func67, Tryd.ntmps67
  go_wp2_with fail
  go_loopw [3, 4, 5] (fun o l i wr => ∃ k : Nat, k ≤ 4 ∧ i = .int .i64 (3 - (k : Int)) ∧ o = .string ⟨(rkS n k).1.toArray⟩ ∧ l = .int .i64 (lrk n k : Nat) ∧ Hid (Below w.heap.size w wr)) (fun _ _ i _ => (intOf i + 1).toNat)
  case atStart => exact ⟨0, by omega, rfl, rfl, rfl, Lib.hid (Below.refl _ _)⟩
  case round =>
    obtain ⟨k, hk, rfl, rfl, rfl, HB⟩ := hrel
    have hlen := rkS_len n k
    by_cases hlt : k < 4
    · obtain ⟨d1, d2, d3⟩ := rkT_dgt n k hlt
      have hd := dgt_lt n k
      have HS : Hid (rkS n (k + 1) = if dgt n k = 0 then ((rkS n k).1, (rkS n k).1 != []) else ((rkS n k).1 ++ (if (rkS n k).2 = true then [111] else []) ++ [dch (dgt n k)] ++ rsg k, false)) := Lib.hid rfl
      have HL : Hid (lrk n (k + 1) = if dgt n k = 0 then lrk n k else 3 - k) := Lib.hid rfl
      have HG := Lib.hid (rkS_gap n k (by omega))
      have hdd : (n : Int) / (rkT k : Nat) % 10 = (dgt n k : Nat) := by rw [← d1]; omega
      have hsg : (rsg k).length ≤ 1 := by unfold rsg; split <;> (try split) <;> (try split) <;> simp
      have CV := Lib.hid (rvalue_any (3 - k) wr (HW.out.step HB.out) (by omega))
      have CS := Lib.hid (fun w => rsign_any (3 - k) w (by omega))
      rw [rkT_rnv k hlt] at CV
      rw [sgz_rsg k hlt] at CS
      rw [show ((3 - k : Nat) : Int) = 3 - (k : Int) by omega] at CV CS
      have hl1 := lrk_ge n k (by omega)
      have hl2 := lrk_le n k
      clear d1
      generalize (rkS n k).1 = L at *
      generalize (rkS n k).2 = G at *
      generalize rsg k = sg at *
      generalize rkT k = s at *
      generalize lrk n k = lr at *
      generalize dgt n k = d at *
      have hq0 : (0:Int) ≤ (n : Int) / (s : Nat) := Int.ediv_nonneg (by omega) (by omega)
      have hq1 : (n : Int) / (s : Nat) ≤ n := Int.ediv_le_self _ (by omega)
      have hwr64 : wrap64 ((n : Int) / (s : Nat)) = (n : Int) / (s : Nat) := by unfold wrap64; omega
      have htm : ((n : Int) / (s : Nat)).tmod 10 = d := by rw [Int.tmod_eq_emod_of_nonneg hq0, hdd]
      have hk3 : (0:Int) ≤ 3 - (k : Int) := by omega
      by_cases h0 : d = 0
      · rw [if_pos h0] at HS HL
        subst h0
        go_wp2_with fail
        refine CV.out.mono ?_
        rintro e w1 ⟨rfl, rfl⟩
        go_wp2_with fail
        go_roundw
        case rel => exact ⟨k + 1, by omega, by go_num, by rw [HS.out], by rw [HL.out], HB⟩
        case measure => simp [intOf]; omega
      · obtain ⟨e', rfl⟩ : ∃ e', d = e' + 1 := Nat.exists_eq_succ_of_ne_zero h0
        rw [if_neg h0] at HS HL
        have l1 : ¬ 9223372036854775807 < L.length + 1 := by omega
        have l2 : ¬ 9223372036854775807 < L.length + 1 + 1 := by omega
        have l3 : ¬ 9223372036854775807 < L.length + 1 + sg.length := by omega
        have l4 : ¬ 9223372036854775807 < L.length + 1 + 1 + sg.length := by omega
        have HE : Hid ((⟨#[49, 50, 51, 52, 53, 54, 55, 56, 57]⟩ : ByteArray).extract e' (e' + 1) = ⟨[dch (e' + 1)].toArray⟩) := Lib.hid (dig_cut e' (by omega))
        have hz : (((e' + 1 : Nat) : Int) == 0) = false := by rw [beq_eq_false_iff_ne]; omega
        go_wp2_with fail
        refine CV.out.mono ?_
        rintro e w1 ⟨rfl, rfl⟩
        by_cases hL : L = []
        · subst hL
          rw [show G = false from HG.out] at HS
          go_wp2_with fail
          go_quiet ((go_at_call 68; exact quiet_mine (CS.out _)))
          go_wp2_with fail
          go_roundw
          case rel => exact ⟨k + 1, by omega, by go_num, by { rw [HS.out, HE.out]; simp [cat_bytes] }, by { rw [HL.out]; go_num }, Lib.hid (bel_drewN HB.out _)⟩
          case measure => simp [intOf]; omega
        · have hL1 : (L == []) = false := by rw [beq_eq_false_iff_ne]; exact hL
          have hL2 : (L != []) = true := by rw [bne_iff_ne]; exact hL
          have HL2 := Lib.hid hL2; clear hL2
          clear hL
          by_cases hg : 3 - k < lr - 1
          · have hg' : (3:Int) - (k : Int) < (lr : Int) - 1 := by omega
            have hG : G = true := by rw [HG.out, HL2.out, decide_eq_true hg]; rfl
            rw [hG] at HS; clear hG
            go_wp2_with fail
            go_quiet ((go_at_call 68; exact quiet_mine (CS.out _)))
            go_wp2_with fail
            go_roundw
            case rel => exact ⟨k + 1, by omega, by go_num, by { rw [HS.out, HE.out]; simp [cat_bytes] }, by { rw [HL.out]; go_num }, Lib.hid (bel_drewN HB.out _)⟩
            case measure => simp [intOf]; omega
          · have hg' : ¬ (3:Int) - (k : Int) < (lr : Int) - 1 := by omega
            have hG : G = false := by rw [HG.out, HL2.out, decide_eq_false hg]; rfl
            rw [hG] at HS; clear hG
            go_wp2_with fail
            go_quiet ((go_at_call 68; exact quiet_mine (CS.out _)))
            go_wp2_with fail
            go_roundw
            case rel => exact ⟨k + 1, by omega, by go_num, by { rw [HS.out, HE.out]; simp [cat_bytes] }, by { rw [HL.out]; go_num }, Lib.hid (bel_drewN HB.out _)⟩
            case measure => simp [intOf]; omega
    · obtain rfl : k = 4 := by omega
      go_wp2_with fail
      go_ret
      exact ⟨by rw [HR.out]; rfl, HB.out⟩
theorem rvalue4 (w : World) (hw : RV w) : Calls Tryd.prog 66 #[.int .i64 4] w fun e w' => e = .returned (.int .i64 10000) ∧ w = w' := rvalue_any 4 w hw (by decide)
theorem rvalue3 (w : World) (hw : RV w) : Calls Tryd.prog 66 #[.int .i64 3] w fun e w' => e = .returned (.int .i64 1000) ∧ w = w' := rvalue_any 3 w hw (by decide)
theorem rsign4 (w : World) : Calls Tryd.prog 68 #[.int .i64 4] w fun e w' => e = .returned (.string ⟨#[119]⟩) ∧ w = w' := rsign_any 4 w (by decide)
theorem rsign1 (w : World) : Calls Tryd.prog 68 #[.int .i64 1] w fun e w' => e = .returned (.string ⟨#[115]⟩) ∧ w = w' := rsign_any 1 w (by decide)
set_option maxHeartbeats 1000000 in
theorem rankedText_any (n : Nat) (w : World) (hw : RV w) (hn : n ≤ 99999999) : Calls Tryd.prog 53 #[.int .i64 n] w fun e w' => e = .returned (.string ⟨(rkO n).toArray⟩) ∧ Below w.heap.size w w' := by
  have HW := Lib.hid hw; clear hw
  by_cases h0 : n = 0
  · subst h0
    go_enter Tryd.func53, Tryd.ntmps53
    go_wp2_with fail
    go_ret
    exact ⟨rfl, Below.refl _ _⟩
  · have hz : ((n : Int) == 0) = false := by rw [beq_eq_false_iff_ne]; omega
    have V4 := Lib.hid (fun w h => rvalue4 w h)
    by_cases h1 : n < 10000
    · have HR : Hid (rkO n = rk4 n) := Lib.hid (by unfold rkO; rw [if_neg h0, if_pos h1])
      have C := Lib.hid (rankedPart_any n w HW.out (by omega))
      have hl := rk4_len n
      have hz' : (n : Int) < 10000 := by omega
      generalize rk4 n = L at *
      clear h0
      go_enter Tryd.func53, Tryd.ntmps53
      go_wp2_with fail
      refine (V4.out _ HW.out).mono ?_
      rintro e w1 ⟨rfl, rfl⟩
      go_wp2_with fail
      refine C.out.mono ?_
      rintro e w1 ⟨rfl, g1⟩
      have G1 := Lib.hid g1; clear g1 C
      go_wp2_with fail
      go_ret
      exact ⟨by rw [HR.out]; simp [cat_bytes], G1.out⟩
    · have HR : Hid (rkO n = rk4 (n / 10000) ++ [119] ++ (if 0 < n % 10000 ∧ n % 10000 < 1000 then [111] else []) ++ rk4 (n % 10000)) := Lib.hid (by unfold rkO; rw [if_neg h0, if_neg h1])
      have C := Lib.hid (fun w h => rankedPart_any (n / 10000) w h (by omega))
      have D := Lib.hid (fun w h => rankedPart_any (n % 10000) w h (by omega))
      have S4 := Lib.hid (fun w => rsign4 w)
      have V3 := Lib.hid (fun w h => rvalue3 w h)
      have hz' : ¬ ((n : Int) < 10000) := by omega
      have l1 := rk4_len (n / 10000)
      have l2 := rk4_len (n % 10000)
      have e1 : (n : Int) / 10000 = ((n / 10000 : Nat) : Int) := by omega
      have e2 : (n : Int).tmod 10000 = ((n % 10000 : Nat) : Int) := by rw [Int.tmod_eq_emod_of_nonneg (by omega)]; omega
      have e3 : (n : Int) % 10000 = ((n % 10000 : Nat) : Int) := by omega
      have hw : wrap64 ((n : Int) / 10000) = (n / 10000 : Nat) := by rw [e1]; unfold wrap64; omega
      have hb1 : n / 10000 ≤ 9999 := by omega
      have hb2 : n % 10000 ≤ 9999 := by omega
      generalize n / 10000 = u at *
      generalize n % 10000 = v at *
      generalize rk4 u = U at *
      generalize rk4 v = V at *
      go_enter Tryd.func53, Tryd.ntmps53
      go_wp2_with fail
      refine (V4.out _ HW.out).mono ?_
      rintro e w1 ⟨rfl, rfl⟩
      go_wp2_with fail
      refine (V4.out _ HW.out).mono ?_
      rintro e w1 ⟨rfl, rfl⟩
      go_wp2_with fail
      refine (C.out _ HW.out).mono ?_
      rintro e w1 ⟨rfl, g1⟩
      have HW1 := Lib.hid (HW.out.step g1)
      have G1 := Lib.hid g1; clear g1 C
      go_wp2_with fail
      refine (S4.out _).mono ?_
      rintro e w2 ⟨rfl, rfl⟩
      have a1 : ¬ 9223372036854775807 < U.length + 1 := by omega
      have a2 : ¬ 9223372036854775807 < U.length + 1 + 1 := by omega
      have a3 : ¬ 9223372036854775807 < U.length + 1 + V.length := by omega
      have a4 : ¬ 9223372036854775807 < U.length + 1 + 1 + V.length := by omega
      go_wp2_with fail
      refine (V4.out _ HW1.out).mono ?_
      rintro e w2 ⟨rfl, rfl⟩
      by_cases hv0 : v = 0
      · rw [if_neg (by omega)] at HR
        have v1 : ¬ (0 : Int) < (v : Int) := by omega
        clear hv0
        go_wp2_with fail
        refine (D.out _ HW1.out).mono ?_
        rintro e w2 ⟨rfl, g2⟩
        have G2 := Lib.hid g2; clear g2 D
        go_wp2_with fail
        go_ret
        exact ⟨by rw [HR.out]; simp [cat_bytes], G1.out.trans (G2.out.mono G1.out.size)⟩
      · have v1 : (0 : Int) < (v : Int) := by omega
        by_cases hv : v < 1000
        · rw [if_pos ⟨by omega, hv⟩] at HR
          have v2 : (v : Int) < 1000 := by omega
          clear hv hv0
          go_wp2_with fail
          refine (V3.out _ HW1.out).mono ?_
          rintro e w2 ⟨rfl, rfl⟩
          go_wp2_with fail
          refine (D.out _ HW1.out).mono ?_
          rintro e w2 ⟨rfl, g2⟩
          have G2 := Lib.hid g2; clear g2 D
          go_wp2_with fail
          go_ret
          exact ⟨by rw [HR.out]; simp [cat_bytes], G1.out.trans (G2.out.mono G1.out.size)⟩
        · rw [if_neg (fun h => hv h.2)] at HR
          have v2 : ¬ (v : Int) < 1000 := by omega
          clear hv hv0
          go_wp2_with fail
          refine (V3.out _ HW1.out).mono ?_
          rintro e w2 ⟨rfl, rfl⟩
          go_wp2_with fail
          refine (D.out _ HW1.out).mono ?_
          rintro e w2 ⟨rfl, g2⟩
          have G2 := Lib.hid g2; clear g2 D
          go_wp2_with fail
          go_ret
          exact ⟨by rw [HR.out]; simp [cat_bytes], G1.out.trans (G2.out.mono G1.out.size)⟩
theorem iRankOf_any (n : Int) (w : World) (hR : RV w) : Calls Tryd.prog 34 #[.int .i64 n] w fun e w' => e = .returned (rkR n) ∧ Below w.heap.size w w' := by
  by_cases h : 0 ≤ n ∧ n ≤ 99999999
  · obtain ⟨u, rfl⟩ := Int.eq_ofNat_of_zero_le h.1
    have Hf : Hid (rkR (u : Int) = .tuple #[.string ⟨(rkO u).toArray⟩, .bool true]) := Lib.hid (by unfold rkR; rw [if_pos h]; rfl)
    have O := Lib.hid (rankedText_any u w hR (by omega))
    have h1 : ¬ ((u : Int) < 0) := by omega
    have h2 : ¬ ((99999999 : Int) < u) := by omega
    generalize rkO u = L at *
    clear h
    go_enter Tryd.func34, Tryd.ntmps34
    go_wp2_with fail
    refine O.out.mono ?_
    rintro e w1 ⟨rfl, g1⟩
    have G1 := Lib.hid g1; clear g1
    go_wp2_with fail
    go_ret2
    exact ⟨rret Hf.out.symm, G1.out⟩
  · have Hf : Hid (rkR n = .tuple #[.string ⟨#[]⟩, .bool false]) := Lib.hid (by unfold rkR; rw [if_neg h])
    by_cases h1 : n < 0
    · clear h
      go_enter Tryd.func34, Tryd.ntmps34
      go_wp2_with fail
      go_ret2
      exact ⟨rret Hf.out.symm, Below.refl _ _⟩
    · have h2 : (99999999 : Int) < n := by omega
      clear h
      go_enter Tryd.func34, Tryd.ntmps34
      go_wp2_with fail
      go_ret2
      exact ⟨rret Hf.out.symm, Below.refl _ _⟩
/-- the length of the longest text before k -/
def bsn : Nat → Nat
  | 0 => 0
  | k + 1 => (rkO (bsl k)).length
theorem bsn_step (k : Nat) : bsl k = (if bsn k < (rkO k).length then k else bsl (k - 1)) ∧ bsn (k + 1) = (if bsn k < (rkO k).length then (rkO k).length else bsn k) := by
  cases k with
  | zero => exact ⟨rfl, rfl⟩
  | succ k =>
    show bsl (k + 1) = (if (rkO (bsl k)).length < _ then _ else bsl k) ∧ (rkO (bsl (k + 1))).length = (if (rkO (bsl k)).length < _ then _ else (rkO (bsl k)).length)
    have e : bsl (k + 1) = if (rkO (bsl k)).length < (rkO (k + 1)).length then k + 1 else bsl k := rfl
    rw [e]
    by_cases h : (rkO (bsl k)).length < (rkO (k + 1)).length
    · rw [if_pos h, if_pos h]; exact ⟨rfl, rfl⟩
    · rw [if_neg h, if_neg h]; exact ⟨rfl, rfl⟩
end Go.Proofs.YtalnojpdkiimpaaDoor

/- The program's chapter 8: numerals of a kind, their lengths. -/
namespace Go.Proofs.YtalnojpdkiimpaaDoor
open Go.RowKit
set_option linter.unusedVariables false
set_option maxRecDepth 100000
/-- the tables that the program reads -/
def TB (w : World) : Prop := AT w ∧ RV w ∧ PW w
theorem TB.step {w w' : World} (h : TB w) (g : Below w.heap.size w w') : TB w' := ⟨h.1.step g, h.2.1.step g, h.2.2.step g⟩
theorem TB.of {w : World} (h1 : AT w) (h2 : RV w) (h3 : PW w) : TB w := ⟨h1, h2, h3⟩
set_option maxHeartbeats 2000000 in
theorem decimalOf_any (n : Int) (w : World) (hn : I64Ok n) (hP : PW w) : Calls Tryd.prog 35 #[.int .i64 n] w fun e w' => e = .returned (oV (chO [100] n)) ∧ Below w.heap.size w w' := by
  obtain ⟨n1, n2⟩ := hn
  rw [← oV_d]
  by_cases h : 0 ≤ n ∧ n ≤ 99999999
  · rw [if_pos h]
    have C := Lib.hid (Tryd.strconv_Itoa n n1 n2 w hP.2)
    obtain ⟨u, rfl⟩ := Int.eq_ofNat_of_zero_le h.1
    rw [itoa_dcm] at C
    rw [show ((u : Int)).toNat = u by omega]
    generalize dcm u = M at *
    have h1 : ¬ (u : Int) < 0 := by omega
    have h2 : ¬ (99999999 : Int) < (u : Int) := by omega
    clear h hP n1 n2
    go_enter Tryd.func35, Tryd.ntmps35
    go_wp2_with fail
    refine C.out.mono ?_
    rintro e w1 ⟨rfl, k, os, rfl⟩
    have G1 := Lib.hid (Lib.below_grow w.heap.size w (Nat.le_refl _) k os)
    go_wp2_with fail
    go_ret2
    exact ⟨rfl, G1.out⟩
  · rw [if_neg h]
    clear hP n1 n2
    by_cases h1 : n < 0
    · clear h
      go_enter Tryd.func35, Tryd.ntmps35
      go_wp2_with fail
      go_ret2
      exact ⟨rfl, Below.refl _ _⟩
    · have h2 : (99999999 : Int) < n := by omega
      clear h
      go_enter Tryd.func35, Tryd.ntmps35
      go_wp2_with fail
      go_ret2
      exact ⟨rfl, Below.refl _ _⟩
theorem ta00 (s : ByteArray) (w : World) : (Instr.typeAssert (.iface 54 (.string s)) 35 54 true).run Tryd.prog w = .ok (.tuple #[.string s, .bool true]) w := by kernel_rfl
theorem ta10 (s : ByteArray) (w : World) : (Instr.typeAssert (.iface 55 (.string s)) 35 54 true).run Tryd.prog w = .ok (.tuple #[.string ⟨#[]⟩, .bool false]) w := by kernel_rfl
theorem ta11 (s : ByteArray) (w : World) : (Instr.typeAssert (.iface 55 (.string s)) 35 55 true).run Tryd.prog w = .ok (.tuple #[.string s, .bool true]) w := by kernel_rfl
theorem ta20 (s : ByteArray) (w : World) : (Instr.typeAssert (.iface 56 (.string s)) 35 54 true).run Tryd.prog w = .ok (.tuple #[.string ⟨#[]⟩, .bool false]) w := by kernel_rfl
theorem ta21 (s : ByteArray) (w : World) : (Instr.typeAssert (.iface 56 (.string s)) 35 55 true).run Tryd.prog w = .ok (.tuple #[.string ⟨#[]⟩, .bool false]) w := by kernel_rfl
theorem ta22 (s : ByteArray) (w : World) : (Instr.typeAssert (.iface 56 (.string s)) 35 56 true).run Tryd.prog w = .ok (.tuple #[.string s, .bool true]) w := by kernel_rfl
theorem ta30 (s : ByteArray) (w : World) : (Instr.typeAssert (.iface 57 (.string s)) 35 54 true).run Tryd.prog w = .ok (.tuple #[.string ⟨#[]⟩, .bool false]) w := by kernel_rfl
theorem ta31 (s : ByteArray) (w : World) : (Instr.typeAssert (.iface 57 (.string s)) 35 55 true).run Tryd.prog w = .ok (.tuple #[.string ⟨#[]⟩, .bool false]) w := by kernel_rfl
theorem ta32 (s : ByteArray) (w : World) : (Instr.typeAssert (.iface 57 (.string s)) 35 56 true).run Tryd.prog w = .ok (.tuple #[.string ⟨#[]⟩, .bool false]) w := by kernel_rfl
theorem ta33 (s : ByteArray) (w : World) : (Instr.typeAssert (.iface 57 (.string s)) 35 57 true).run Tryd.prog w = .ok (.tuple #[.string s, .bool true]) w := by kernel_rfl
theorem ta40 (s : ByteArray) (w : World) : (Instr.typeAssert (.iface 58 (.string s)) 35 54 true).run Tryd.prog w = .ok (.tuple #[.string ⟨#[]⟩, .bool false]) w := by kernel_rfl
theorem ta41 (s : ByteArray) (w : World) : (Instr.typeAssert (.iface 58 (.string s)) 35 55 true).run Tryd.prog w = .ok (.tuple #[.string ⟨#[]⟩, .bool false]) w := by kernel_rfl
theorem ta42 (s : ByteArray) (w : World) : (Instr.typeAssert (.iface 58 (.string s)) 35 56 true).run Tryd.prog w = .ok (.tuple #[.string ⟨#[]⟩, .bool false]) w := by kernel_rfl
theorem ta43 (s : ByteArray) (w : World) : (Instr.typeAssert (.iface 58 (.string s)) 35 57 true).run Tryd.prog w = .ok (.tuple #[.string ⟨#[]⟩, .bool false]) w := by kernel_rfl
theorem ta44 (s : ByteArray) (w : World) : (Instr.typeAssert (.iface 58 (.string s)) 35 58 true).run Tryd.prog w = .ok (.tuple #[.string s, .bool true]) w := by kernel_rfl
set_option maxHeartbeats 2000000 in
theorem textLike0 (s : ByteArray) (n : Int) (w : World) (hn : I64Ok n) (hT : TB w) : Calls Tryd.prog 18 #[.iface 54 (.string s), .int .i64 n] w fun e w' => e = .returned (oV (chO [114] n)) ∧ Below w.heap.size w w' := by
  have C := Lib.hid (iRomanOf_any n w)
  rw [oV_r] at C
  obtain ⟨x, b, hx, _⟩ := oV_two (chO [114] n)
  rw [hx] at C ⊢
  clear hx hT hn
  have t0 := ta00
  go_enter Tryd.func18, Tryd.ntmps18
  go_wp2_with fail
  refine C.out.mono ?_
  rintro e w1 ⟨rfl, g1⟩
  have G1 := Lib.hid g1; clear g1
  go_wp2_with fail
  go_ret2
  exact ⟨rfl, G1.out⟩
set_option maxHeartbeats 2000000 in
theorem textLike1 (s : ByteArray) (n : Int) (w : World) (hn : I64Ok n) (hT : TB w) : Calls Tryd.prog 18 #[.iface 55 (.string s), .int .i64 n] w fun e w' => e = .returned (oV (chO [97] n)) ∧ Below w.heap.size w w' := by
  have C := Lib.hid (iAlphaOf_any n w hT.1)
  rw [oV_a] at C
  obtain ⟨x, b, hx, _⟩ := oV_two (chO [97] n)
  rw [hx] at C ⊢
  clear hx hT hn
  have t0 := ta10
  have t1 := ta11
  go_enter Tryd.func18, Tryd.ntmps18
  go_wp2_with fail
  refine C.out.mono ?_
  rintro e w1 ⟨rfl, rfl⟩
  go_wp2_with fail
  go_ret2
  exact ⟨rfl, Below.refl _ _⟩
set_option maxHeartbeats 2000000 in
theorem textLike2 (s : ByteArray) (n : Int) (w : World) (hn : I64Ok n) (hT : TB w) : Calls Tryd.prog 18 #[.iface 56 (.string s), .int .i64 n] w fun e w' => e = .returned (oV (chO [99] n)) ∧ Below w.heap.size w w' := by
  have C := Lib.hid (iPlaceOf_any n w hn.2)
  rw [oV_c] at C
  obtain ⟨x, b, hx, _⟩ := oV_two (chO [99] n)
  rw [hx] at C ⊢
  clear hx hT hn
  have t0 := ta20
  have t1 := ta21
  have t2 := ta22
  go_enter Tryd.func18, Tryd.ntmps18
  go_wp2_with fail
  refine C.out.mono ?_
  rintro e w1 ⟨rfl, g1⟩
  have G1 := Lib.hid g1; clear g1
  go_wp2_with fail
  go_ret2
  exact ⟨rfl, G1.out⟩
set_option maxHeartbeats 2000000 in
theorem textLike3 (s : ByteArray) (n : Int) (w : World) (hn : I64Ok n) (hT : TB w) : Calls Tryd.prog 18 #[.iface 57 (.string s), .int .i64 n] w fun e w' => e = .returned (oV (chO [107] n)) ∧ Below w.heap.size w w' := by
  have C := Lib.hid (iRankOf_any n w hT.2.1)
  rw [oV_k] at C
  obtain ⟨x, b, hx, _⟩ := oV_two (chO [107] n)
  rw [hx] at C ⊢
  clear hx hT hn
  have t0 := ta30
  have t1 := ta31
  have t2 := ta32
  have t3 := ta33
  go_enter Tryd.func18, Tryd.ntmps18
  go_wp2_with fail
  refine C.out.mono ?_
  rintro e w1 ⟨rfl, g1⟩
  have G1 := Lib.hid g1; clear g1
  go_wp2_with fail
  go_ret2
  exact ⟨rfl, G1.out⟩
set_option maxHeartbeats 2000000 in
theorem textLike4 (s : ByteArray) (n : Int) (w : World) (hn : I64Ok n) (hT : TB w) : Calls Tryd.prog 18 #[.iface 58 (.string s), .int .i64 n] w fun e w' => e = .returned (oV (chO [100] n)) ∧ Below w.heap.size w w' := by
  have C := Lib.hid (decimalOf_any n w hn hT.2.2)
  obtain ⟨x, b, hx, _⟩ := oV_two (chO [100] n)
  rw [hx] at C ⊢
  clear hx hT hn
  have t0 := ta40
  have t1 := ta41
  have t2 := ta42
  have t3 := ta43
  have t4 := ta44
  go_enter Tryd.func18, Tryd.ntmps18
  go_wp2_with fail
  refine C.out.mono ?_
  rintro e w1 ⟨rfl, g1⟩
  have G1 := Lib.hid g1; clear g1
  go_wp2_with fail
  go_ret2
  exact ⟨rfl, G1.out⟩
theorem textLike_at (i : Nat) (hi : i < 5) (s : ByteArray) (n : Int) (w : World) (hn : I64Ok n) (hT : TB w) : Calls Tryd.prog 18 #[.iface (kT i) (.string s), .int .i64 n] w fun e w' => e = .returned (oV (chO [kb i] n)) ∧ Below w.heap.size w w' := by
  rcases (show i = 0 ∨ i = 1 ∨ i = 2 ∨ i = 3 ∨ i = 4 by omega) with rfl | rfl | rfl | rfl | rfl
  · exact textLike0 s n w hn hT
  · exact textLike1 s n w hn hT
  · exact textLike2 s n w hn hT
  · exact textLike3 s n w hn hT
  · exact textLike4 s n w hn hT
set_option maxHeartbeats 2000000 in
theorem iChangeOf_any (K : List UInt8) (n : Int) (w : World) (hT : TB w) (hn : I64Ok n) (hK : K.length ≤ 1048576) : Calls Tryd.prog 11 #[.string ⟨K.toArray⟩, .int .i64 n] w fun e w' => e = .returned (oV (chO K n)) ∧ Below w.heap.size w w' := by
  have C := Lib.hid (numeralAs_any K [] w)
  obtain ⟨f1, f2, f3, f4⟩ := kIx_facts K
  have HT := Lib.hid hT; clear hT
  have N := Lib.hid hn; clear hn
  by_cases h : kIx K < 5
  · have hv : nAs (kIx K) [] = .tuple #[.iface (kT (kIx K)) (.string ⟨([] : List UInt8).toArray⟩), .bool true] := if_pos h
    rw [hv] at C
    have D := Lib.hid (fun w h' => textLike_at (kIx K) h ⟨([] : List UInt8).toArray⟩ n w N.out h')
    rw [← (f3 h).2] at D
    obtain ⟨x, b, hx, _⟩ := oV_two (chO K n)
    rw [hx] at D ⊢
    generalize kT (kIx K) = T at *
    clear hx f1 f2 f3 f4 h hv hK
    go_enter Tryd.func11, Tryd.ntmps11
    go_wp2_with fail
    refine C.out.mono ?_
    rintro e w1 ⟨rfl, g1⟩
    have G1 := Lib.hid g1; have HT1 := Lib.hid (HT.out.step g1); clear g1
    go_wp2_with fail
    refine (D.out _ HT1.out).mono ?_
    rintro e w2 ⟨rfl, g2⟩
    have G2 := Lib.hid (G1.out.trans (g2.mono G1.out.size)); clear g2
    go_wp2_with fail
    go_ret2
    exact ⟨rfl, G2.out⟩
  · have hv : nAs (kIx K) [] = .tuple #[.nilIface, .bool false] := if_neg h
    rw [hv] at C
    obtain ⟨k1, k2, k3, k4, k5⟩ := f4 h
    rw [chO_other K n k1 k2 k3 k4 k5, show oV none = .tuple #[.string ⟨#[]⟩, .bool false] from rfl]
    clear f1 f2 f3 f4 h hv hK k1 k2 k3 k4 k5
    go_enter Tryd.func11, Tryd.ntmps11
    go_wp2_with fail
    refine C.out.mono ?_
    rintro e w1 ⟨rfl, g1⟩
    have G1 := Lib.hid g1; clear g1
    go_wp2_with fail
    go_ret2
    exact ⟨rfl, G1.out⟩
theorem iChangeLength_any (K : List UInt8) (n : Int) (w : World) (hT : TB w) (hn : I64Ok n) (hK : K.length ≤ 1048576) : Calls Tryd.prog 9 #[.string ⟨K.toArray⟩, .int .i64 n] w fun e w' => e = .returned (iV (lnO K n)) ∧ Below w.heap.size w w' := by
  have C := Lib.hid (iChangeOf_any K n w hT hn hK)
  obtain ⟨x, b, hx, h1, h2⟩ := oV_two (chO K n)
  have hv : iV (lnO K n) = .tuple #[.int .i64 x.length, .bool b] := by
    unfold lnO
    cases b with
    | false => rw [(h2 rfl).1, (h2 rfl).2]; rfl
    | true => rw [h1 rfl]; rfl
  rw [hx] at C
  rw [hv]
  clear hx hv h1 h2 hK hT hn
  go_enter Tryd.func9, Tryd.ntmps9
  go_wp2_with fail
  refine C.out.mono ?_
  rintro e w1 ⟨rfl, g1⟩
  have G1 := Lib.hid g1; clear g1
  go_wp2_with fail
  go_ret2
  exact ⟨rfl, G1.out⟩
end Go.Proofs.YtalnojpdkiimpaaDoor

/- The program's chapter 8: the texts of a number, the shortest kinds. -/
namespace Go.Proofs.YtalnojpdkiimpaaDoor
open Go.RowKit
set_option linter.unusedVariables false
set_option maxRecDepth 100000
abbrev Tx := List UInt8 × List UInt8
/-- the numerals of a number, each with its kind -/
def txs (n : Int) : Nat → List Tx
  | 0 => []
  | i + 1 => match chO [kb i] n with
    | none => txs n i
    | some t => txs n i ++ [([kb i], t)]
theorem txs_none (n : Int) (i : Nat) (h : chO [kb i] n = none) : txs n (i + 1) = txs n i := by
  show (match chO [kb i] n with | none => _ | some t => _) = _
  rw [h]
theorem txs_some (n : Int) (i : Nat) (t : List UInt8) (h : chO [kb i] n = some t) : txs n (i + 1) = txs n i ++ [([kb i], t)] := by
  show (match chO [kb i] n with | none => _ | some t => _) = _
  rw [h]
theorem txs_len (n : Int) : ∀ i, (txs n i).length ≤ i
  | 0 => Nat.le_refl _
  | i + 1 => by
    have ih := txs_len n i
    cases h : chO [kb i] n with
    | none => rw [txs_none n i h]; omega
    | some t => rw [txs_some n i t h, List.length_append]; show _ + 1 ≤ _; omega
/-- what holds of a numeral in the list -/
theorem txs_ok (n : Int) : ∀ i, i ≤ 5 → ∀ p ∈ txs n i, p.1.length = 1 ∧ p.2.length ≤ 59
  | 0, _, p, h => by cases h
  | i + 1, hi, p, h => by
    cases hc : chO [kb i] n with
    | none => rw [txs_none n i hc] at h; exact txs_ok n i (by omega) p h
    | some t =>
      rw [txs_some n i t hc] at h
      rcases List.mem_append.1 h with h | h
      · exact txs_ok n i (by omega) p h
      · obtain rfl := List.mem_singleton.1 h
        exact ⟨rfl, (chO_len _ n t hc).2⟩
/-- one numeral more: the kinds with the least length, and this length -/
def shS (s : List UInt8 × Nat) (p : Tx) : List UInt8 × Nat :=
  if s.1 = [] ∨ p.2.length < s.2 then (p.1, p.2.length) else if p.2.length = s.2 then (s.1 ++ p.1, p.2.length) else s
theorem shN_txs (n : Int) : ∀ i, shN n i = (txs n i).foldl shS ([], 0)
  | 0 => rfl
  | i + 1 => by
    have ih := shN_txs n i
    cases h : chO [kb i] n with
    | none =>
      rw [txs_none n i h, shN_none n i (by unfold lnO; rw [h]; rfl), ih]
    | some t =>
      rw [txs_some n i t h, List.foldl_append, ← ih, shN_some n i t.length (by unfold lnO; rw [h]; rfl)]
      rfl
def txC (L : List Tx) : List Value := L.flatMap fun p => [.string ⟨p.1.toArray⟩, .string ⟨p.2.toArray⟩]
theorem txC_append (a b : List Tx) : txC (a ++ b) = txC a ++ txC b := by simp [txC]
theorem txC_at : ∀ (a : List Tx) (i : Nat) (h : i < a.length), (txC a)[i * 2]? = some (.string ⟨a[i].1.toArray⟩) ∧ (txC a)[i * 2 + 1]? = some (.string ⟨a[i].2.toArray⟩)
  | [], i, h => by simp at h
  | s :: r, 0, _ => by simp [txC]
  | s :: r, i + 1, h => by
    have ih := txC_at r i (by simpa using h)
    have e : txC (s :: r) = .string ⟨s.1.toArray⟩ :: .string ⟨s.2.toArray⟩ :: txC r := by simp [txC]
    rw [e, show (i + 1) * 2 = i * 2 + 1 + 1 by omega]
    simpa using ih
/-- numerals in memory -/
def TxR (w : World) (v : Value) (L : List Tx) : Prop := ∃ (a : Option Addr) (cap : Nat), v = .slice a L.length cap ∧ ∀ i (h : i < L.length), ∃ b, a = some ⟨b, 0, none⟩ ∧ b < w.heap.size ∧ w.cell? ⟨b, i * 2, none⟩ = some (.string ⟨L[i].1.toArray⟩) ∧ w.cell? ⟨b, i * 2 + 1, none⟩ = some (.string ⟨L[i].2.toArray⟩)
theorem TxR.of_own {w : World} {base : Nat} {T : TypeId} {v : Value} {L : List Tx} (h : w.ownsRow base T 2 v L.length (txC L)) : TxR w v L := by
  rcases h.2 with ⟨rfl, h0⟩ | ⟨g, cap, cur, rfl, hb, hg, _, _, hcs, htk⟩
  · exact ⟨none, 0, by rw [h0], fun i hi => by omega⟩
  · refine ⟨some ⟨g, 0, none⟩, cap, rfl, fun i hi => ⟨g, rfl, lt_of_block' hg, ?_⟩⟩
    have hat := txC_at L i hi
    rw [← htk, List.getElem?_take, List.getElem?_take, if_pos (by omega), if_pos (by omega), Array.getElem?_toList, Array.getElem?_toList] at hat
    exact ⟨cell_at hg hat.1, cell_at hg hat.2⟩
abbrev TxT : TypeId := 45
abbrev TxS : TypeId := 42
abbrev NmT : TypeId := 53
theorem info_tx : (Tryd.prog.info? TxT).map (fun i => (i.zero, i.size, i.bytes)) = some (some (.agg #[.string ⟨#[]⟩, .string ⟨#[]⟩]), 2, 32) := by kernel_rfl
set_option maxHeartbeats 4000000 in
theorem textsOf_any (n : Int) (w : World) (hn : I64Ok n) (hT : TB w) : Calls Tryd.prog 21 #[.int .i64 n] w fun e w' => ∃ v, e = .returned v ∧ TxR w' v (txs n 5) ∧ Below w.heap.size w w' := by
  obtain ⟨i0, hi, hz0, hz1, hz2⟩ := info_parts info_tx
  have C := Lib.hid (fun w => numeralsAs_any [] w)
  have HT := Lib.hid hT; have Hn := Lib.hid hn; clear hT hn
  go_enter Tryd.func21, Tryd.ntmps21
  go_wp2_with fail
  refine (C.out _).mono ?_
  rintro e w1 ⟨b, rfl, hb, hN, hB⟩
  have HN := Lib.hid hN; have HB := Lib.hid hB; have HT1 := Lib.hid (HT.out.step hB); clear hN hB C HT
  have HO : Hid (w1.ownsRow w1.heap.size TxT 2 (.slice none 0 0) (txs n 0).length (txC (txs n 0))) := Lib.hid (World.ownsRow_nil _ _ _ _)
  go_wp2_with fail
  go_loopw [3, 10] (fun u i wr => ∃ k : Nat, i = .int .i64 k ∧ k ≤ 5 ∧ Hid (wr.ownsRow w1.heap.size TxT 2 u (txs n k).length (txC (txs n k))) ∧ Hid (Below w1.heap.size w1 wr)) (fun _ i _ => 5 - (intOf i).toNat)
  case atStart => exact ⟨0, rfl, by omega, HO, Lib.hid (Below.refl _ _)⟩
  case round =>
    obtain ⟨k, rfl, hk, Ho, Hb⟩ := hrel
    clear HO
    by_cases hlt : k < 5
    · obtain ⟨hd1, hd2⟩ := (HN.out.below Hb.out).2 k hlt
      have i1 : (k : Int) < 5 := by omega
      have hsz := Hb.out.size
      have HB2 : Hid (Below w1.heap.size w1 (wr.alloc (.cells #[.string ⟨[kb k].toArray⟩, .iface (kT k) (.string ⟨#[]⟩)] NmT))) := Lib.hid (Hb.out.alloc hsz _)
      have Ho2 : Hid ((wr.alloc (.cells #[.string ⟨[kb k].toArray⟩, .iface (kT k) (.string ⟨#[]⟩)] NmT)).ownsRow w1.heap.size TxT 2 u3 (txs n k).length (txC (txs n k))) := Lib.hid (Ho.out.alloc _)
      have D := Lib.hid (fun w h' => textLike_at k hlt ⟨#[]⟩ n w Hn.out h')
      have Hnew : Hid ((wr.alloc (.cells #[.string ⟨[kb k].toArray⟩, .iface (kT k) (.string ⟨#[]⟩)] NmT)).heap[wr.heap.size]? = some (.cells #[.string ⟨[kb k].toArray⟩, .iface (kT k) (.string ⟨#[]⟩)] NmT (0, 0))) := Lib.hid (heap_alloc_new _ _)
      have hlen := txs_len n k
      generalize hkT : kT k = T at *
      clear hkT
      cases ho : chO [kb k] n with
      | none =>
        have HE := Lib.hid (txs_none n k ho)
        rw [ho, show oV none = .tuple #[.string ⟨#[]⟩, .bool false] from rfl] at D
        clear ho
        go_wp2_with fail
        refine (D.out _ (HT1.out.step HB2.out)).mono ?_
        rintro e w2 ⟨rfl, g2⟩
        have HB3 := Lib.hid (HB2.out.trans (g2.mono HB2.out.size))
        have HO3 : Hid (w2.ownsRow w1.heap.size TxT 2 u3 (txs n (k + 1)).length (txC (txs n (k + 1)))) := Lib.hid (by
          rw [HE.out]
          exact Ho2.out.kept (row := none) ⟨g2.os, g2.tape, g2.output, g2.size, fun j hj _ => g2.block j hj⟩ (by
            cases hob : u3.ownBlock with
            | none => exact .inl rfl
            | some x => exact .inr (by simp)))
        clear g2
        go_wp2_with fail
        go_roundw
        case rel => exact ⟨k + 1, by go_num, by omega, HO3, HB3⟩
        case measure => simp [intOf]; omega
      | some t =>
        have HE := Lib.hid (txs_some n k t ho)
        rw [ho, show oV (some t) = .tuple #[.string ⟨t.toArray⟩, .bool true] from rfl] at D
        clear ho
        go_wp2_with fail
        refine (D.out _ (HT1.out.step HB2.out)).mono ?_
        rintro e w2 ⟨rfl, g2⟩
        have HB3 := Lib.hid (HB2.out.trans (g2.mono HB2.out.size))
        have HO3 : Hid (w2.ownsRow w1.heap.size TxT 2 u3 (txs n k).length (txC (txs n k))) := Lib.hid (Ho2.out.kept (row := none) ⟨g2.os, g2.tape, g2.output, g2.size, fun j hj _ => g2.block j hj⟩ (by
            cases hob : u3.ownBlock with
            | none => exact .inl rfl
            | some x => exact .inr (by simp)))
        have hblk := (g2.block wr.heap.size (lt_of_block' Hnew.out)).trans Hnew.out
        have he1 := cell_at hblk (j := 0) rfl
        have hsz3 := HB3.out.size
        clear g2 hblk
        go_wp2_with (at_builtin; refine wpList_append_own _ rfl _ _ TxS rfl w1.heap.size TxT i0 (.agg #[.string ⟨#[]⟩, .string ⟨#[]⟩]) 2 32 Tryd.underlying42 hi hz0 hz1 hz2 rfl (by decide) _ _ _ rfl (HO3.out.alloc _) ⟨w2.heap.size, 0, none⟩ 1 1 [.string ⟨[kb k].toArray⟩, .string ⟨t.toArray⟩] rfl rfl ?c1 ?c2 ?c3 ?c4 ?c5 ?_)
        case c1 =>
          intro j u h
          match j, h with
          | 0, h => simp at h; subst h; exact cell_at (heap_alloc_new _ _) (by rfl)
          | 1, h => simp at h; subst h; exact cell_at (heap_alloc_new _ _) (by rfl)
          | j + 2, h => simp at h
        case c2 => intro u hu; simp at hu; rcases hu with rfl | rfl <;> rfl
        case c3 => unfold maxLen; omega
        case c4 => omega
        case c5 => exact Nat.le_trans hsz3 (by simp)
        intro v' w6 ho6 g6 _
        have HO6 : Hid (w6.ownsRow w1.heap.size TxT 2 v' (txs n (k + 1)).length (txC (txs n (k + 1)))) := Lib.hid (by
          rw [HE.out, List.length_append, txC_append]
          exact ho6)
        have HB6 : Hid (Below w1.heap.size w1 w6) := Lib.hid ((HB3.out.alloc hsz3 _).grown g6 (Nat.le_trans hsz3 (by simp)) (fun j hj => ((HO3.out.lt j hj).1)))
        clear ho6 g6
        go_wp2_with fail
        go_roundw
        case rel => exact ⟨k + 1, by go_num, by omega, HO6, HB6⟩
        case measure => simp [intOf]; omega
    · obtain rfl : k = 5 := by omega
      have HO7 := Lib.hid (TxR.of_own Ho.out)
      have HB7 := Lib.hid (HB.out.trans (Hb.out.mono HB.out.size))
      go_wp2_with fail
      go_ret
      exact ⟨_, rfl, HO7.out, HB7.out⟩
end Go.Proofs.YtalnojpdkiimpaaDoor

/- The program's chapter 8: the shortest kinds. -/
namespace Go.Proofs.YtalnojpdkiimpaaDoor
open Go.RowKit
set_option linter.unusedVariables false
set_option maxRecDepth 100000
theorem shS_take (L : List Tx) (k : Nat) (h : k < L.length) : (L.take (k + 1)).foldl shS ([], 0) = shS ((L.take k).foldl shS ([], 0)) L[k] := by
  rw [List.take_succ_eq_append_getElem h, List.foldl_append]
  rfl
set_option maxHeartbeats 4000000 in
theorem iChangeShort_any (n : Int) (w : World) (hT : TB w) (hn : I64Ok n) : Calls Tryd.prog 13 #[.int .i64 n] w fun e w' => e = .returned (shV n) ∧ Below w.heap.size w w' := by
  have C := Lib.hid (textsOf_any n w hn hT)
  have HV : Hid (shV n = .tuple #[.string ⟨((txs n 5).foldl shS ([], 0)).1.toArray⟩, .bool (((txs n 5).foldl shS ([], 0)).1 != [])]) := Lib.hid (by rw [← shN_txs]; rfl)
  have Hok := Lib.hid (txs_ok n 5 (Nat.le_refl _))
  have hlen := txs_len n 5
  generalize txs n 5 = L at *
  generalize shV n = R at *
  clear hT hn
  go_enter Tryd.func13, Tryd.ntmps13
  go_wp2_with fail
  refine C.out.mono ?_
  rintro e w1 ⟨v, rfl, hv, hB⟩
  obtain ⟨a, cap, rfl, hc⟩ := hv
  have Hc := Lib.hid hc; have HB := Lib.hid hB; clear hc hB C
  go_wp2_with fail
  go_loopw [4, 5, 12] (fun o b i wr => ∃ (k B : Nat) (O : List UInt8), k ≤ L.length ∧ O.length ≤ k ∧ B ≤ 59 ∧ i = .int .i64 k ∧ o = .string ⟨O.toArray⟩ ∧ b = .int .i64 B ∧ Hid ((L.take k).foldl shS ([], 0) = (O, B)) ∧ Hid (Below w1.heap.size w1 wr)) (fun _ _ i _ => L.length - (intOf i).toNat)
  case atStart => exact ⟨0, 0, [], by omega, by simp, by omega, rfl, rfl, rfl, Lib.hid rfl, Lib.hid (Below.refl _ _)⟩
  case round =>
    obtain ⟨k, B, O, hk, hO, hB, rfl, rfl, rfl, HS, HW⟩ := hrel
    by_cases hlt : k < L.length
    · obtain ⟨b, rfl, hbB, hc1, hc2⟩ := Hc.out k hlt
      have hd1 := (HW.out.cell (p := ⟨b, k * 2, none⟩) hbB).trans hc1
      have hd2 := (HW.out.cell (p := ⟨b, k * 2 + 1, none⟩) hbB).trans hc2
      have hsz := HW.out.size
      have HB1 : Hid (Below w1.heap.size w1 (wr.alloc (.cells #[.string ⟨L[k].1.toArray⟩, .string ⟨L[k].2.toArray⟩] TxT))) := Lib.hid (HW.out.alloc hsz _)
      have hst := shS_take L k hlt
      rw [HS.out] at hst
      obtain ⟨g1, g2⟩ := Hok.out L[k] (List.getElem_mem hlt)
      generalize L[k] = p at *
      obtain ⟨c, t⟩ := p
      simp only at hd1 hd2 g1 g2 HB1
      have Hst : Hid ((L.take (k + 1)).foldl shS ([], 0) = if O = [] ∨ t.length < B then (c, t.length) else if t.length = B then (O ++ c, t.length) else (O, B)) := Lib.hid hst
      clear hst hc1 hc2
      by_cases h1 : O = []
      · subst h1
        have HS2 : Hid ((L.take (k + 1)).foldl shS ([], 0) = (c, t.length)) := Lib.hid (by rw [Hst.out, if_pos (.inl rfl)])
        clear Hst
        go_wp2_with fail
        go_roundw
        case rel => exact ⟨k + 1, t.length, c, by omega, by omega, g2, by go_num, rfl, rfl, HS2, HB1⟩
        case measure => simp [intOf]; omega
      · have q1 : (O == []) = false := by rw [beq_eq_false_iff_ne]; exact h1
        by_cases h2 : t.length < B
        · have HS2 : Hid ((L.take (k + 1)).foldl shS ([], 0) = (c, t.length)) := Lib.hid (by rw [Hst.out, if_pos (.inr h2)])
          have j2 : (t.length : Int) < (B : Int) := by omega
          clear h1 Hst
          go_wp2_with fail
          go_roundw
          case rel => exact ⟨k + 1, t.length, c, by omega, by omega, g2, by go_num, rfl, rfl, HS2, HB1⟩
          case measure => simp [intOf]; omega
        · have j2 : ¬ (t.length : Int) < (B : Int) := by omega
          by_cases h3 : t.length = B
          · have HS2 : Hid ((L.take (k + 1)).foldl shS ([], 0) = (O ++ c, B)) := Lib.hid (by rw [Hst.out, if_neg (fun h => h.elim h1 h2), if_pos h3, h3])
            have HC := Lib.hid (cat_bytes O c)
            have l1 : ¬ 9223372036854775807 < O.length + c.length := by omega
            have j3 : ((t.length : Int) == (B : Int)) = true := by rw [beq_iff_eq]; omega
            clear h1 Hst
            go_wp2_with fail
            go_roundw
            case rel => exact ⟨k + 1, B, O ++ c, by omega, by rw [List.length_append]; omega, hB, by go_num, congrArg Value.string HC.out, rfl, HS2, HB1⟩
            case measure => simp [intOf]; omega
          · have HS2 : Hid ((L.take (k + 1)).foldl shS ([], 0) = (O, B)) := Lib.hid (by rw [Hst.out, if_neg (fun h => h.elim h1 h2), if_neg h3])
            have j3 : ((t.length : Int) == (B : Int)) = false := by rw [beq_eq_false_iff_ne]; omega
            clear h1 Hst
            go_wp2_with fail
            go_roundw
            case rel => exact ⟨k + 1, B, O, by omega, by omega, hB, by go_num, rfl, rfl, HS2, HB1⟩
            case measure => simp [intOf]; omega
    · obtain rfl : k = L.length := by omega
      have hs := HS.out
      rw [List.take_length] at hs
      rw [hs] at HV
      have HB7 := Lib.hid (HB.out.trans (HW.out.mono HB.out.size))
      clear hs
      by_cases h1 : O = []
      · subst h1
        go_wp2_with fail
        go_ret2
        exact ⟨rret HV.out.symm, HB7.out⟩
      · have q1 : (O == []) = false := by rw [beq_eq_false_iff_ne]; exact h1
        have q2 : (O != []) = true := by rw [bne_iff_ne]; exact h1
        rw [show ((O, B) : List UInt8 × Nat).1 = O from rfl, q2] at HV
        clear h1 q2
        go_wp2_with fail
        go_ret2
        exact ⟨rret HV.out.symm, HB7.out⟩
end Go.Proofs.YtalnojpdkiimpaaDoor

/- The exact laws of chapter 8: their walks (printed by geny.py). -/
namespace Go.Proofs.YtalnojpdkiimpaaDoor
open Go.RowKit
set_option linter.unusedVariables false
set_option maxRecDepth 100000
set_option maxHeartbeats 2000000 in
theorem wFnExactChangeOf (s0 : ByteArray) (x : Int) (u0 : World) (h0 : s0.size ≤ maxLen) (hx : (Lit.int .i64 x).wf = true) (hTB : TB u0) : Calls Tryd.prog 5 #[.string s0, .int .i64 x] u0 fun e w' => e = .returned (.bool true) ∧ Below u0.heap.size u0 w' := by
  have HR := Lib.hid hTB; clear hTB
  have wf0 := Lib.hid (i64_ok8 hx); clear hx
  obtain ⟨l, rfl, e0⟩ := bytes_list8 s0
  have E0 := Lib.hid e0; unfold maxLen at h0; clear e0
  by_cases b0 : 1048576 < l.length
  · have c0 : 1048576 < (⟨l.toArray⟩ : ByteArray).size := by rw [E0.out]; exact b0
    have d0 : l.length ≤ 9223372036854775807 := by rw [E0.out] at h0; exact h0
    go_enter Tryd.func5, Tryd.ntmps5
    go_wp2_with fail
    go_ret
    exact ⟨rfl, Below.refl _ _⟩
  have c0 : ¬ 1048576 < (⟨l.toArray⟩ : ByteArray).size := by rw [E0.out]; exact b0
  have q0 : l.length ≤ 1048576 := by omega
  have C1 := Lib.hid (fun (w : World) (_ : TB w) => sChangeOf_any l x w)
  have C2 := Lib.hid (fun (w : World) (hR : TB w) => iChangeOf_any l x w hR wf0.out q0)
  obtain ⟨v, b, hv⟩ := oV_val (chO l x)
  rw [hv] at C1 C2
  clear h0 b0 hv
  go_enter Tryd.func5, Tryd.ntmps5
  go_wp2_with fail
  refine (C1.out _ HR.out).mono ?_
  rintro e u1 ⟨rfl, hb⟩
  have HR1 := Lib.hid (TB.step HR.out hb)
  have G1 := Lib.hid hb; clear hb C1
  go_wp2_with fail
  refine (C2.out _ HR1.out).mono ?_
  rintro e u2 ⟨rfl, hb⟩
  have G2 := Lib.hid (bel_chain G1.out hb); clear hb C2 G1
  go_wp2_with fail
  go_ret
  exact ⟨rfl, G2.out⟩
set_option maxHeartbeats 2000000 in
theorem wFnExactChangeLength (s0 : ByteArray) (x : Int) (u0 : World) (h0 : s0.size ≤ maxLen) (hx : (Lit.int .i64 x).wf = true) (hTB : TB u0) : Calls Tryd.prog 6 #[.string s0, .int .i64 x] u0 fun e w' => e = .returned (.bool true) ∧ Below u0.heap.size u0 w' := by
  have HR := Lib.hid hTB; clear hTB
  have wf0 := Lib.hid (i64_ok8 hx); clear hx
  obtain ⟨l, rfl, e0⟩ := bytes_list8 s0
  have E0 := Lib.hid e0; unfold maxLen at h0; clear e0
  by_cases b0 : 1048576 < l.length
  · have c0 : 1048576 < (⟨l.toArray⟩ : ByteArray).size := by rw [E0.out]; exact b0
    have d0 : l.length ≤ 9223372036854775807 := by rw [E0.out] at h0; exact h0
    go_enter Tryd.func6, Tryd.ntmps6
    go_wp2_with fail
    go_ret
    exact ⟨rfl, Below.refl _ _⟩
  have c0 : ¬ 1048576 < (⟨l.toArray⟩ : ByteArray).size := by rw [E0.out]; exact b0
  have q0 : l.length ≤ 1048576 := by omega
  have C1 := Lib.hid (fun (w : World) (_ : TB w) => sChangeLength_any l x w)
  have C2 := Lib.hid (fun (w : World) (hR : TB w) => iChangeLength_any l x w hR wf0.out q0)
  obtain ⟨v, b, hv⟩ := iV_val (lnO l x)
  rw [hv] at C1 C2
  clear h0 b0 hv
  go_enter Tryd.func6, Tryd.ntmps6
  go_wp2_with fail
  refine (C1.out _ HR.out).mono ?_
  rintro e u1 ⟨rfl, hb⟩
  have HR1 := Lib.hid (TB.step HR.out hb)
  have G1 := Lib.hid hb; clear hb C1
  go_wp2_with fail
  refine (C2.out _ HR1.out).mono ?_
  rintro e u2 ⟨rfl, hb⟩
  have G2 := Lib.hid (bel_chain G1.out hb); clear hb C2 G1
  go_wp2_with fail
  go_ret
  exact ⟨rfl, G2.out⟩
set_option maxHeartbeats 2000000 in
theorem wFnExactChangeShort (x : Int) (u0 : World) (hx : (Lit.int .i64 x).wf = true) (hTB : TB u0) : Calls Tryd.prog 7 #[.int .i64 x] u0 fun e w' => e = .returned (.bool true) ∧ Below u0.heap.size u0 w' := by
  have HR := Lib.hid hTB; clear hTB
  have wf0 := Lib.hid (i64_ok8 hx); clear hx
  have C1 := Lib.hid (fun (w : World) (_ : TB w) => sChangeShort_any x w)
  have C2 := Lib.hid (fun (w : World) (hR : TB w) => iChangeShort_any x w hR wf0.out)
  have hv : shV x = .tuple #[.string ⟨(shN x 5).1.toArray⟩, .bool ((shN x 5).1 != [])] := rfl
  rw [hv] at C1 C2
  generalize (⟨(shN x 5).1.toArray⟩ : ByteArray) = v at *
  generalize ((shN x 5).1 != []) = b at *
  clear hv
  go_enter Tryd.func7, Tryd.ntmps7
  go_wp2_with fail
  refine (C1.out _ HR.out).mono ?_
  rintro e u1 ⟨rfl, hb⟩
  have HR1 := Lib.hid (TB.step HR.out hb)
  have G1 := Lib.hid hb; clear hb C1
  go_wp2_with fail
  refine (C2.out _ HR1.out).mono ?_
  rintro e u2 ⟨rfl, hb⟩
  have G2 := Lib.hid (bel_chain G1.out hb); clear hb C2 G1
  go_wp2_with fail
  go_ret
  exact ⟨rfl, G2.out⟩
end Go.Proofs.YtalnojpdkiimpaaDoor

/- The drawn laws of chapter 8: their walks (printed by genyk.py). -/
namespace Go.Proofs.YtalnojpdkiimpaaDoor
open Go.RowKit
set_option linter.unusedVariables false
set_option maxRecDepth 100000
set_option maxHeartbeats 4000000 in
theorem wFnLength (a : Option Addr) (len cap : Nat) (z : List Int) (u0 : World) (h0 : IsRow .u8 u0 a len cap z) (hTB : TB u0) : Calls Tryd.prog 3 #[.slice a len cap] u0 fun e w' => e = .returned (.bool true) ∧ Below u0.heap.size u0 w' := by
  have H0 := Lib.hid h0; have HR := Lib.hid hTB; clear h0 hTB
  by_cases big : 1048576 < len
  · go_enter Tryd.func3, Tryd.ntmps3
    go_wp2_with fail
    go_ret
    exact ⟨rfl, Below.refl _ _⟩
  go_enter Tryd.func3, Tryd.ntmps3
  go_wp2_with fail
  refine (drawChangeLength_any a len cap z _ H0.out).mono ?_
  rintro e u1 ⟨ks, n, hks, hn0, hn1, rfl, hb⟩
  have HR1 := Lib.hid (TB.step HR.out hb)
  have G1 := Lib.hid hb; clear hb H0 big HR
  obtain ⟨K, rfl, hKl⟩ := bytes_list8 ks
  have hK : K.length ≤ 1048576 := by omega
  clear hKl hks
  have C1 := Lib.hid (fun (w : World) (h : TB w) => iChangeLength_any K n w h ⟨by omega, by omega⟩ hK)
  have C2 := Lib.hid (fun (w : World) (_ : TB w) => sChangeLength_any K n w)
  obtain ⟨x, b, hx, h1, h2⟩ := oV_two (chO K n)
  cases b with
  | true =>
    have hv : iV (lnO K n) = .tuple #[.int .i64 x.length, .bool true] := by unfold lnO; rw [h1 rfl]; rfl
    obtain ⟨hl1, hl2⟩ := chO_len K n x (h1 rfl)
    have C3 := Lib.hid (fun (w : World) (h : TB w) => iChangeOf_any K n w h ⟨by omega, by omega⟩ hK)
    rw [hv] at C1 C2
    rw [hx] at C3
    have hz : (1 : Int) ≤ (x.length : Int) := by omega
    clear hx h1 h2 hv
    go_wp2_with fail
    refine (C1.out _ HR1.out).mono ?_
    rintro e u2 ⟨rfl, hb⟩
    have HR2 := Lib.hid (TB.step HR1.out hb)
    have G2 := Lib.hid (bel_chain G1.out hb); clear hb C1
    go_wp2_with fail
    refine (C2.out _ HR2.out).mono ?_
    rintro e u3 ⟨rfl, hb⟩
    have HR3 := Lib.hid (TB.step HR2.out hb)
    have G3 := Lib.hid (bel_chain G2.out hb); clear hb C2
    go_wp2_with fail
    refine (C3.out _ HR3.out).mono ?_
    rintro e u4 ⟨rfl, hb⟩
    have HR4 := Lib.hid (TB.step HR3.out hb)
    have G4 := Lib.hid (bel_chain G3.out hb); clear hb C3
    go_wp2_with fail
    go_ret
    exact ⟨rfl, G4.out⟩
  | false =>
    have hv : iV (lnO K n) = .tuple #[.int .i64 0, .bool false] := by unfold lnO; rw [(h2 rfl).1]; rfl
    rw [hv] at C1 C2
    clear hx h1 h2 hv
    go_wp2_with fail
    refine (C1.out _ HR1.out).mono ?_
    rintro e u2 ⟨rfl, hb⟩
    have HR2 := Lib.hid (TB.step HR1.out hb)
    have G2 := Lib.hid (bel_chain G1.out hb); clear hb C1
    go_wp2_with fail
    refine (C2.out _ HR2.out).mono ?_
    rintro e u3 ⟨rfl, hb⟩
    have HR3 := Lib.hid (TB.step HR2.out hb)
    have G3 := Lib.hid (bel_chain G2.out hb); clear hb C2
    go_wp2_with fail
    go_ret
    exact ⟨rfl, G3.out⟩
set_option maxHeartbeats 4000000 in
theorem wFnChangeShort (a : Option Addr) (len cap : Nat) (z : List Int) (u0 : World) (h0 : IsRow .u8 u0 a len cap z) (hTB : TB u0) : Calls Tryd.prog 4 #[.slice a len cap] u0 fun e w' => e = .returned (.bool true) ∧ Below u0.heap.size u0 w' := by
  have H0 := Lib.hid h0; have HR := Lib.hid hTB; clear h0 hTB
  by_cases big : 1048576 < len
  · go_enter Tryd.func4, Tryd.ntmps4
    go_wp2_with fail
    go_ret
    exact ⟨rfl, Below.refl _ _⟩
  go_enter Tryd.func4, Tryd.ntmps4
  go_wp2_with fail
  refine (drawChangeShort_any a len cap z _ H0.out).mono ?_
  rintro e u1 ⟨n, hn0, hn1, rfl, hb⟩
  have HR1 := Lib.hid (TB.step HR.out hb)
  have G1 := Lib.hid hb; clear hb H0 big HR
  have C1 := Lib.hid (fun (w : World) (h : TB w) => iChangeShort_any n w h ⟨by omega, by omega⟩)
  have C2 := Lib.hid (fun (w : World) (_ : TB w) => sChangeShort_any n w)
  rw [show shV n = .tuple #[.string ⟨(shN n 5).1.toArray⟩, .bool ((shN n 5).1 != [])] from rfl] at C1 C2
  have hi := shN_inv n 5 (Nat.le_refl _)
  have hOl := shN_len n 5
  have HL := Lib.hid (fun i hi hO => shN_law n i hi hO)
  have hB := shN_bd n 5
  have hn64 : I64Ok n := ⟨by omega, by omega⟩
  have HN := Lib.hid hn64; clear hn64
  generalize (shN n 5).1 = O at *
  generalize (shN n 5).2 = B at *
  by_cases hO : O = []
  · subst hO
    rw [show (([] : List UInt8) != []) = false from rfl] at C1 C2
    clear hi HL
    go_wp2_with fail
    refine (C1.out _ HR1.out).mono ?_
    rintro e u2 ⟨rfl, hb⟩
    have HR2 := Lib.hid (TB.step HR1.out hb)
    have G2 := Lib.hid (bel_chain G1.out hb); clear hb C1
    go_wp2_with fail
    refine (C2.out _ HR2.out).mono ?_
    rintro e u3 ⟨rfl, hb⟩
    have HR3 := Lib.hid (TB.step HR2.out hb)
    have G3 := Lib.hid (bel_chain G2.out hb); clear hb C2
    go_wp2_with fail
    go_ret
    exact ⟨rfl, G3.out⟩
  · obtain ⟨j0, hj0, ht, hl0⟩ := hi.first hO
    have HL := Lib.hid (fun i hi => HL.out i hi hO)
    have hne : (O != []) = true := by rw [bne_iff_ne]; exact hO
    have hpos : 1 ≤ O.length := List.length_pos_iff.2 hO
    rw [hne] at C1 C2
    have C3 : Hid (∀ w : World, TB w → Calls Tryd.prog 9 #[.string ((⟨O.toArray⟩ : ByteArray).extract 0 1), .int .i64 n] w fun e w' => e = .returned (.tuple #[.int .i64 B, .bool true]) ∧ Below w.heap.size w w') := Lib.hid fun w h => by
      have := iChangeLength_any [kb j0] n w h HN.out (by show 1 ≤ 1048576; decide)
      rw [hl0] at this
      rw [(ext_take O 1).1, ht]
      exact this
    have C4 := Lib.hid (fun (i : Nat) (hi : i < 5) (w : World) (h : TB w) => (show Calls Tryd.prog 9 #[.string ((⟨#[114, 97, 99, 107, 100]⟩ : ByteArray).extract i (i + 1)), .int .i64 n] w fun e w' => e = .returned (iV (lnO [kb i] n)) ∧ Below w.heap.size w w' from by rw [kcut i hi]; exact iChangeLength_any [kb i] n w h HN.out (by show 1 ≤ 1048576; decide)))
    clear hi hj0 ht hl0 hne hO
    go_wp2_with fail
    refine (C1.out _ HR1.out).mono ?_
    rintro e u2 ⟨rfl, hb⟩
    have HR2 := Lib.hid (TB.step HR1.out hb)
    have G2 := Lib.hid (bel_chain G1.out hb); clear hb C1
    go_wp2_with fail
    refine (C2.out _ HR2.out).mono ?_
    rintro e u3 ⟨rfl, hb⟩
    have HR3 := Lib.hid (TB.step HR2.out hb)
    have G3 := Lib.hid (bel_chain G2.out hb); clear hb C2
    go_wp2_with fail
    refine (C3.out _ HR3.out).mono ?_
    rintro e u4 ⟨rfl, hb⟩
    have HR4 := Lib.hid (TB.step HR3.out hb)
    have G4 := Lib.hid (bel_chain G3.out hb); clear hb C3
    go_wp2_with fail
    go_loopw [11] (fun i wr => ∃ k : Nat, k ≤ 5 ∧ i = .int .i64 k ∧ Hid (TB wr) ∧ Hid (Below u0.heap.size u0 wr)) (fun i _ => 5 - (intOf i).toNat)
    case atStart => exact ⟨0, by omega, rfl, HR4, G4⟩
    case round =>
      obtain ⟨k, hk, rfl, HT, HW⟩ := hrel
      by_cases hlt : k < 5
      · have i1 : (k : Int) < 5 := by omega
        have D := Lib.hid (fun w h => C4.out k hlt w h)
        obtain ⟨hs, hno⟩ := HL.out k hlt
        have hkb : ∀ hix, ((((⟨#[114, 97, 99, 107, 100]⟩ : ByteArray)[k]'hix).toNat : Int)) = ((kb k).toNat : Int) := fun hix => kbyte k hlt hix
        have hs2 : k < (⟨#[114, 97, 99, 107, 100]⟩ : ByteArray).size := hlt
        obtain ⟨q, b, hv, hq⟩ : ∃ (q : Nat) (b : Bool), iV (lnO [kb k] n) = .tuple #[.int .i64 q, .bool b] ∧ ((b = true ∧ (kb k ∈ O → q = B) ∧ (kb k ∉ O → B < q)) ∨ (b = false ∧ kb k ∉ O)) := by
          cases ho : lnO [kb k] n with
          | none => exact ⟨0, false, rfl, .inr ⟨rfl, hno ho⟩⟩
          | some q => exact ⟨q, true, rfl, .inl ⟨rfl, hs q ho⟩⟩
        rw [hv] at D
        have HQ := Lib.hid hq
        clear hs hno hv hq
        go_wp2_with fail
        refine (D.out _ HT.out).mono ?_
        rintro e u5 ⟨rfl, g2⟩
        have HT2 := Lib.hid (TB.step HT.out g2)
        have HW2 := Lib.hid (HW.out.trans (g2.mono HW.out.size)); clear g2
        go_wp2_with fail
        go_loopw [14, 15] (fun x j wz => ∃ m : Nat, m ≤ O.length ∧ j = .int .i64 m ∧ x = .bool ((O.take m).contains (kb k)) ∧ Hid (TB wz) ∧ Hid (Below u0.heap.size u0 wz)) (fun _ j _ => O.length - (intOf j).toNat)
        case atStart => exact ⟨0, by omega, rfl, rfl, HT2, HW2⟩
        case round =>
          obtain ⟨m, hm, rfl, rfl, HT3, HW3⟩ := hrel
          by_cases hml : m < O.length
          · have m1 : (m : Int) < (O.length : Int) := by omega
            have hsz : m < (⟨O.toArray⟩ : ByteArray).size := hml
            obtain ⟨c, hc⟩ : ∃ c, O[m] = c := ⟨_, rfl⟩
            have hb1 : ∀ hix, ((((⟨O.toArray⟩ : ByteArray)[m]'hix).toNat : Int)) = (c.toNat : Int) := fun hix => rbytes_at O m hml c hc hix
            have HC : Hid ((O.take (m + 1)).contains (kb k) = ((O.take m).contains (kb k) || (kb k == c))) := Lib.hid (by
              rw [List.take_succ_eq_append_getElem hml, hc, Bool.eq_iff_iff]
              simp)
            clear hc
            cases hcon : (O.take m).contains (kb k) with
            | true =>
              rw [hcon, Bool.true_or] at HC
              go_wp2_with fail
              go_quiet (fail)
              go_wp2_with fail
              go_roundw
              case rel => exact ⟨m + 1, by omega, by go_num, by rw [HC.out], Lib.hid (TB.step HT3.out (bel_drewN (Below.refl _ _) _)), Lib.hid (bel_drewN HW3.out _)⟩
              case measure => simp [intOf]; omega
            | false =>
              rw [hcon, Bool.false_or] at HC
              by_cases hcd : kb k = c
              · subst hcd
                rw [show (kb k == kb k) = true from beq_self_eq_true _] at HC
                go_wp2_with fail
                go_quiet (fail)
                go_wp2_with fail
                go_roundw
                case rel => exact ⟨m + 1, by omega, by go_num, by rw [HC.out], Lib.hid (TB.step HT3.out (bel_drewN (Below.refl _ _) _)), Lib.hid (bel_drewN HW3.out _)⟩
                case measure => simp [intOf]; omega
              · rw [show (kb k == c) = false by rw [beq_eq_false_iff_ne]; exact hcd] at HC
                have hcn : ((c.toNat : Int) == ((kb k).toNat : Int)) = false := by
                  rw [beq_eq_false_iff_ne]
                  intro e
                  exact hcd (UInt8.toNat_inj.1 (by omega))
                clear hcd
                go_wp2_with fail
                go_quiet (fail)
                go_wp2_with fail
                go_roundw
                case rel => exact ⟨m + 1, by omega, by go_num, by rw [HC.out], Lib.hid (TB.step HT3.out (bel_drewN (Below.refl _ _) _)), Lib.hid (bel_drewN HW3.out _)⟩
                case measure => simp [intOf]; omega
          · obtain rfl : m = O.length := by omega
            rw [List.take_length]
            have hmem : O.contains (kb k) = true ↔ kb k ∈ O := by simp
            rcases HQ.out with ⟨rfl, hq1, hq2⟩ | ⟨rfl, hq1⟩
            · by_cases hc : kb k ∈ O
              · rw [hmem.2 hc]
                obtain rfl := hq1 hc
                clear hq2 hmem
                go_wp2_with fail
                go_roundw
                case rel => exact ⟨k + 1, by omega, by go_num, HT3, HW3⟩
                case measure => simp [intOf]; omega
              · rw [show O.contains (kb k) = false by rw [Bool.eq_false_iff]; exact fun h => hc (hmem.1 h)]
                have hlt2 := hq2 hc
                have hz : ¬ (q : Int) ≤ (B : Int) := by omega
                clear hq1 hq2 hmem
                go_wp2_with fail
                go_roundw
                case rel => exact ⟨k + 1, by omega, by go_num, HT3, HW3⟩
                case measure => simp [intOf]; omega
            · rw [show O.contains (kb k) = false by rw [Bool.eq_false_iff]; exact fun h => hq1 (hmem.1 h)]
              clear hmem
              go_wp2_with fail
              go_roundw
              case rel => exact ⟨k + 1, by omega, by go_num, HT3, HW3⟩
              case measure => simp [intOf]; omega
      · obtain rfl : k = 5 := by omega
        go_wp2_with fail
        go_ret
        exact ⟨rfl, HW.out⟩
end Go.Proofs.YtalnojpdkiimpaaDoor

/- Closed facts about the whole program that hang on the words of its head alone: the head's text is taken as a list of signs, so that nothing runs over its bytes. -/
namespace Go.Proofs.YtalnojpdkiimpaaDoor
theorem ws_space (r : List Char) : wordsSigns (Char.ofNat 32 :: r) = [] :: wordsSigns r := rfl
theorem ws_char (c : Char) (h : c ≠ Char.ofNat 32) (r : List Char) : wordsSigns (c :: r) = (match wordsSigns r with | w :: ws => (c :: w) :: ws | [] => [[c]]) := by
  rw [wordsSigns]
  · rfl
  · exact h
theorem ws_word : ∀ (w r : List Char), (w.all fun c => c != Char.ofNat 32) = true → wordsSigns (w ++ Char.ofNat 32 :: r) = w :: wordsSigns r
  | [], r, _ => ws_space r
  | c :: w, r, h => by
    simp only [List.all_cons, Bool.and_eq_true, bne_iff_ne] at h
    rw [List.cons_append, ws_char c h.1, ws_word w r h.2]
/-- does the head begin with a harness, its sum and a cut? -/
def headOk (L : List Char) : Bool :=
  L.take 8 == "harness".toList ++ [Char.ofNat 32] && ((L.drop 8).take 64).all (fun c => c != Char.ofNat 32) && isSumSigns ((L.drop 8).take 64) && (L.drop 72).take 5 == Char.ofNat 32 :: ("cut".toList ++ [Char.ofNat 32])
theorem words_of (s : String) (L : List Char) (h : s = String.ofList L) (hc : headOk L = true) : ∃ rest, behindMainWord (wordsSigns s.toList) = "cut".toList :: rest := by
  subst h
  rw [String.toList_ofList]
  simp only [headOk, Bool.and_eq_true, beq_iff_eq] at hc
  obtain ⟨⟨⟨h1, h2⟩, h3⟩, h4⟩ := hc
  have e : L = "harness".toList ++ Char.ofNat 32 :: ((L.drop 8).take 64 ++ Char.ofNat 32 :: ("cut".toList ++ Char.ofNat 32 :: L.drop 77)) := by
    have e1 := List.take_append_drop 8 L
    have e2 := List.take_append_drop 64 (L.drop 8)
    have e3 := List.take_append_drop 5 (L.drop 72)
    rw [List.drop_drop] at e2 e3
    rw [h1] at e1
    rw [h4] at e3
    conv => lhs; rw [← e1, ← e2, ← e3]
    simp
  generalize (L.drop 8).take 64 = S at *
  generalize L.drop 77 = r at *
  rw [e, ws_word _ _ (by decide), ws_word _ _ h2, ws_word _ _ (by decide)]
  refine ⟨wordsSigns r, ?_⟩
  unfold behindMainWord
  simp only [h3]
  rfl
theorem main_of (P : Program) (S L : List Char) (h : P.initOrder = String.ofList L) (hc : headOk L = true) (hS : (L.drop 8).take 64 = S) : P.mainIs = some (true, S) := by
  unfold Program.mainIs
  rw [h, String.toList_ofList]
  clear h
  subst hS
  simp only [headOk, Bool.and_eq_true, beq_iff_eq] at hc
  obtain ⟨⟨⟨h1, h2⟩, h3⟩, h4⟩ := hc
  have e : L = "harness".toList ++ Char.ofNat 32 :: ((L.drop 8).take 64 ++ Char.ofNat 32 :: ("cut".toList ++ Char.ofNat 32 :: L.drop 77)) := by
    have e1 := List.take_append_drop 8 L
    have e2 := List.take_append_drop 64 (L.drop 8)
    have e3 := List.take_append_drop 5 (L.drop 72)
    rw [List.drop_drop] at e2 e3
    rw [h1] at e1
    rw [h4] at e3
    conv => lhs; rw [← e1, ← e2, ← e3]
    simp
  generalize (L.drop 8).take 64 = S at *
  generalize L.drop 77 = r at *
  rw [e, ws_word _ _ (by decide), ws_word _ _ h2, ws_word _ _ (by decide)]
  simp only [h3]
  rfl
set_option maxRecDepth 100000 in
theorem fact_words : ∃ rest, behindMainWord (wordsSigns Tryd.prog.initOrder.toList) = "cut".toList :: rest := words_of _ _ rfl (by kernel_rfl)
theorem enter_of (P : Program) (rest : List (List Char)) (h : behindMainWord (wordsSigns P.initOrder.toList) = "cut".toList :: rest) (h1 : P.laysLater = false) (h2 : P.bearsReflect = false) (h3 : P.doorFits [] = true) : P.mayEnter = true := by
  have e1 : (stripLifts liftWords ("cut".toList :: rest)).1 = [] := by rfl
  have e2 : (stripLifts liftWords ("cut".toList :: rest)).2 = "cut".toList :: rest := by rfl
  unfold Program.mayEnter
  rw [h]
  simp only [e1, e2, h1, h2, h3]
  rfl
theorem lifts_of (P : Program) (rest : List (List Char)) (h : behindMainWord (wordsSigns P.initOrder.toList) = "cut".toList :: rest) : P.liftsFinal = false := by
  have e1 : (stripLifts liftWords ("cut".toList :: rest)).1 = [] := by rfl
  have e2 : (stripLifts liftWords ("cut".toList :: rest)).2 = "cut".toList :: rest := by rfl
  unfold Program.liftsFinal Program.headLifts
  rw [h]
  simp only [e1, e2]
  rfl
theorem make_of (P : Program) (rest : List (List Char)) (h : behindMainWord (wordsSigns P.initOrder.toList) = "cut".toList :: rest) : P.make = some .cut := by
  unfold Program.make
  rw [h]
  rfl
theorem fact_lays : Tryd.prog.laysLater = false := by kernel_rfl
theorem fact_bears : Tryd.prog.bearsReflect = false := by kernel_rfl
theorem fact_door : Tryd.prog.doorFits [] = true := by kernel_rfl
theorem fact_enter : Tryd.prog.mayEnter = true := fact_words.elim fun r h => enter_of _ r h fact_lays fact_bears fact_door
theorem fact_lifts : Tryd.prog.liftsFinal = false := fact_words.elim fun r h => lifts_of _ r h
theorem fact_make : Tryd.prog.make = some .cut := fact_words.elim fun r h => make_of _ r h
end Go.Proofs.YtalnojpdkiimpaaDoor

/- The wrap of a law whose row lists tables that the walk does not read, the world's shape kept: nothing of one program. -/
namespace Go.Proofs.YtalnojpdkiimpaaDoor
theorem handed_both {H : Type} {enc : TypeId × Value → H} {C : Checked} {os : Os} {f : FuncId} {fn : Func} {s : ChangeSpec} {laid : List (String × DataW Unit)}
    (own : ownKnob C.prog.godebug = none) (started : os.Started) (noInit : C.prog.inits.idxOf? f = none) (hfn : C.prog.funcs[f]? = some fn)
    (witness : ∃ (w : World) (tape : Tape) (i : Input), w.os = os ∧ (w.forCall tape i).Shaped C.prog ∧ i.vars = [] ∧ Input.okWide C.prog (w.forCall tape i) .any w.heap.size f i ∧
      ((s.pre enc C.prog fn [] false (w.forCall tape i).memory i.args ∧ laidMetH C.prog laid (w.forCall tape i).memory) ∧ sizedMet enc C.prog fn (OpenSpec.ofChange s) false (w.forCall tape i).memory i.args) ∧ Assume.holds {} C.prog (lone (Frame.enter C.prog f i.args .normal) [] (w.forCall tape i)))
    (contract : ∀ (W : World) (base : Nat) (args : Array Value) (ds gs : List (DataW H)) (before : List MemPlace),
      (∀ (j : Nat) t v, fn.params[j]? = some t → args[j]? = some v → Value.okWide C.prog W .any base t v) →
      DataW.Whole enc C.prog fn.params.toList s.vars false W args.toList ds gs before → laidMetH C.prog laid W → W.ShapedOpen C.prog →
      Calls C.prog f args W fun e W' => ∃ v, e = .returned v ∧ s.post enc C.prog fn false true false false W args v W') :
    ReturnsInHanded {} C os f .any (fun w args => (s.pre enc C.prog fn [] false w args ∧ laidMetH C.prog laid w) ∧ sizedMet enc C.prog fn (OpenSpec.ofChange s) false w args) (s.post enc C.prog fn false true false false) := by
  refine returnsInHanded_of_calls own started noInit witness ?_
  intro w tape i _ hsh _ hok hpre _
  obtain ⟨_, _, _, fn', hfn', _, _, _, _, hval⟩ := hok
  obtain rfl : fn' = fn := Option.some.inj (hfn'.symm.trans hfn)
  obtain ⟨⟨⟨ds, gs, before, hw, _⟩, hx⟩, _⟩ := hpre
  refine (contract (w.forCall tape i) w.heap.size i.args ds gs before hval (DataW.Whole.of_heap (w' := w.forCall tape i) (by rfl) hw) (hx.of_heap (by rfl)) hsh).mono fun e W' ⟨v, he, hp⟩ => ?_
  subst he
  exact ChangeSpec.post_blind hp
end Go.Proofs.YtalnojpdkiimpaaDoor

/- Rows that bear 'leaving' over a walk of one goroutine (a function value may lead to a go statement; the walk comes to none), and tied cards that bear 'goes'. Nothing of one program. -/
namespace Go.Proofs.YtalnojpdkiimpaaDoor
theorem leaving_of_handed {a : Assume} {C : Checked} {os : Os} {f : FuncId} {r : Reach} {Pre : World → Array Value → Prop} {Post : World → Array Value → Value → World → Prop} (h : ReturnsInHanded a C os f r Pre Post) :
    ReturnsInLeavingWide a C os f r Pre Post := fun enter =>
  ReturnsInOpen.mono (fun last _ _ x => ⟨x.2.1, ⟨fun g hg => ⟨0, by
    have h1 := x.1.1
    unfold Machine.othersDone at h1
    have := List.all_eq_true.1 h1 g hg
    show g.status = .finished
    simpa using this⟩, x.1.2⟩, x.2.2⟩) (fun _ x => x) (h enter)
theorem goesBy_true (c : OpenClaim) (P : Program) (f : FuncId) (hf : P.funcNamed c.func = some f) (hu : P.unfollowed f = true) (hg : P.funcs.any Func.goes = true) : true = c.goesBy P := by
  unfold OpenClaim.goesBy Program.goesAt Program.goesFrom
  rw [hf]
  have : P.goes f = true := by unfold Program.goes; rw [hu, hg]; simp
  simp [this]
theorem goesBy_false (c : OpenClaim) (P : Program) (f : FuncId) (hf : P.funcNamed c.func = some f) (hs : c.start = .entering) (hg : P.goes f = false) : false = c.goesBy P := by
  unfold OpenClaim.goesBy Program.goesAt Program.goesFrom
  rw [hf, hs]
  simp [hg]
/-- the tied card of a row that may start goroutines -/
theorem tied_goes (Lk : Looks) {p : Pinned} {s : OpenSpec} {c : OpenClaim} (kinds : List LaidKind) (tests : Bool) (har : Bool × String) (lk : Bool)
    (hc : c.holds p s) (hw : c.wfByText s = true) (htie : c.laidByTextAt Lk p kinds tests)
    (hst : c.start = .entering) (hnb : c.noBlocks = false ∧ c.again = false) (hm : p.checked.prog.mainIs = some (har.1, har.2.toList)) (hn : (!har.1 && har.2.isEmpty && !lk) = false)
    (hl : ∀ f fn, p.checked.prog.funcNamed c.func = some f → p.checked.prog.funcs[f]? = some fn → lk = p.checked.prog.looks [] ∧ ∀ (j : Nat) t, fn.params[j]? = some t → p.checked.prog.wantsStandIn t = false)
    (hg : true = c.goesBy p.checked.prog) :
    Claim7.holds p (.plain s) { stood := { row := c, standIns := [], harness := har, looks := lk }, kinds := [], alts := [], goes := true, laidByText := true, laidKinds := kinds, laidTests := tests, laidLooks := Lk } := by
  have h6 : Claim7.isSixth { stood := { row := c, standIns := [], harness := har, looks := lk }, kinds := [] } = false := by simpa [Claim7.isSixth] using hn
  exact ⟨Claim7.tied_new_at Lk kinds tests (Claim7.new_of_sixth hc har lk hst hnb hm h6 hl) hw, (fun _ h => by cases h), htie, (fun h => by cases h), hg⟩
end Go.Proofs.YtalnojpdkiimpaaDoor

/- What the rows' lists of variables give chapter 8's walks. -/
namespace Go.Proofs.YtalnojpdkiimpaaDoor
open Go.RowKit
set_option linter.unusedVariables false
set_option maxRecDepth 100000
theorem tb_at {W : World} (h : LaidItem Tryd.prog W "loop.example/peoplesnumerals/impl.alphaRankValues" Rows.laid_loop_example_peoplesnumerals_impl_alphaRankValues) : AT W := (tab_at h).1
theorem tb_rv {W : World} (h : LaidItem Tryd.prog W "loop.example/peoplesnumerals/impl.rankValues" Rows.laid_loop_example_peoplesnumerals_impl_rankValues) : RV W := (tab_rv h).1
theorem pw_data : (Rows.laid_internal_strconv_uint64pow10 : DataW Unit) = Lib.tabData .u64 Lib.pow10Tab := by rfl
theorem tb_pow {W : World} (h : LaidItem Tryd.prog W "internal/strconv.uint64pow10" Rows.laid_internal_strconv_uint64pow10) : PW W := tb_pw (by rw [← pw_data]; exact h)
end Go.Proofs.YtalnojpdkiimpaaDoor
