/- The model's RomanLoose. -/
import Derived.Test.YthgagidpnnaajaaDoorLL
namespace Go.Proofs.YthgagidpnnaajaaDoor
open Go.RowKit
set_option linter.unusedVariables false
set_option maxRecDepth 100000
theorem sRomanLoose_in (l : List UInt8) (w : World) (h1 : 1 ≤ l.length) (h2 : l.length ≤ 16) : Calls Tryd.prog 21 #[.string ⟨l.toArray⟩] w fun e w' => e = .returned (looseR l) ∧ w = w' := by
  go_enter Tryd.func21, Tryd.ntmps21
  go_wp2_with fail
  refine (l6In_any _ _ _ _).mono ?_
  rintro e w1 ⟨rfl, rfl⟩
  rw [show (decide (1 ≤ (l.length : Int) ∧ (l.length : Int) ≤ 16)) = true from decide_eq_true (by omega)]
  go_wp2_with fail
  go_loop [4, 5] (fun n' i => ∃ (k : Nat) (n : Int), i = .int .i64 k ∧ k ≤ l.length ∧ n' = .int .i64 n ∧ -(1000 * k : Int) ≤ n ∧ n ≤ 1000 * k ∧ n + looseL (l.drop k) = looseL l ∧ okL (l.take k) = true) (fun _ i => l.length - (intOf i).toNat)
  case atStart => exact ⟨0, 0, rfl, by omega, rfl, by omega, by omega, by rw [List.drop_zero]; omega, rfl⟩
  case round =>
    obtain ⟨k, n, rfl, hk, rfl, hn0, hn1, hsum, hok⟩ := hrel
    have Hsum := Lib.hid hsum; have Hok := Lib.hid hok; clear hsum hok
    by_cases hlt : k < l.length
    · obtain ⟨z, hz⟩ : ∃ z, li (l[k].toNat : Int) = z := ⟨_, rfl⟩
      have Hz := Lib.hid hz; clear hz
      have Hdr := Lib.hid (drop_at l k hlt)
      have Hrv : Hid (∀ hix, rv (((⟨l.toArray⟩ : ByteArray)[k]'hix).toNat : Int) = lv z) := fun hix => by
        show rv (l[k].toNat : Int) = _
        rw [rv_li, Hz.out]
      have Htk : Hid (okL (l.take (k + 1)) = decide (z < 7)) := by
        show _ = _
        rw [List.take_succ_eq_append_getElem hlt]
        have e : okL (l.take k ++ [l[k]]) = (okL (l.take k) && okL [l[k]]) := by unfold okL; rw [List.all_append]
        rw [e, Hok.out, okL_cons, Hz.out]
        simp [okL]
      have hz7 : z ≤ 7 := by rw [← Hz.out]; exact li_le _
      by_cases hli : z < 7
      · rw [decide_eq_true hli] at Htk
        have hv1 := lv_pos z hli
        have hv2 := (lv_bd z).2
        have Hstep : Hid (looseL (l.drop k) = bef z (fst1 (l.drop (k + 1))) (looseL (l.drop (k + 1)))) := by
          show _ = _
          rw [Hdr.out, looseL, Hz.out]
        unfold bef at Hstep
        generalize lv z = v at *
        have hv0 : (v == 0) = false := by rw [beq_eq_false_iff_ne]; omega
        by_cases hlast : k + 1 < l.length
        · obtain ⟨y, hy⟩ : ∃ y, li (l[k + 1].toNat : Int) = y := ⟨_, rfl⟩
          have Hy := Lib.hid hy; clear hy
          have Hrv2 : Hid (∀ hix, rv (((⟨l.toArray⟩ : ByteArray)[k + 1]'hix).toNat : Int) = lv y) := fun hix => by
            show rv (l[k + 1].toNat : Int) = _
            rw [rv_li, Hy.out]
          have Hf : Hid (fst1 (l.drop (k + 1)) = y) := by
            show _ = _
            rw [drop_at l (k + 1) hlast]; exact Hy.out
          rw [Hf.out] at Hstep
          generalize lv y = u at *
          by_cases hlt2 : v < u
          · rw [if_pos hlt2] at Hstep
            go_wp2_with fail
            refine (l1Value_any _ _).mono ?_
            rw [Hrv.out]
            rintro e w2 ⟨rfl, rfl⟩
            go_wp2_with fail
            refine (l1Value_any _ _).mono ?_
            rw [Hrv2.out]
            rintro e w2 ⟨rfl, rfl⟩
            go_wp2_with fail
            go_round
            case rel => exact ⟨k + 1, n + -v, by go_num, by omega, by go_num, by omega, by omega, by have := Hsum.out; rw [Hstep.out] at this; omega, Htk.out⟩
            case measure => simp [intOf]; omega
          · rw [if_neg hlt2] at Hstep
            go_wp2_with fail
            refine (l1Value_any _ _).mono ?_
            rw [Hrv.out]
            rintro e w2 ⟨rfl, rfl⟩
            go_wp2_with fail
            refine (l1Value_any _ _).mono ?_
            rw [Hrv2.out]
            rintro e w2 ⟨rfl, rfl⟩
            go_wp2_with fail
            go_round
            case rel => exact ⟨k + 1, n + v, by go_num, by omega, by go_num, by omega, by omega, by have := Hsum.out; rw [Hstep.out] at this; omega, Htk.out⟩
            case measure => simp [intOf]; omega
        · have hl1 : lv 2 = 1 := rfl
          have Hf : Hid (fst1 (l.drop (k + 1)) = 2) := by
            show _ = _
            rw [List.drop_of_length_le (by omega)]; rfl
          rw [Hf.out, hl1, if_neg (by omega)] at Hstep
          clear hl1
          go_wp2_with fail
          refine (l1Value_any _ _).mono ?_
          rw [Hrv.out]
          rintro e w2 ⟨rfl, rfl⟩
          go_wp2_with fail
          go_round
          case rel => exact ⟨k + 1, n + v, by go_num, by omega, by go_num, by omega, by omega, by have := Hsum.out; rw [Hstep.out] at this; omega, Htk.out⟩
          case measure => simp [intOf]; omega
      · have hv : lv z = 0 := by rw [show z = 7 by omega]; rfl
        rw [hv] at Hrv
        have Hfin : Hid (looseR l = .tuple #[.int .i64 0, .bool false]) := by
          show _ = _
          unfold looseR
          rw [if_neg]
          rintro ⟨_, _, h3⟩
          have h4 := okL_drop l k h3
          rw [Hdr.out, okL_cons, Bool.and_eq_true, Hz.out] at h4
          exact hli (of_decide_eq_true h4.1)
        clear hv
        go_wp2_with fail
        refine (l1Value_any _ _).mono ?_
        rw [Hrv.out]
        rintro e w2 ⟨rfl, rfl⟩
        go_wp2_with fail
        go_ret2
        exact ⟨ret_of Hfin.out.symm, rfl⟩
    · obtain rfl : k = l.length := by omega
      have Hfin : Hid (looseR l = .tuple #[.int .i64 n, .bool true]) := by
        show _ = _
        have h3 := Hsum.out
        have h4 := Hok.out
        rw [List.drop_length] at h3
        rw [List.take_length] at h4
        unfold looseR
        rw [if_pos ⟨h1, h2, h4⟩, ← h3]
        simp [looseL]
      go_wp2_with fail
      go_ret2
      exact ⟨ret_of Hfin.out.symm, rfl⟩
theorem sRomanLoose_any (l : List UInt8) (w : World) (hm : l.length ≤ 9223372036854775807) : Calls Tryd.prog 21 #[.string ⟨l.toArray⟩] w fun e w' => e = .returned (looseR l) ∧ w = w' := by
  by_cases h : 1 ≤ l.length ∧ l.length ≤ 16
  · exact sRomanLoose_in l w h.1 h.2
  · rw [looseR_out l h]
    have H := Lib.hid h; clear h
    go_enter Tryd.func21, Tryd.ntmps21
    go_wp2_with fail
    refine (l6In_any _ _ _ _).mono ?_
    rintro e w1 ⟨rfl, rfl⟩
    rw [show (decide (1 ≤ (l.length : Int) ∧ (l.length : Int) ≤ 16)) = false from decide_eq_false (by have := H.out; omega)]
    go_wp2_with fail
    go_ret2
    exact ⟨rfl, rfl⟩
end Go.Proofs.YthgagidpnnaajaaDoor
