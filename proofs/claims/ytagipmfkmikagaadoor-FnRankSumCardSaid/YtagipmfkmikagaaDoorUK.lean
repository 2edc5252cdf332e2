/- The drawn laws of chapter 6: their walks (printed by genuk.py). -/
import Derived.Test.YtagipmfkmikagaaDoorUF
import Derived.Test.YtagipmfkmikagaaDoorUH
namespace Go.Proofs.YtagipmfkmikagaaDoor
open Go.RowKit
set_option linter.unusedVariables false
set_option maxRecDepth 100000
theorem rsR_swap (l m : List UInt8) : rsR m l = rsR l m := by
  unfold rsR
  rw [Int.add_comm]
  by_cases h1 : rrB m = true <;> by_cases h2 : rrB l = true <;> simp [h1, h2]
theorem rsR_nought (n : Nat) (h : n ≤ 99999999) : rsR (rkO n) [111] = .tuple #[.string ⟨(rkO n).toArray⟩, .bool true] := by
  have e : rrB [111] = true := by decide
  have z : rkN [111] = 0 := by decide
  unfold rsR
  rw [if_pos ⟨rrB_rk n h, e⟩, rd_back n h, z]
  unfold rkR
  rw [if_pos (by omega)]
  congr 4
set_option maxRecDepth 100000 in
set_option maxHeartbeats 1000000 in
theorem wFnRank (a : Option Addr) (len cap : Nat) (z : List Int) (u0 : World) (h0 : IsRow .u8 u0 a len cap z) (hRV : RV u0) : Calls Tryd.prog 11 #[.slice a len cap] u0 fun e w' => e = .returned (.bool true) ∧ Below u0.heap.size u0 w' := by
  have H0 := Lib.hid h0; have HR := Lib.hid hRV; clear h0 hRV
  by_cases big : 1048576 < len
  · go_enter Tryd.func11, Tryd.ntmps11
    go_wp2_with fail
    go_ret
    exact ⟨rfl, Below.refl _ _⟩
  go_enter Tryd.func11, Tryd.ntmps11
  go_wp2_with fail
  refine (drawRankOf_any a len cap z _ H0.out).mono ?_
  rintro e u1 ⟨n, hn0, hn1, rfl, hb⟩
  have G1 := Lib.hid hb; clear hb H0 big
  have C1 := Lib.hid (fun (w : World) (hR : RV w) => iRankOf_any n w hR)
  have C2 := Lib.hid (fun (w : World) (_ : RV w) => sRankOf_any n w)
  by_cases hok : 0 ≤ n ∧ n ≤ 99999999
  · obtain ⟨k, rfl⟩ := Int.eq_ofNat_of_zero_le hok.1
    have hk : k ≤ 99999999 := by omega
    rw [show rkR (k : Int) = .tuple #[.string ⟨(rkO k).toArray⟩, .bool true] by unfold rkR; rw [if_pos hok]; rfl] at C1 C2
    have hl := (rkO_len k).2
    have C3 := Lib.hid (fun (w : World) (hR : RV w) => iRankRead_any (rkO k) w hR (by omega))
    rw [show rrR (rkO k) = .tuple #[.int .i64 (k : Nat), .bool true] by unfold rrR; rw [if_pos (rrB_rk k hk), rd_back k hk]] at C3
    generalize rkO k = L at *
    have hl2 : (L.length : Int) ≤ 16 := by omega
    clear hok hk
    go_wp2_with fail
    refine (C1.out _ (HR.out.step G1.out)).mono ?_
    rintro e u2 ⟨rfl, hb⟩
    have G2 := Lib.hid (bel_chain G1.out hb); clear hb C1
    go_wp2_with fail
    refine (C2.out _ (HR.out.step G2.out)).mono ?_
    rintro e u3 ⟨rfl, hb⟩
    have G3 := Lib.hid (bel_chain G2.out hb); clear hb C2
    go_wp2_with fail
    refine (C3.out _ (HR.out.step G3.out)).mono ?_
    rintro e u4 ⟨rfl, hb⟩
    have G4 := Lib.hid (bel_chain G3.out hb); clear hb C3
    go_wp2_with fail
    go_ret
    exact ⟨rfl, G4.out⟩
  · rw [show rkR n = .tuple #[.string ⟨#[]⟩, .bool false] by unfold rkR; rw [if_neg hok]] at C1 C2
    clear hok
    go_wp2_with fail
    refine (C1.out _ (HR.out.step G1.out)).mono ?_
    rintro e u2 ⟨rfl, hb⟩
    have G2 := Lib.hid (bel_chain G1.out hb); clear hb C1
    go_wp2_with fail
    refine (C2.out _ (HR.out.step G2.out)).mono ?_
    rintro e u3 ⟨rfl, hb⟩
    have G3 := Lib.hid (bel_chain G2.out hb); clear hb C2
    go_wp2_with fail
    go_ret
    exact ⟨rfl, G3.out⟩
set_option maxRecDepth 100000 in
set_option maxHeartbeats 1000000 in
theorem wFnRankRead (a : Option Addr) (len cap : Nat) (z : List Int) (u0 : World) (h0 : IsRow .u8 u0 a len cap z) (hRV : RV u0) : Calls Tryd.prog 12 #[.slice a len cap] u0 fun e w' => e = .returned (.bool true) ∧ Below u0.heap.size u0 w' := by
  have H0 := Lib.hid h0; have HR := Lib.hid hRV; clear h0 hRV
  by_cases big : 1048576 < len
  · go_enter Tryd.func12, Tryd.ntmps12
    go_wp2_with fail
    go_ret
    exact ⟨rfl, Below.refl _ _⟩
  go_enter Tryd.func12, Tryd.ntmps12
  go_wp2_with fail
  refine (drawRankRead_any a len cap z _ H0.out).mono ?_
  rintro e u1 ⟨s, hs, rfl, hb⟩
  have G1 := Lib.hid hb; clear hb H0 big
  obtain ⟨l, rfl, hl⟩ := bytes_list s
  have hq : l.length ≤ 30 := by omega
  clear hl hs
  obtain ⟨x, b, hx, hxb⟩ := rrR_form l
  have C1 := Lib.hid (fun (w : World) (hR : RV w) => iRankRead_any l w hR (by omega))
  have C2 := Lib.hid (fun (w : World) (_ : RV w) => sRankRead_any l w (by omega))
  rw [hx] at C1 C2
  clear hx
  cases b with
  | true =>
    obtain ⟨h1, h2⟩ := hxb rfl
    have C3 := Lib.hid (fun (w : World) (hR : RV w) => iRankOf_any (x : Int) w hR)
    rw [show rkR (x : Int) = .tuple #[.string ⟨l.toArray⟩, .bool true] by unfold rkR; rw [if_pos (by omega)]; show Value.tuple #[.string ⟨(rkO x).toArray⟩, _] = _; rw [h2]] at C3
    clear hxb h1 h2
    go_wp2_with fail
    refine (C1.out _ (HR.out.step G1.out)).mono ?_
    rintro e u2 ⟨rfl, hb⟩
    have G2 := Lib.hid (bel_chain G1.out hb); clear hb C1
    go_wp2_with fail
    refine (C2.out _ (HR.out.step G2.out)).mono ?_
    rintro e u3 ⟨rfl, hb⟩
    have G3 := Lib.hid (bel_chain G2.out hb); clear hb C2
    go_wp2_with fail
    refine (C3.out _ (HR.out.step G3.out)).mono ?_
    rintro e u4 ⟨rfl, hb⟩
    have G4 := Lib.hid (bel_chain G3.out hb); clear hb C3
    go_wp2_with fail
    go_ret
    exact ⟨rfl, G4.out⟩
  | false =>
    clear hxb
    go_wp2_with fail
    refine (C1.out _ (HR.out.step G1.out)).mono ?_
    rintro e u2 ⟨rfl, hb⟩
    have G2 := Lib.hid (bel_chain G1.out hb); clear hb C1
    go_wp2_with fail
    refine (C2.out _ (HR.out.step G2.out)).mono ?_
    rintro e u3 ⟨rfl, hb⟩
    have G3 := Lib.hid (bel_chain G2.out hb); clear hb C2
    go_wp2_with fail
    go_ret
    exact ⟨rfl, G3.out⟩
set_option maxRecDepth 100000 in
set_option maxHeartbeats 1000000 in
theorem wFnNoughts (a : Option Addr) (len cap : Nat) (z : List Int) (u0 : World) (h0 : IsRow .u8 u0 a len cap z) (hRV : RV u0) : Calls Tryd.prog 10 #[.slice a len cap] u0 fun e w' => e = .returned (.bool true) ∧ Below u0.heap.size u0 w' := by
  have H0 := Lib.hid h0; have HR := Lib.hid hRV; clear h0 hRV
  by_cases big : 1048576 < len
  · go_enter Tryd.func10, Tryd.ntmps10
    go_wp2_with fail
    go_ret
    exact ⟨rfl, Below.refl _ _⟩
  go_enter Tryd.func10, Tryd.ntmps10
  go_wp2_with fail
  refine (drawRankNoughts_any a len cap z _ H0.out).mono ?_
  rintro e u1 ⟨n, hn0, hn1, rfl, hb⟩
  have G1 := Lib.hid hb; clear hb H0 big
  have C1 := Lib.hid (fun (w : World) (hR : RV w) => iRankNoughts_any n w hR)
  have C2 := Lib.hid (fun (w : World) (_ : RV w) => sRankNoughts_any n w)
  by_cases hok : 0 ≤ n ∧ n ≤ 99999999
  · obtain ⟨k, rfl⟩ := Int.eq_ofNat_of_zero_le hok.1
    have hk : k ≤ 99999999 := by omega
    rw [show rnR (k : Int) = .tuple #[.int .i64 (nts (rkO k) : Nat), .bool true] by unfold rnR; rw [if_pos hok]; rfl] at C1 C2
    have hm := (nts_most k).1
    have C3 := Lib.hid (fun (w : World) (hR : RV w) => iRankNoughts_any ((k : Int) * 10000) w hR)
    by_cases h0 : k = 0
    · subst h0
      rw [show nts (rkO 0) = 1 from (nts_most 0).2] at C1 C2
      obtain ⟨y, b, hy⟩ := rnR_val (((0 : Nat) : Int) * 10000)
      rw [hy] at C3
      rw [show ((0 : Nat) : Int) * 10000 = 0 from rfl] at C3
      clear hok hk hm hy
      go_wp2_with fail
      refine (C1.out _ (HR.out.step G1.out)).mono ?_
      rintro e u2 ⟨rfl, hb⟩
      have G2 := Lib.hid (bel_chain G1.out hb); clear hb C1
      go_wp2_with fail
      refine (C2.out _ (HR.out.step G2.out)).mono ?_
      rintro e u3 ⟨rfl, hb⟩
      have G3 := Lib.hid (bel_chain G2.out hb); clear hb C2
      go_wp2_with fail
      refine (C3.out _ (HR.out.step G3.out)).mono ?_
      rintro e u4 ⟨rfl, hb⟩
      have G4 := Lib.hid (bel_chain G3.out hb); clear hb C3
      go_wp2_with fail
      go_ret
      exact ⟨rfl, G4.out⟩
    by_cases hg : 1000 ≤ k ∧ k ≤ 9999
    · rw [show rnR ((k : Int) * 10000) = .tuple #[.int .i64 (nts (rkO k) : Nat), .bool true] by
        unfold rnR; rw [if_pos (by omega), ← nts_great k hg.1 hg.2, show ((k : Int) * 10000).toNat = k * 10000 by omega]] at C3
      generalize nts (rkO k) = y at *
      have hz : ¬ (k : Int) < 1000 := by omega
      have hz2 : ¬ (9999 : Int) < k := by omega
      have hz3 : ((k : Int) == 0) = false := by rw [beq_eq_false_iff_ne]; omega
      clear hok hk hg
      go_wp2_with fail
      refine (C1.out _ (HR.out.step G1.out)).mono ?_
      rintro e u2 ⟨rfl, hb⟩
      have G2 := Lib.hid (bel_chain G1.out hb); clear hb C1
      go_wp2_with fail
      refine (C2.out _ (HR.out.step G2.out)).mono ?_
      rintro e u3 ⟨rfl, hb⟩
      have G3 := Lib.hid (bel_chain G2.out hb); clear hb C2
      go_wp2_with fail
      refine (C3.out _ (HR.out.step G3.out)).mono ?_
      rintro e u4 ⟨rfl, hb⟩
      have G4 := Lib.hid (bel_chain G3.out hb); clear hb C3
      go_wp2_with fail
      go_ret
      exact ⟨rfl, G4.out⟩
    · obtain ⟨y, b, hy⟩ := rnR_val ((k : Int) * 10000)
      rw [hy] at C3
      generalize nts (rkO k) = x at *
      have hz3 : ((k : Int) == 0) = false := by rw [beq_eq_false_iff_ne]; omega
      by_cases hs : k < 1000
      · have hz : (k : Int) < 1000 := by omega
        clear hok hk hg hy
        go_wp2_with fail
        refine (C1.out _ (HR.out.step G1.out)).mono ?_
        rintro e u2 ⟨rfl, hb⟩
        have G2 := Lib.hid (bel_chain G1.out hb); clear hb C1
        go_wp2_with fail
        refine (C2.out _ (HR.out.step G2.out)).mono ?_
        rintro e u3 ⟨rfl, hb⟩
        have G3 := Lib.hid (bel_chain G2.out hb); clear hb C2
        go_wp2_with fail
        refine (C3.out _ (HR.out.step G3.out)).mono ?_
        rintro e u4 ⟨rfl, hb⟩
        have G4 := Lib.hid (bel_chain G3.out hb); clear hb C3
        go_wp2_with fail
        go_ret
        exact ⟨rfl, G4.out⟩
      · have hz : ¬ (k : Int) < 1000 := by omega
        have hz2 : (9999 : Int) < k := by omega
        clear hok hk hg hy
        go_wp2_with fail
        refine (C1.out _ (HR.out.step G1.out)).mono ?_
        rintro e u2 ⟨rfl, hb⟩
        have G2 := Lib.hid (bel_chain G1.out hb); clear hb C1
        go_wp2_with fail
        refine (C2.out _ (HR.out.step G2.out)).mono ?_
        rintro e u3 ⟨rfl, hb⟩
        have G3 := Lib.hid (bel_chain G2.out hb); clear hb C2
        go_wp2_with fail
        refine (C3.out _ (HR.out.step G3.out)).mono ?_
        rintro e u4 ⟨rfl, hb⟩
        have G4 := Lib.hid (bel_chain G3.out hb); clear hb C3
        go_wp2_with fail
        go_ret
        exact ⟨rfl, G4.out⟩
  · rw [show rnR n = .tuple #[.int .i64 0, .bool false] by unfold rnR; rw [if_neg hok]] at C1 C2
    clear hok
    go_wp2_with fail
    refine (C1.out _ (HR.out.step G1.out)).mono ?_
    rintro e u2 ⟨rfl, hb⟩
    have G2 := Lib.hid (bel_chain G1.out hb); clear hb C1
    go_wp2_with fail
    refine (C2.out _ (HR.out.step G2.out)).mono ?_
    rintro e u3 ⟨rfl, hb⟩
    have G3 := Lib.hid (bel_chain G2.out hb); clear hb C2
    go_wp2_with fail
    go_ret
    exact ⟨rfl, G3.out⟩
set_option maxRecDepth 100000 in
set_option maxHeartbeats 1000000 in
theorem wFnRankShort (a : Option Addr) (len cap : Nat) (z : List Int) (u0 : World) (h0 : IsRow .u8 u0 a len cap z) (hRV : RV u0) : Calls Tryd.prog 13 #[.slice a len cap] u0 fun e w' => e = .returned (.bool true) ∧ Below u0.heap.size u0 w' := by
  have H0 := Lib.hid h0; have HR := Lib.hid hRV; clear h0 hRV
  by_cases big : 1048576 < len
  · go_enter Tryd.func13, Tryd.ntmps13
    go_wp2_with fail
    go_ret
    exact ⟨rfl, Below.refl _ _⟩
  go_enter Tryd.func13, Tryd.ntmps13
  go_wp2_with fail
  refine (drawRankShort_any a len cap z _ H0.out).mono ?_
  rintro e u1 ⟨n, hn0, hn1, rfl, hb⟩
  have G1 := Lib.hid hb; clear hb H0 big
  have C1 := Lib.hid (fun (w : World) (hR : RV w) => iRankShort_any n w hR)
  have C2 := Lib.hid (fun (w : World) (_ : RV w) => sRankShort_any n w)
  by_cases hok : 0 ≤ n ∧ n ≤ 99999999
  · have C3 := Lib.hid (fun (w : World) (hR : RV w) => iRankOf_any n w hR)
    rw [show rkR n = .tuple #[.string ⟨(rkO n.toNat).toArray⟩, .bool true] by unfold rkR; rw [if_pos hok]] at C3
    rw [show rhR n = .tuple #[.string ⟨(shL (rkO n.toNat)).toArray⟩, .bool true] by unfold rhR; rw [if_pos hok]] at C1 C2
    have hl := rkO_len n.toNat
    generalize rkO n.toNat = L at *
    clear hok
    by_cases h2 : L.take 2 = [49, 115]
    · obtain ⟨r, rfl⟩ : ∃ r, L = 49 :: 115 :: r := ⟨L.drop 2, by (conv => lhs; rw [← List.take_append_drop 2 L, h2]); rfl⟩
      rw [show shL (49 :: 115 :: r) = 115 :: r by unfold shL; rw [if_pos h2]; rfl] at C1 C2
      have hlen : (49 :: 115 :: r : List UInt8).length = r.length + 2 := rfl
      have hlen2 : (115 :: r : List UInt8).length = r.length + 1 := rfl
      have hq : ((49 :: 115 :: r : List UInt8) == (115 :: r)) = false := by rw [beq_eq_false_iff_ne]; intro h; have := congrArg List.length h; simp at this
      have hc : (⟨#[49]⟩ : ByteArray) ++ ⟨(115 :: r : List UInt8).toArray⟩ = ⟨(49 :: 115 :: r : List UInt8).toArray⟩ := cat_bytes [49] (115 :: r)
      have he : (((⟨(115 :: r : List UInt8).toArray⟩ : ByteArray).extract 0 1).toList == [115]) = true := by rw [ext_list]; rfl
      obtain ⟨l1, l2⟩ := hl
      clear h2 l1
      go_wp2_with fail
      refine (C1.out _ (HR.out.step G1.out)).mono ?_
      rintro e u2 ⟨rfl, hb⟩
      have G2 := Lib.hid (bel_chain G1.out hb); clear hb C1
      go_wp2_with fail
      refine (C2.out _ (HR.out.step G2.out)).mono ?_
      rintro e u3 ⟨rfl, hb⟩
      have G3 := Lib.hid (bel_chain G2.out hb); clear hb C2
      go_wp2_with fail
      refine (C3.out _ (HR.out.step G3.out)).mono ?_
      rintro e u4 ⟨rfl, hb⟩
      have G4 := Lib.hid (bel_chain G3.out hb); clear hb C3
      go_wp2_with fail
      go_ret
      exact ⟨rfl, G4.out⟩
    · rw [show shL L = L by unfold shL; rw [if_neg h2]] at C1 C2
      have he : (((⟨L.toArray⟩ : ByteArray).extract 0 2).toList == [49, 115]) = false := by rw [ext_list, beq_eq_false_iff_ne]; exact h2
      by_cases h1 : L.length < 2
      · have hz : (L.length : Int) < 2 := by omega
        clear h2
        go_wp2_with fail
        refine (C1.out _ (HR.out.step G1.out)).mono ?_
        rintro e u2 ⟨rfl, hb⟩
        have G2 := Lib.hid (bel_chain G1.out hb); clear hb C1
        go_wp2_with fail
        refine (C2.out _ (HR.out.step G2.out)).mono ?_
        rintro e u3 ⟨rfl, hb⟩
        have G3 := Lib.hid (bel_chain G2.out hb); clear hb C2
        go_wp2_with fail
        refine (C3.out _ (HR.out.step G3.out)).mono ?_
        rintro e u4 ⟨rfl, hb⟩
        have G4 := Lib.hid (bel_chain G3.out hb); clear hb C3
        go_wp2_with fail
        go_ret
        exact ⟨rfl, G4.out⟩
      · have hz : ¬ (L.length : Int) < 2 := by omega
        have hz2 : 2 ≤ L.length := by omega
        clear h2 h1
        go_wp2_with fail
        refine (C1.out _ (HR.out.step G1.out)).mono ?_
        rintro e u2 ⟨rfl, hb⟩
        have G2 := Lib.hid (bel_chain G1.out hb); clear hb C1
        go_wp2_with fail
        refine (C2.out _ (HR.out.step G2.out)).mono ?_
        rintro e u3 ⟨rfl, hb⟩
        have G3 := Lib.hid (bel_chain G2.out hb); clear hb C2
        go_wp2_with fail
        refine (C3.out _ (HR.out.step G3.out)).mono ?_
        rintro e u4 ⟨rfl, hb⟩
        have G4 := Lib.hid (bel_chain G3.out hb); clear hb C3
        go_wp2_with fail
        go_ret
        exact ⟨rfl, G4.out⟩
  · rw [show rhR n = .tuple #[.string ⟨#[]⟩, .bool false] by unfold rhR; rw [if_neg hok]] at C1 C2
    clear hok
    go_wp2_with fail
    refine (C1.out _ (HR.out.step G1.out)).mono ?_
    rintro e u2 ⟨rfl, hb⟩
    have G2 := Lib.hid (bel_chain G1.out hb); clear hb C1
    go_wp2_with fail
    refine (C2.out _ (HR.out.step G2.out)).mono ?_
    rintro e u3 ⟨rfl, hb⟩
    have G3 := Lib.hid (bel_chain G2.out hb); clear hb C2
    go_wp2_with fail
    go_ret
    exact ⟨rfl, G3.out⟩
set_option maxRecDepth 100000 in
set_option maxHeartbeats 1000000 in
theorem wFnLong (a : Option Addr) (len cap : Nat) (z : List Int) (u0 : World) (h0 : IsRow .u8 u0 a len cap z) (hRV : RV u0) : Calls Tryd.prog 9 #[.slice a len cap] u0 fun e w' => e = .returned (.bool true) ∧ Below u0.heap.size u0 w' := by
  have H0 := Lib.hid h0; have HR := Lib.hid hRV; clear h0 hRV
  by_cases big : 1048576 < len
  · go_enter Tryd.func9, Tryd.ntmps9
    go_wp2_with fail
    go_ret
    exact ⟨rfl, Below.refl _ _⟩
  go_enter Tryd.func9, Tryd.ntmps9
  go_wp2_with fail
  refine (drawRankLong_any a len cap z _ H0.out).mono ?_
  rintro e u1 ⟨n, hn0, hn1, rfl, hb⟩
  have G1 := Lib.hid hb; clear hb H0 big
  have C1 := Lib.hid (fun (w : World) (hR : RV w) => iRankLong_any n w hR)
  have C2 := Lib.hid (fun (w : World) (_ : RV w) => sRankLong_any n w)
  by_cases hok : 0 ≤ n ∧ n ≤ 2000
  · obtain ⟨N, rfl⟩ := Int.eq_ofNat_of_zero_le hok.1
    have hN : N ≤ 2000 := by omega
    rw [show rlR (N : Int) = .tuple #[.int .i64 (bsl N : Nat), .bool true] by unfold rlR; rw [if_pos hok]; rfl] at C1 C2
    have hb := bsl_le N
    have HM := Lib.hid (bsl_most N)
    have C3 := Lib.hid (fun (w : World) (hR : RV w) => iRankOf_any (bsl N : Nat) w hR)
    rw [show rkR (bsl N : Nat) = .tuple #[.string ⟨(rkO (bsl N)).toArray⟩, .bool true] by unfold rkR; rw [if_pos (by omega)]; rfl] at C3
    have C4 : Hid (∀ (k : Nat) (w : World), RV w → k ≤ 2000 → Calls Tryd.prog 20 #[.int .i64 k] w fun e w' => e = .returned (.tuple #[.string ⟨(rkO k).toArray⟩, .bool true]) ∧ Below w.heap.size w w') := Lib.hid fun k w hR hk => by
      have := iRankOf_any (k : Int) w hR
      rwa [show rkR (k : Int) = .tuple #[.string ⟨(rkO k).toArray⟩, .bool true] by unfold rkR; rw [if_pos (by omega)]; rfl] at this
    have hs := (rkO_len (bsl N)).2
    generalize bsl N = B at *
    generalize rkO B = S at *
    clear hok
    go_wp2_with fail
    refine (C1.out _ (HR.out.step G1.out)).mono ?_
    rintro e u2 ⟨rfl, hb⟩
    have G2 := Lib.hid (bel_chain G1.out hb); clear hb C1
    go_wp2_with fail
    refine (C2.out _ (HR.out.step G2.out)).mono ?_
    rintro e u3 ⟨rfl, hb⟩
    have G3 := Lib.hid (bel_chain G2.out hb); clear hb C2
    go_wp2_with fail
    refine (C3.out _ (HR.out.step G3.out)).mono ?_
    rintro e u4 ⟨rfl, hb⟩
    have G4 := Lib.hid (bel_chain G3.out hb); clear hb C3
    go_wp2_with fail
    go_loopw [10] (fun i wr => ∃ j : Nat, i = .int .i64 j ∧ j ≤ N + 1 ∧ Hid (Below u0.heap.size u0 wr)) (fun i _ => N + 1 - (intOf i).toNat)
    case atStart => exact ⟨0, rfl, by omega, G4⟩
    case round =>
      obtain ⟨j, rfl, hj, Hw⟩ := hrel
      by_cases hlt : j ≤ N
      · obtain ⟨m1, m2⟩ := HM.out j hlt
        have D := Lib.hid (fun w hR => C4.out j w hR (by omega))
        have ht := (rkO_len j).2
        generalize rkO j = T at *
        by_cases hjb : j < B
        · have hd := m2 hjb
          have hd2 : ((T.length : Int) == (S.length : Int)) = false := by rw [beq_eq_false_iff_ne]; omega
          have hjb' : (j : Int) < (B : Int) := by omega
          clear m2
          go_wp2_with fail
          refine (D.out _ (HR.out.step Hw.out)).mono ?_
          rintro e u5 ⟨rfl, hb'⟩
          have Hw2 := Lib.hid (Hw.out.trans (hb'.mono Hw.out.size)); clear hb' D
          go_wp2_with fail
          go_roundw
          case rel => exact ⟨j + 1, by go_num, by omega, Hw2⟩
          case measure => simp [intOf]; omega
        · have hjb' : ¬ (j : Int) < (B : Int) := by omega
          clear m2
          go_wp2_with fail
          refine (D.out _ (HR.out.step Hw.out)).mono ?_
          rintro e u5 ⟨rfl, hb'⟩
          have Hw2 := Lib.hid (Hw.out.trans (hb'.mono Hw.out.size)); clear hb' D
          go_wp2_with fail
          go_roundw
          case rel => exact ⟨j + 1, by go_num, by omega, Hw2⟩
          case measure => simp [intOf]; omega
      · go_wp2_with fail
        go_ret
        exact ⟨rfl, Hw.out⟩
  · rw [show rlR n = .tuple #[.int .i64 0, .bool false] by unfold rlR; rw [if_neg hok]] at C1 C2
    clear hok
    go_wp2_with fail
    refine (C1.out _ (HR.out.step G1.out)).mono ?_
    rintro e u2 ⟨rfl, hb⟩
    have G2 := Lib.hid (bel_chain G1.out hb); clear hb C1
    go_wp2_with fail
    refine (C2.out _ (HR.out.step G2.out)).mono ?_
    rintro e u3 ⟨rfl, hb⟩
    have G3 := Lib.hid (bel_chain G2.out hb); clear hb C2
    go_wp2_with fail
    go_ret
    exact ⟨rfl, G3.out⟩
set_option maxRecDepth 100000 in
set_option maxHeartbeats 1000000 in
theorem wFnRankSum (a : Option Addr) (len cap : Nat) (z : List Int) (u0 : World) (h0 : IsRow .u8 u0 a len cap z) (hRV : RV u0) : Calls Tryd.prog 14 #[.slice a len cap] u0 fun e w' => e = .returned (.bool true) ∧ Below u0.heap.size u0 w' := by
  have H0 := Lib.hid h0; have HR := Lib.hid hRV; clear h0 hRV
  by_cases big : 1048576 < len
  · go_enter Tryd.func14, Tryd.ntmps14
    go_wp2_with fail
    go_ret
    exact ⟨rfl, Below.refl _ _⟩
  go_enter Tryd.func14, Tryd.ntmps14
  go_wp2_with fail
  refine (drawRankSum_any a len cap z _ H0.out).mono ?_
  rintro e u1 ⟨s, t, hs, ht, rfl, hb⟩
  have G1 := Lib.hid hb; clear hb H0 big
  obtain ⟨l, rfl, hl⟩ := bytes_list s
  obtain ⟨m, rfl, hm⟩ := bytes_list t
  have hq : l.length ≤ 30 := by omega
  have hr : m.length ≤ 30 := by omega
  clear hl hs hm ht
  have C1 := Lib.hid (fun (w : World) (hR : RV w) => iRankSum_any l m w hR (by omega) (by omega))
  have C2 := Lib.hid (fun (w : World) (_ : RV w) => sRankSum_any l m w (by omega) (by omega))
  have C3 := Lib.hid (fun (w : World) (hR : RV w) => iRankSum_any m l w hR (by omega) (by omega))
  obtain ⟨x, b, hx, hxb⟩ := rsR_form l m
  cases b with
  | true =>
    obtain ⟨h1, h2, h3, h4⟩ := hxb rfl
    rw [rsR_swap] at C3
    have hxl := (rkO_len (rkN l + rkN m)).2
    rw [← h4] at hxl
    have C4 := Lib.hid (fun (w : World) (hR : RV w) => iRankSum_any x [111] w hR (by omega) (by decide))
    rw [h4, rsR_nought _ h3, ← h4] at C4
    rw [hx] at C1 C2 C3
    clear hx hxb h1 h2 h3 h4
    go_wp2_with fail
    refine (C1.out _ (HR.out.step G1.out)).mono ?_
    rintro e u2 ⟨rfl, hb⟩
    have G2 := Lib.hid (bel_chain G1.out hb); clear hb C1
    go_wp2_with fail
    refine (C2.out _ (HR.out.step G2.out)).mono ?_
    rintro e u3 ⟨rfl, hb⟩
    have G3 := Lib.hid (bel_chain G2.out hb); clear hb C2
    go_wp2_with fail
    refine (C3.out _ (HR.out.step G3.out)).mono ?_
    rintro e u4 ⟨rfl, hb⟩
    have G4 := Lib.hid (bel_chain G3.out hb); clear hb C3
    go_wp2_with fail
    refine (C4.out _ (HR.out.step G4.out)).mono ?_
    rintro e u5 ⟨rfl, hb⟩
    have G5 := Lib.hid (bel_chain G4.out hb); clear hb C4
    go_wp2_with fail
    go_ret
    exact ⟨rfl, G5.out⟩
  | false =>
    rw [hx] at C1 C2
    clear hx hxb
    go_wp2_with fail
    refine (C1.out _ (HR.out.step G1.out)).mono ?_
    rintro e u2 ⟨rfl, hb⟩
    have G2 := Lib.hid (bel_chain G1.out hb); clear hb C1
    go_wp2_with fail
    refine (C2.out _ (HR.out.step G2.out)).mono ?_
    rintro e u3 ⟨rfl, hb⟩
    have G3 := Lib.hid (bel_chain G2.out hb); clear hb C2
    go_wp2_with fail
    go_ret
    exact ⟨rfl, G3.out⟩
end Go.Proofs.YtagipmfkmikagaaDoor
