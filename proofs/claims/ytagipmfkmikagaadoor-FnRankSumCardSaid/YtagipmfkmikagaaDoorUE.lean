/- The model's chapter 6 (package spec): RankShort, RankLong. -/
import Derived.Test.YtagipmfkmikagaaDoorUD
namespace Go.Proofs.YtagipmfkmikagaaDoor
open Go.RowKit
set_option linter.unusedVariables false
set_option maxRecDepth 100000
/-- without a one ahead of the tens -/
def shL (l : List UInt8) : List UInt8 := if l.take 2 = [49, 115] then l.drop 1 else l
def rhR (n : Int) : Value := if 0 ≤ n ∧ n ≤ 99999999 then .tuple #[.string ⟨(shL (rkO n.toNat)).toArray⟩, .bool true] else .tuple #[.string ⟨#[]⟩, .bool false]
theorem rhR_form (n : Int) : ∃ (l : List UInt8) (b : Bool), rkR n = .tuple #[.string ⟨l.toArray⟩, .bool b] ∧ l.length ≤ 16 ∧ (b = false → l = []) ∧ rhR n = .tuple #[.string ⟨(shL l).toArray⟩, .bool b] := by
  by_cases h : 0 ≤ n ∧ n ≤ 99999999
  · exact ⟨rkO n.toNat, true, by unfold rkR; rw [if_pos h], (rkO_len _).2, by simp, by unfold rhR; rw [if_pos h]⟩
  · exact ⟨[], false, by unfold rkR; rw [if_neg h], by simp, fun _ => rfl, by unfold rhR; rw [if_neg h]; rfl⟩
theorem ext_take (l : List UInt8) (k : Nat) : (⟨l.toArray⟩ : ByteArray).extract 0 k = ⟨(l.take k).toArray⟩ ∧ (⟨l.toArray⟩ : ByteArray).extract k l.length = ⟨(l.drop k).toArray⟩ := by
  rw [Lib.extract_eq, Lib.extract_eq]
  refine ⟨by simp, ?_⟩
  rw [List.take_of_length_le (by simp)]
theorem ext_list (l : List UInt8) (k : Nat) : ((⟨l.toArray⟩ : ByteArray).extract 0 k).toList = l.take k := by
  rw [Lib.extract_toList]; simp
set_option maxRecDepth 100000 in
set_option maxHeartbeats 1000000 in
theorem sRankShort_any (n : Int) (w : World) : Calls Tryd.prog 23 #[.int .i64 n] w fun e w' => e = .returned (rhR n) ∧ Below w.heap.size w w' := by
  have C := Lib.hid (sRankOf_any n w)
  obtain ⟨l, b, e1, hl, hb, e2⟩ := rhR_form n
  have Hf := Lib.hid e2
  rw [e1] at C
  clear e1 e2
  cases b with
  | false =>
    obtain rfl := hb rfl
    clear hb hl
    go_enter Tryd.func23, Tryd.ntmps23
    go_wp2_with fail
    refine C.out.mono ?_
    rintro e w1 ⟨rfl, g1⟩
    have G1 := Lib.hid g1; clear g1 C
    go_wp2_with fail
    go_ret2
    exact ⟨rret Hf.out.symm, G1.out⟩
  | true =>
    clear hb
    by_cases h1 : 1 < l.length
    · have e0 := (ext_list l 2)
      have hz : (1 : Int) < (l.length : Int) := by omega
      have hs2 : 2 ≤ l.length := h1
      by_cases h2 : l.take 2 = [49, 115]
      · rw [show shL l = l.drop 1 by unfold shL; rw [if_pos h2]] at Hf
        have hq : (((⟨l.toArray⟩ : ByteArray).extract 0 2).toList == [49, 115]) = true := by rw [e0, h2]; rfl
        rw [← (ext_take l 1).2] at Hf
        clear h2 e0 h1
        go_enter Tryd.func23, Tryd.ntmps23
        go_wp2_with fail
        refine C.out.mono ?_
        rintro e w1 ⟨rfl, g1⟩
        have G1 := Lib.hid g1; clear g1 C
        go_wp2_with fail
        go_ret2
        exact ⟨rret Hf.out.symm, G1.out⟩
      · rw [show shL l = l by unfold shL; rw [if_neg h2]] at Hf
        have hq : (((⟨l.toArray⟩ : ByteArray).extract 0 2).toList == [49, 115]) = false := by rw [e0, beq_eq_false_iff_ne]; exact h2
        clear h2 e0 h1
        go_enter Tryd.func23, Tryd.ntmps23
        go_wp2_with fail
        refine C.out.mono ?_
        rintro e w1 ⟨rfl, g1⟩
        have G1 := Lib.hid g1; clear g1 C
        go_wp2_with fail
        go_ret2
        exact ⟨rret Hf.out.symm, G1.out⟩
    · rw [show shL l = l by unfold shL; rw [if_neg (fun h => h1 (by have := congrArg List.length h; rw [List.length_take] at this; simp at this; omega))]] at Hf
      have hz : ¬ (1 : Int) < (l.length : Int) := by omega
      clear h1
      go_enter Tryd.func23, Tryd.ntmps23
      go_wp2_with fail
      refine C.out.mono ?_
      rintro e w1 ⟨rfl, g1⟩
      have G1 := Lib.hid g1; clear g1 C
      go_wp2_with fail
      go_ret2
      exact ⟨rret Hf.out.symm, G1.out⟩
/-- the first number up to k with the longest text -/
def bsl : Nat → Nat
  | 0 => 0
  | k + 1 => if (rkO (bsl k)).length < (rkO (k + 1)).length then k + 1 else bsl k
theorem bsl_le : ∀ k, bsl k ≤ k
  | 0 => Nat.le_refl _
  | k + 1 => by have := bsl_le k; unfold bsl; split <;> omega
theorem bsl_most : ∀ k j, j ≤ k → (rkO j).length ≤ (rkO (bsl k)).length ∧ (j < bsl k → (rkO j).length < (rkO (bsl k)).length)
  | 0, j, h => by
    obtain rfl : j = 0 := by omega
    exact ⟨Nat.le_refl _, fun h => by simp [bsl] at h⟩
  | k + 1, j, h => by
    have ih := bsl_most k
    have hle := bsl_le k
    unfold bsl
    split
    · rename_i hlt
      refine ⟨?_, fun hj => ?_⟩
      · by_cases e : j = k + 1
        · subst e; exact Nat.le_refl _
        · have := (ih j (by omega)).1; omega
      · have := (ih j (by omega)).1; omega
    · rename_i hlt
      refine ⟨?_, fun hj => ?_⟩
      · by_cases e : j = k + 1
        · subst e; omega
        · exact (ih j (by omega)).1
      · exact (ih j (by omega)).2 hj
def rlR (n : Int) : Value := if 0 ≤ n ∧ n ≤ 2000 then .tuple #[.int .i64 (bsl n.toNat : Nat), .bool true] else .tuple #[.int .i64 0, .bool false]
set_option maxRecDepth 100000 in
set_option maxHeartbeats 1000000 in
theorem sRankLong_any (n : Int) (w : World) : Calls Tryd.prog 15 #[.int .i64 n] w fun e w' => e = .returned (rlR n) ∧ Below w.heap.size w w' := by
  have C := Lib.hid (in_any n 0 2000 w)
  by_cases h : 0 ≤ n ∧ n ≤ 2000
  · rw [show decide (0 ≤ n ∧ n ≤ 2000) = true from decide_eq_true h] at C
    obtain ⟨N, rfl⟩ := Int.eq_ofNat_of_zero_le h.1
    have Hf : Hid (rlR (N : Int) = .tuple #[.int .i64 (bsl N : Nat), .bool true]) := Lib.hid (by unfold rlR; rw [if_pos h]; rfl)
    have hN : N ≤ 2000 := by omega
    clear h
    go_enter Tryd.func15, Tryd.ntmps15
    go_wp2_with fail
    refine C.out.mono ?_
    rintro e w1 ⟨rfl, rfl⟩
    clear C
    go_wp2_with fail
    go_loopw [4, 5] (fun b i wr => ∃ (k c : Nat), k ≤ N ∧ c ≤ k ∧ i = .int .i64 ((k : Int) + 1) ∧ b = .int .i64 c ∧ Hid (bsl k = c) ∧ Hid (Below w.heap.size w wr)) (fun _ i _ => N + 1 - (intOf i).toNat)
    case atStart => exact ⟨0, 0, by omega, by omega, rfl, rfl, Lib.hid rfl, Lib.hid (Below.refl _ _)⟩
    case round =>
      obtain ⟨k, c, hk, hc, rfl, rfl, Hb, Hw⟩ := hrel
      by_cases hlt : k < N
      · have C1 := Lib.hid (fun w => sl6rOf_any (k + 1) w (by omega))
        have C2 := Lib.hid (fun w => sl6rOf_any c w (by omega))
        have b1 := (rkO_len (k + 1)).2
        have b2 := (rkO_len c).2
        have HS : Hid (bsl (k + 1) = if (rkO c).length < (rkO (k + 1)).length then k + 1 else c) := Lib.hid (by
          show (if _ < _ then _ else _) = _
          rw [Hb.out])
        rw [show ((k + 1 : Nat) : Int) = (k : Int) + 1 by omega] at C1
        generalize rkO (k + 1) = X at *
        generalize rkO c = Y at *
        have l0 : (k : Int) + 1 ≤ N := by omega
        by_cases hxy : Y.length < X.length
        · rw [if_pos hxy] at HS
          go_wp2_with fail
          refine (C1.out _).mono ?_
          rintro e w2 ⟨rfl, g2⟩
          have G2 := Lib.hid (Hw.out.trans (g2.mono Hw.out.size)); clear g2 C1
          go_wp2_with fail
          refine (C2.out _).mono ?_
          rintro e w3 ⟨rfl, g3⟩
          have G3 := Lib.hid (G2.out.trans (g3.mono G2.out.size)); clear g3 C2 G2
          go_wp2_with fail
          go_roundw
          case rel => exact ⟨k + 1, k + 1, by omega, by omega, by go_num, by go_num, HS, G3⟩
          case measure => simp [intOf]; omega
        · rw [if_neg hxy] at HS
          go_wp2_with fail
          refine (C1.out _).mono ?_
          rintro e w2 ⟨rfl, g2⟩
          have G2 := Lib.hid (Hw.out.trans (g2.mono Hw.out.size)); clear g2 C1
          go_wp2_with fail
          refine (C2.out _).mono ?_
          rintro e w3 ⟨rfl, g3⟩
          have G3 := Lib.hid (G2.out.trans (g3.mono G2.out.size)); clear g3 C2 G2
          go_wp2_with fail
          go_roundw
          case rel => exact ⟨k + 1, c, by omega, by omega, by go_num, by go_num, HS, G3⟩
          case measure => simp [intOf]; omega
      · obtain rfl : k = N := by omega
        rw [Hb.out] at Hf
        go_wp2_with fail
        go_ret2
        exact ⟨rret Hf.out.symm, Hw.out⟩
  · have Hf : Hid (rlR n = .tuple #[.int .i64 0, .bool false]) := Lib.hid (by unfold rlR; rw [if_neg h])
    rw [show decide (0 ≤ n ∧ n ≤ 2000) = false from decide_eq_false h] at C
    clear h
    go_enter Tryd.func15, Tryd.ntmps15
    go_wp2_with fail
    refine C.out.mono ?_
    rintro e w1 ⟨rfl, rfl⟩
    go_wp2_with fail
    go_ret2
    exact ⟨rret Hf.out.symm, Below.refl _ _⟩
end Go.Proofs.YtagipmfkmikagaaDoor
