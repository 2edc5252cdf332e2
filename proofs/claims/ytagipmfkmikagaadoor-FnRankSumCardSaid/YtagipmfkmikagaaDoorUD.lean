/- The model's chapter 6 (package spec): RankNoughts, RankShort, RankLong, RankSum. -/
import Derived.Test.YtagipmfkmikagaaDoorUC
namespace Go.Proofs.YtagipmfkmikagaaDoor
open Go.RowKit
set_option linter.unusedVariables false
set_option maxRecDepth 100000
/-- RankNoughts's answer -/
def rnR (n : Int) : Value := if 0 ≤ n ∧ n ≤ 99999999 then .tuple #[.int .i64 (nts (rkO n.toNat) : Nat), .bool true] else .tuple #[.int .i64 0, .bool false]
theorem nts_succ (l : List UInt8) (k : Nat) (h : k < l.length) : nts (l.take (k + 1)) = nts (l.take k) + (if l[k] = 111 then 1 else 0) := by
  rw [List.take_succ_eq_append_getElem h, nts_append]
  unfold nts
  split
  · rename_i e; rw [e]; rfl
  · rename_i e; rw [List.filter_cons_of_neg (by simpa using e)]; rfl
theorem nts_le (l : List UInt8) : nts l ≤ l.length := List.length_filter_le _ _
/-- RankOf's answer is a text and a yes or no -/
theorem rkR_form (n : Int) : ∃ (l : List UInt8) (b : Bool), rkR n = .tuple #[.string ⟨l.toArray⟩, .bool b] ∧ l.length ≤ 16 ∧ rnR n = .tuple #[.int .i64 (nts l : Nat), .bool b] := by
  by_cases h : 0 ≤ n ∧ n ≤ 99999999
  · exact ⟨rkO n.toNat, true, by unfold rkR; rw [if_pos h], (rkO_len _).2, by unfold rnR; rw [if_pos h]⟩
  · exact ⟨[], false, by unfold rkR; rw [if_neg h], by simp, by unfold rnR; rw [if_neg h]; rfl⟩
set_option maxRecDepth 100000 in
set_option maxHeartbeats 1000000 in
theorem sRankNoughts_any (n : Int) (w : World) : Calls Tryd.prog 17 #[.int .i64 n] w fun e w' => e = .returned (rnR n) ∧ Below w.heap.size w w' := by
  have C := Lib.hid (sRankOf_any n w)
  obtain ⟨l, b, e1, hl, e2⟩ := rkR_form n
  have Hf := Lib.hid e2
  rw [e1] at C
  clear e1 e2
  go_enter Tryd.func17, Tryd.ntmps17
  go_wp2_with fail
  refine C.out.mono ?_
  rintro e w1 ⟨rfl, g1⟩
  have G1 := Lib.hid g1; clear g1 C
  go_wp2_with fail
  go_loopw [6, 7] (fun c i wr => ∃ k : Nat, k ≤ l.length ∧ i = .int .i64 k ∧ c = .int .i64 (nts (l.take k) : Nat) ∧ wr = w1) (fun _ i _ => l.length - (intOf i).toNat)
  case atStart => exact ⟨0, by omega, rfl, rfl, rfl⟩
  case round =>
    obtain ⟨k, hk, rfl, rfl, rfl⟩ := hrel
    by_cases hlt : k < l.length
    · have hs := nts_succ l k hlt
      have hn1 := nts_le (l.take k)
      rw [List.length_take] at hn1
      have hn2 : nts (l.take k) ≤ 16 := by omega
      have hlt' : k < (⟨l.toArray⟩ : ByteArray).size := hlt
      by_cases h1 : l[k] = 111
      · rw [if_pos h1] at hs
        have Hs := Lib.hid hs
        have hq : ((((⟨l.toArray⟩ : ByteArray)[k]'hlt').toNat : Int)) = 111 := rbytes_at l k hlt 111 h1 _
        clear hs h1 hn1
        go_wp2_with fail
        go_roundw
        case rel => exact ⟨k + 1, by omega, by go_num, by rw [Hs.out]; go_num, trivial⟩
        case measure => simp [intOf]; omega
      · rw [if_neg h1] at hs
        have Hs := Lib.hid hs
        have q1 : ((((⟨l.toArray⟩ : ByteArray)[k]'hlt').toNat : Int) == 111) = false := rbyte_ne l[k] 111 (by omega) h1
        clear hs h1 hn1
        go_wp2_with fail
        go_roundw
        case rel => exact ⟨k + 1, by omega, by go_num, by rw [Hs.out]; rfl, trivial⟩
        case measure => simp [intOf]; omega
    · obtain rfl : k = l.length := by omega
      rw [List.take_length]
      go_wp2_with fail
      go_ret2
      exact ⟨rret Hf.out.symm, G1.out⟩
/-- RankSum's answer -/
def rsR (l m : List UInt8) : Value := if rrB l = true ∧ rrB m = true then rkR ((rkN l : Int) + (rkN m : Int)) else .tuple #[.string ⟨#[]⟩, .bool false]
set_option maxRecDepth 100000 in
set_option maxHeartbeats 1000000 in
theorem sRankSum_any (l m : List UInt8) (w : World) (hl : l.length ≤ 1048576) (hm : m.length ≤ 1048576) : Calls Tryd.prog 25 #[.string ⟨l.toArray⟩, .string ⟨m.toArray⟩] w fun e w' => e = .returned (rsR l m) ∧ Below w.heap.size w w' := by
  have C := Lib.hid (fun w => sRankRead_any l w hl)
  have D := Lib.hid (fun w => sRankRead_any m w hm)
  have O := Lib.hid (fun w => sRankOf_any ((rkN l : Int) + (rkN m : Int)) w)
  by_cases h1 : rrB l = true
  · rw [show rrR l = .tuple #[.int .i64 (rkN l : Nat), .bool true] by unfold rrR; rw [if_pos h1]] at C
    have b1 := ((rrB_spec l).1 h1).2.1
    by_cases h2 : rrB m = true
    · have Hf : Hid (rsR l m = rkR ((rkN l : Int) + (rkN m : Int))) := Lib.hid (by unfold rsR; rw [if_pos ⟨h1, h2⟩])
      have b2 := ((rrB_spec m).1 h2).2.1
      rw [show rrR m = .tuple #[.int .i64 (rkN m : Nat), .bool true] by unfold rrR; rw [if_pos h2]] at D
      clear h1 h2
      obtain ⟨T, bb, e1, _, _⟩ := rkR_form ((rkN l : Int) + (rkN m : Int))
      rw [e1] at O Hf
      clear e1
      generalize rkN l = a at *
      generalize rkN m = b at *
      go_enter Tryd.func25, Tryd.ntmps25
      go_wp2_with fail
      refine (C.out _).mono ?_
      rintro e w1 ⟨rfl, g1⟩
      have G1 := Lib.hid g1; clear g1 C
      go_wp2_with fail
      refine (D.out _).mono ?_
      rintro e w2 ⟨rfl, g2⟩
      have G2 := Lib.hid (G1.out.trans (g2.mono G1.out.size)); clear g2 D G1
      go_wp2_with fail
      refine (O.out _).mono ?_
      rintro e w3 ⟨rfl, g3⟩
      have G3 := Lib.hid (G2.out.trans (g3.mono G2.out.size)); clear g3 O G2
      go_wp2_with fail
      go_ret2
      exact ⟨rret Hf.out.symm, G3.out⟩
    · have Hf : Hid (rsR l m = .tuple #[.string ⟨#[]⟩, .bool false]) := Lib.hid (by unfold rsR; rw [if_neg (fun h => h2 h.2)])
      rw [show rrR m = .tuple #[.int .i64 0, .bool false] by unfold rrR; rw [if_neg h2]] at D
      clear h1 h2
      go_enter Tryd.func25, Tryd.ntmps25
      go_wp2_with fail
      refine (C.out _).mono ?_
      rintro e w1 ⟨rfl, g1⟩
      have G1 := Lib.hid g1; clear g1 C
      go_wp2_with fail
      refine (D.out _).mono ?_
      rintro e w2 ⟨rfl, g2⟩
      have G2 := Lib.hid (G1.out.trans (g2.mono G1.out.size)); clear g2 D G1
      go_wp2_with fail
      go_ret2
      exact ⟨rret Hf.out.symm, G2.out⟩
  · have Hf : Hid (rsR l m = .tuple #[.string ⟨#[]⟩, .bool false]) := Lib.hid (by unfold rsR; rw [if_neg (fun h => h1 h.1)])
    rw [show rrR l = .tuple #[.int .i64 0, .bool false] by unfold rrR; rw [if_neg h1]] at C
    clear h1
    have Hm : Hid (∃ v b, rrR m = .tuple #[v, .bool b] ∧ ∃ x : Nat, v = .int .i64 x) := Lib.hid (by
      unfold rrR
      split
      · exact ⟨_, _, rfl, _, rfl⟩
      · exact ⟨_, _, rfl, 0, rfl⟩)
    obtain ⟨v, b, e1, x, rfl⟩ := Hm.out
    rw [e1] at D
    clear Hm e1
    go_enter Tryd.func25, Tryd.ntmps25
    go_wp2_with fail
    refine (C.out _).mono ?_
    rintro e w1 ⟨rfl, g1⟩
    have G1 := Lib.hid g1; clear g1 C
    go_wp2_with fail
    refine (D.out _).mono ?_
    rintro e w2 ⟨rfl, g2⟩
    have G2 := Lib.hid (G1.out.trans (g2.mono G1.out.size)); clear g2 D G1
    go_wp2_with fail
    go_ret2
    exact ⟨rret Hf.out.symm, G2.out⟩
end Go.Proofs.YtagipmfkmikagaaDoor
