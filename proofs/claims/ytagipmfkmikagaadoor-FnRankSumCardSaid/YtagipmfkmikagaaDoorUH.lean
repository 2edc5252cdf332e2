/- The exact laws of chapter 6: their walks (printed by genu.py). -/
import Derived.Test.YtagipmfkmikagaaDoorUP
namespace Go.Proofs.YtagipmfkmikagaaDoor
open Go.RowKit
set_option linter.unusedVariables false
set_option maxRecDepth 100000
def I64Ok (x : Int) : Prop := -9223372036854775808 ≤ x ∧ x ≤ 9223372036854775807
theorem i64_ok {x : Int} (h : (Lit.int .i64 x).wf = true) : I64Ok x := by
  simp only [Lit.wf, Bool.and_eq_true, decide_eq_true_eq] at h
  exact h
theorem bytes_list (s : ByteArray) : ∃ l : List UInt8, s = ⟨l.toArray⟩ ∧ s.size = l.length := ⟨s.data.toList, by simp, by simp⟩
theorem rkR_val (n : Int) : ∃ (x : ByteArray) (b : Bool), rkR n = .tuple #[.string x, .bool b] := by
  obtain ⟨l, b, h, _⟩ := rkR_form n
  exact ⟨_, b, h⟩
theorem rhR_val (n : Int) : ∃ (x : ByteArray) (b : Bool), rhR n = .tuple #[.string x, .bool b] := by
  obtain ⟨l, b, _, _, _, h⟩ := rhR_form n
  exact ⟨_, b, h⟩
theorem rnR_val (n : Int) : ∃ (x : Nat) (b : Bool), rnR n = .tuple #[.int .i64 x, .bool b] := by
  obtain ⟨l, b, _, _, h⟩ := rkR_form n
  exact ⟨_, b, h⟩
theorem rlR_val (n : Int) : ∃ (x : Nat) (b : Bool), rlR n = .tuple #[.int .i64 x, .bool b] := by
  unfold rlR
  split
  · exact ⟨_, _, rfl⟩
  · exact ⟨0, _, rfl⟩
/-- RankRead's answer is a number and a yes or no; yes: the number's text is the text -/
theorem rrR_form (l : List UInt8) : ∃ (x : Nat) (b : Bool), rrR l = .tuple #[.int .i64 x, .bool b] ∧ (b = true → x ≤ 99999999 ∧ rkO x = l) := by
  unfold rrR
  split
  · rename_i h
    obtain ⟨_, h2, h3⟩ := (rrB_spec l).1 h
    exact ⟨_, _, rfl, fun _ => ⟨h2, h3⟩⟩
  · exact ⟨0, false, rfl, fun h => by cases h⟩
/-- RankSum's answer is a text and a yes or no -/
theorem rsR_form (l m : List UInt8) : ∃ (x : List UInt8) (b : Bool), rsR l m = .tuple #[.string ⟨x.toArray⟩, .bool b] ∧ (b = true → rrB l = true ∧ rrB m = true ∧ rkN l + rkN m ≤ 99999999 ∧ x = rkO (rkN l + rkN m)) := by
  unfold rsR
  split
  · rename_i h
    unfold rkR
    split
    · rename_i hh
      exact ⟨_, _, rfl, fun _ => ⟨h.1, h.2, by omega, by congr 1⟩⟩
    · exact ⟨[], false, rfl, fun h => by cases h⟩
  · exact ⟨[], false, rfl, fun h => by cases h⟩
set_option maxHeartbeats 1000000 in
theorem wFnExactRankOf (x0 : Int) (u0 : World) (h0 : (Lit.int .i64 x0).wf = true) (hRV : RV u0) : Calls Tryd.prog 5 #[.int .i64 x0] u0 fun e w' => e = .returned (.bool true) ∧ Below u0.heap.size u0 w' := by
  have HR := Lib.hid hRV
  clear h0 hRV
  obtain ⟨x, b, hx⟩ := rkR_val x0
  have C1 := Lib.hid (fun (w : World) (_ : RV w) => sRankOf_any x0 w)
  have C2 := Lib.hid (fun (w : World) (hR : RV w) => iRankOf_any x0 w hR)
  rw [hx] at C1 C2
  clear hx
  go_enter Tryd.func5, Tryd.ntmps5
  go_wp2_with fail
  refine (C1.out _ HR.out).mono ?_
  rintro e u1 ⟨rfl, hb⟩
  have G1 := Lib.hid hb; clear hb C1
  go_wp2_with fail
  refine (C2.out _ (HR.out.step G1.out)).mono ?_
  rintro e u2 ⟨rfl, hb⟩
  have G2 := Lib.hid (bel_chain G1.out hb); clear hb C2 G1
  go_wp2_with fail
  go_ret
  exact ⟨rfl, G2.out⟩
set_option maxHeartbeats 1000000 in
theorem wFnExactRankNoughts (x0 : Int) (u0 : World) (h0 : (Lit.int .i64 x0).wf = true) (hRV : RV u0) : Calls Tryd.prog 4 #[.int .i64 x0] u0 fun e w' => e = .returned (.bool true) ∧ Below u0.heap.size u0 w' := by
  have HR := Lib.hid hRV
  clear h0 hRV
  obtain ⟨x, b, hx⟩ := rnR_val x0
  have C1 := Lib.hid (fun (w : World) (_ : RV w) => sRankNoughts_any x0 w)
  have C2 := Lib.hid (fun (w : World) (hR : RV w) => iRankNoughts_any x0 w hR)
  rw [hx] at C1 C2
  clear hx
  go_enter Tryd.func4, Tryd.ntmps4
  go_wp2_with fail
  refine (C1.out _ HR.out).mono ?_
  rintro e u1 ⟨rfl, hb⟩
  have G1 := Lib.hid hb; clear hb C1
  go_wp2_with fail
  refine (C2.out _ (HR.out.step G1.out)).mono ?_
  rintro e u2 ⟨rfl, hb⟩
  have G2 := Lib.hid (bel_chain G1.out hb); clear hb C2 G1
  go_wp2_with fail
  go_ret
  exact ⟨rfl, G2.out⟩
set_option maxHeartbeats 1000000 in
theorem wFnExactRankShort (x0 : Int) (u0 : World) (h0 : (Lit.int .i64 x0).wf = true) (hRV : RV u0) : Calls Tryd.prog 7 #[.int .i64 x0] u0 fun e w' => e = .returned (.bool true) ∧ Below u0.heap.size u0 w' := by
  have HR := Lib.hid hRV
  clear h0 hRV
  obtain ⟨x, b, hx⟩ := rhR_val x0
  have C1 := Lib.hid (fun (w : World) (_ : RV w) => sRankShort_any x0 w)
  have C2 := Lib.hid (fun (w : World) (hR : RV w) => iRankShort_any x0 w hR)
  rw [hx] at C1 C2
  clear hx
  go_enter Tryd.func7, Tryd.ntmps7
  go_wp2_with fail
  refine (C1.out _ HR.out).mono ?_
  rintro e u1 ⟨rfl, hb⟩
  have G1 := Lib.hid hb; clear hb C1
  go_wp2_with fail
  refine (C2.out _ (HR.out.step G1.out)).mono ?_
  rintro e u2 ⟨rfl, hb⟩
  have G2 := Lib.hid (bel_chain G1.out hb); clear hb C2 G1
  go_wp2_with fail
  go_ret
  exact ⟨rfl, G2.out⟩
set_option maxHeartbeats 1000000 in
theorem wFnExactRankLong (x0 : Int) (u0 : World) (h0 : (Lit.int .i64 x0).wf = true) (hRV : RV u0) : Calls Tryd.prog 3 #[.int .i64 x0] u0 fun e w' => e = .returned (.bool true) ∧ Below u0.heap.size u0 w' := by
  have HR := Lib.hid hRV
  clear h0 hRV
  obtain ⟨x, b, hx⟩ := rlR_val x0
  have C1 := Lib.hid (fun (w : World) (_ : RV w) => sRankLong_any x0 w)
  have C2 := Lib.hid (fun (w : World) (hR : RV w) => iRankLong_any x0 w hR)
  rw [hx] at C1 C2
  clear hx
  go_enter Tryd.func3, Tryd.ntmps3
  go_wp2_with fail
  refine (C1.out _ HR.out).mono ?_
  rintro e u1 ⟨rfl, hb⟩
  have G1 := Lib.hid hb; clear hb C1
  go_wp2_with fail
  refine (C2.out _ (HR.out.step G1.out)).mono ?_
  rintro e u2 ⟨rfl, hb⟩
  have G2 := Lib.hid (bel_chain G1.out hb); clear hb C2 G1
  go_wp2_with fail
  go_ret
  exact ⟨rfl, G2.out⟩
set_option maxHeartbeats 1000000 in
theorem wFnExactRankRead (s0 : ByteArray) (u0 : World) (h0 : s0.size ≤ maxLen) (hRV : RV u0) : Calls Tryd.prog 6 #[.string s0] u0 fun e w' => e = .returned (.bool true) ∧ Below u0.heap.size u0 w' := by
  have HR := Lib.hid hRV; clear hRV
  obtain ⟨l, rfl, hl⟩ := bytes_list s0
  have HL := Lib.hid hl
  by_cases big : 1048576 < l.length
  · have bg : 1048576 < (⟨l.toArray⟩ : ByteArray).size := by omega
    unfold maxLen at h0
    clear hl
    have hq : l.length ≤ 9223372036854775807 := by have := HL.out; omega
    go_enter Tryd.func6, Tryd.ntmps6
    go_wp2_with fail
    go_ret
    exact ⟨rfl, Below.refl _ _⟩
  · have hq : l.length ≤ 1048576 := by omega
    obtain ⟨x, b, hx, _⟩ := rrR_form l
    have C1 := Lib.hid (fun (w : World) (_ : RV w) => sRankRead_any l w hq)
    have C2 := Lib.hid (fun (w : World) (hR : RV w) => iRankRead_any l w hR hq)
    rw [hx] at C1 C2
    clear hx hl h0 big
    go_enter Tryd.func6, Tryd.ntmps6
    go_wp2_with fail
    refine (C1.out _ HR.out).mono ?_
    rintro e u1 ⟨rfl, hb⟩
    have G1 := Lib.hid hb; clear hb C1
    go_wp2_with fail
    refine (C2.out _ (HR.out.step G1.out)).mono ?_
    rintro e u2 ⟨rfl, hb⟩
    have G2 := Lib.hid (bel_chain G1.out hb); clear hb C2 G1
    go_wp2_with fail
    go_ret
    exact ⟨rfl, G2.out⟩
set_option maxHeartbeats 1000000 in
theorem wFnExactRankSum (s0 s1 : ByteArray) (u0 : World) (h0 : s0.size ≤ maxLen) (h1 : s1.size ≤ maxLen) (hRV : RV u0) : Calls Tryd.prog 8 #[.string s0, .string s1] u0 fun e w' => e = .returned (.bool true) ∧ Below u0.heap.size u0 w' := by
  have HR := Lib.hid hRV; clear hRV
  obtain ⟨l, rfl, hl⟩ := bytes_list s0
  obtain ⟨m, rfl, hm⟩ := bytes_list s1
  have HL := Lib.hid hl
  have HM := Lib.hid hm
  unfold maxLen at h0 h1
  by_cases big : 1048576 < l.length
  · have bg : 1048576 < (⟨l.toArray⟩ : ByteArray).size := by omega
    clear hl hm
    have hq : l.length ≤ 9223372036854775807 := by have := HL.out; omega
    go_enter Tryd.func8, Tryd.ntmps8
    go_wp2_with fail
    go_ret
    exact ⟨rfl, Below.refl _ _⟩
  by_cases big1 : 1048576 < m.length
  · have bg : 1048576 < (⟨m.toArray⟩ : ByteArray).size := by omega
    have bg0 : ¬ 1048576 < (⟨l.toArray⟩ : ByteArray).size := by omega
    clear hl hm
    have hq : l.length ≤ 1048576 := by omega
    have hq1 : m.length ≤ 9223372036854775807 := by have := HM.out; omega
    go_enter Tryd.func8, Tryd.ntmps8
    go_wp2_with fail
    go_ret
    exact ⟨rfl, Below.refl _ _⟩
  · have hq : l.length ≤ 1048576 := by omega
    have hq1 : m.length ≤ 1048576 := by omega
    obtain ⟨x, b, hx, _⟩ := rsR_form l m
    have C1 := Lib.hid (fun (w : World) (_ : RV w) => sRankSum_any l m w hq hq1)
    have C2 := Lib.hid (fun (w : World) (hR : RV w) => iRankSum_any l m w hR hq hq1)
    rw [hx] at C1 C2
    clear hx hl hm h0 h1 big big1
    go_enter Tryd.func8, Tryd.ntmps8
    go_wp2_with fail
    refine (C1.out _ HR.out).mono ?_
    rintro e u1 ⟨rfl, hb⟩
    have G1 := Lib.hid hb; clear hb C1
    go_wp2_with fail
    refine (C2.out _ (HR.out.step G1.out)).mono ?_
    rintro e u2 ⟨rfl, hb⟩
    have G2 := Lib.hid (bel_chain G1.out hb); clear hb C2 G1
    go_wp2_with fail
    go_ret
    exact ⟨rfl, G2.out⟩
end Go.Proofs.YtagipmfkmikagaaDoor
