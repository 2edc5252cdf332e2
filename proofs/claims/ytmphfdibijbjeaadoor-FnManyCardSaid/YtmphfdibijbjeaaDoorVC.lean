/- The model's chapter 7 (package spec): StrokeRead, StrokeMany, StrokeNear. -/
import Derived.Test.YtmphfdibijbjeaaDoorVB
import Derived.Laws.Bits64
import Derived.Laws.BitsLemmas
namespace Go.Proofs.YtmphfdibijbjeaaDoor
open Go.RowKit
set_option linter.unusedVariables false
set_option maxRecDepth 100000
/-- StrokeRead's answer -/
def skB (s : Nat) : Bool := decide (0 ≤ fdK (fld s 0) 10) && decide (0 ≤ fdK (fld s 1) 10) && decide (0 ≤ fdK (fld s 2) 10) && decide (0 ≤ fdK (fld s 3) 10)
theorem skB_spec (s : Nat) : skB s = true ↔ rall s 4 := by
  unfold skB
  rw [Bool.and_eq_true, Bool.and_eq_true, Bool.and_eq_true, decide_eq_true_eq, decide_eq_true_eq, decide_eq_true_eq, decide_eq_true_eq]
  constructor
  · rintro ⟨⟨⟨h0, h1⟩, h2⟩, h3⟩ j hj
    rcases (show j = 0 ∨ j = 1 ∨ j = 2 ∨ j = 3 by omega) with rfl | rfl | rfl | rfl <;> assumption
  · intro h
    exact ⟨⟨⟨h 0 (by omega), h 1 (by omega)⟩, h 2 (by omega)⟩, h 3 (by omega)⟩
def srR (s : Int) : Value := if (0 ≤ s ∧ s ≤ 1048575) ∧ skB s.toNat = true then .tuple #[.int .i64 (rsum s.toNat 4), .bool true] else .tuple #[.int .i64 0, .bool false]
theorem srR_yes (s : Nat) (h1 : s ≤ 1048575) (h2 : rall s 4) : srR (s : Int) = .tuple #[.int .i64 (rsum s 4), .bool true] := by unfold srR; rw [if_pos ⟨by omega, (skB_spec _).2 h2⟩]; rfl
theorem srR_no (s : Int) (h : ¬ (0 ≤ s ∧ s ≤ 1048575)) : srR s = .tuple #[.int .i64 0, .bool false] := by unfold srR; rw [if_neg (fun h' => h h'.1)]
theorem srR_not (s i : Nat) (hi : i < 4) (h : fdK (fld s i) 10 = -1) : srR (s : Int) = .tuple #[.int .i64 0, .bool false] := by
  unfold srR
  rw [if_neg (fun h' => by have := (skB_spec _).1 h'.2 i hi; rw [show ((s : Int)).toNat = s from rfl] at this; omega)]
/-- StrokeMany's answer -/
def smR (k : Int) : Value := if 0 ≤ k ∧ k ≤ 12 then .tuple #[.int .i64 (mny k.toNat 10000 : Nat), .bool true] else .tuple #[.int .i64 0, .bool false]
set_option maxRecDepth 100000 in
set_option maxHeartbeats 400000 in
theorem sStrokeMany_any (k : Int) (w : World) : Calls Tryd.prog 7 #[.int .i64 k] w fun e w' => e = .returned (smR k) ∧ Below w.heap.size w w' := by
  have C := Lib.hid (in_any k 0 12 w)
  by_cases h : 0 ≤ k ∧ k ≤ 12
  · rw [show decide (0 ≤ k ∧ k ≤ 12) = true from decide_eq_true h] at C
    obtain ⟨K, rfl⟩ := Int.eq_ofNat_of_zero_le h.1
    have hT : ∃ T : Nat, Hid (smR (K : Int) = .tuple #[.int .i64 T, .bool true]) ∧ Hid (∀ c, mny K 10000 = c → T = c) := ⟨mny K 10000, Lib.hid (by unfold smR; rw [if_pos h]; rfl), Lib.hid fun c h => h⟩
    obtain ⟨T, Hf, HT⟩ := hT
    clear h
    go_enter Tryd.func7, Tryd.ntmps7
    go_wp2_with fail
    refine C.out.mono ?_
    rintro e w1 ⟨rfl, rfl⟩
    go_wp2_with fail
    go_loopw [4, 5] (fun m n wr => ∃ (j c : Nat), Hid (j ≤ 10000 ∧ c ≤ j) ∧ n = .int .i64 j ∧ m = .int .i64 c ∧ Hid (mny K j = c) ∧ Hid (Below w.heap.size w wr)) (fun _ n _ => (10000 - intOf n).toNat)
    case atStart => exact ⟨0, 0, Lib.hid ⟨by omega, by omega⟩, rfl, rfl, Lib.hid rfl, Lib.hid (Below.refl _ _)⟩
    case round =>
      obtain ⟨j, c, HJ, rfl, rfl, Hc, Hw⟩ := hrel
      by_cases hlt : j ≤ 9999
      · have O := Lib.hid (fun w => l7Of_any j w (by omega))
        have hji : (j : Int) ≤ 9999 := by omega
        have hci : (c : Int) ≤ 9999 := by have := HJ.out; omega
        have D := Lib.hid (fun w => l7Count_any (vsg j) w (sg_lt j))
        have Hs : Hid (mny K (j + 1) = mny K j + (if bc (vsg j) = K then 1 else 0)) := Lib.hid rfl
        rw [Hc.out] at Hs
        by_cases he : bc (vsg j) = K
        · rw [if_pos he] at Hs
          have hq : ((bc (vsg j) : Nat) : Int) = (K : Int) := by omega
          rw [hq] at D
          clear he hq hlt
          generalize vsg j = sj at *
          go_wp2_with fail
          refine (O.out _).mono ?_
          rintro e w2 ⟨rfl, g2⟩
          have G2 := Lib.hid (Hw.out.trans (g2.mono Hw.out.size)); clear g2
          go_wp2_with fail
          refine (D.out _).mono ?_
          rintro e w3 ⟨rfl, rfl⟩
          go_wp2_with fail
          go_roundw
          case rel => exact ⟨j + 1, c + 1, Lib.hid (by have := HJ.out; omega), by go_num, by go_num, Hs, G2⟩
          case measure => simp [intOf]; omega
        · rw [if_neg he] at Hs
          have hq : (((bc (vsg j) : Nat) : Int) == (K : Int)) = false := by rw [beq_eq_false_iff_ne]; omega
          generalize bc (vsg j) = y at *
          generalize vsg j = sj at *
          clear he hlt
          go_wp2_with fail
          refine (O.out _).mono ?_
          rintro e w2 ⟨rfl, g2⟩
          have G2 := Lib.hid (Hw.out.trans (g2.mono Hw.out.size)); clear g2
          go_wp2_with fail
          refine (D.out _).mono ?_
          rintro e w3 ⟨rfl, rfl⟩
          go_wp2_with fail
          go_roundw
          case rel => exact ⟨j + 1, c, Lib.hid (by have := HJ.out; omega), by go_num, rfl, Hs, G2⟩
          case measure => simp [intOf]; omega
      · obtain rfl : j = 10000 := by have := HJ.out; omega
        obtain rfl := HT.out c Hc.out
        go_wp2_with fail
        go_ret2
        exact ⟨vret Hf.out.symm, Hw.out⟩
  · have Hf : Hid (smR k = .tuple #[.int .i64 0, .bool false]) := Lib.hid (by unfold smR; rw [if_neg h])
    rw [show decide (0 ≤ k ∧ k ≤ 12) = false from decide_eq_false h] at C
    clear h
    go_enter Tryd.func7, Tryd.ntmps7
    go_wp2_with fail
    refine C.out.mono ?_
    rintro e w1 ⟨rfl, rfl⟩
    go_wp2_with fail
    go_ret2
    exact ⟨vret Hf.out.symm, Below.refl _ _⟩
theorem i64_xor (a b : Nat) (ha : a < 9223372036854775808) (hb : b < 9223372036854775808) : bits .xor .i64 (a : Int) (b : Int) = ((a ^^^ b : Nat) : Int) := by
  have hx : a ^^^ b < 2 ^ 63 := Nat.xor_lt_two_pow (n := 63) ha hb
  have h1 : (BitVec.ofInt 64 (a : Int)).toNat = a := by
    rw [BitVec.ofInt_natCast, BitVec.toNat_ofNat]; exact Nat.mod_eq_of_lt (by omega)
  have h2 : (BitVec.ofInt 64 (b : Int)).toNat = b := by
    rw [BitVec.ofInt_natCast, BitVec.toNat_ofNat]; exact Nat.mod_eq_of_lt (by omega)
  show IntKind.i64.wrap ((BitVec.ofInt 64 (a : Int) ^^^ BitVec.ofInt 64 (b : Int)).toNat : Int) = _
  rw [BitVec.toNat_xor, h1, h2]
  exact IntWalk.i64_in _ (by omega)
/-- StrokeNear's answer -/
def nrV (m n : Int) : Value := if (0 ≤ m ∧ m ≤ 9999) ∧ (0 ≤ n ∧ n ≤ 9999) then .tuple #[.int .i64 (bc (vsg m.toNat ^^^ vsg n.toNat) : Nat), .bool true] else .tuple #[.int .i64 0, .bool false]
end Go.Proofs.YtmphfdibijbjeaaDoor
