/- The model's chapter 7 (package spec): StrokeRead, StrokeMany, StrokeNear. -/
import Derived.Test.YtdokdlcmplggfaaDoorVB
import Derived.Laws.Bits64
import Derived.Laws.BitsLemmas
namespace Go.Proofs.YtdokdlcmplggfaaDoor
open Go.RowKit
set_option linter.unusedVariables false
set_option maxRecDepth 100000
/-- StrokeRead's answer -/
def skB (s : Nat) : Bool := decide (0 ≤ fdK (fld s 0) 10) && decide (0 ≤ fdK (fld s 1) 10) && decide (0 ≤ fdK (fld s 2) 10) && decide (0 ≤ fdK (fld s 3) 10)
theorem skB_spec (s : Nat) : skB s = true ↔ rall s 4 := by
  unfold skB
  rw [Bool.and_eq_true, Bool.and_eq_true, Bool.and_eq_true, decide_eq_true_eq, decide_eq_true_eq, decide_eq_true_eq, decide_eq_true_eq]
  constructor
  · rintro ⟨⟨⟨h0, h1⟩, h2⟩, h3⟩ j hj
    rcases (show j = 0 ∨ j = 1 ∨ j = 2 ∨ j = 3 by omega) with rfl | rfl | rfl | rfl <;> assumption
  · intro h
    exact ⟨⟨⟨h 0 (by omega), h 1 (by omega)⟩, h 2 (by omega)⟩, h 3 (by omega)⟩
def srR (s : Int) : Value := if (0 ≤ s ∧ s ≤ 1048575) ∧ skB s.toNat = true then .tuple #[.int .i64 (rsum s.toNat 4), .bool true] else .tuple #[.int .i64 0, .bool false]
theorem srR_yes (s : Nat) (h1 : s ≤ 1048575) (h2 : rall s 4) : srR (s : Int) = .tuple #[.int .i64 (rsum s 4), .bool true] := by unfold srR; rw [if_pos ⟨by omega, (skB_spec _).2 h2⟩]; rfl
theorem srR_no (s : Int) (h : ¬ (0 ≤ s ∧ s ≤ 1048575)) : srR s = .tuple #[.int .i64 0, .bool false] := by unfold srR; rw [if_neg (fun h' => h h'.1)]
theorem srR_not (s i : Nat) (hi : i < 4) (h : fdK (fld s i) 10 = -1) : srR (s : Int) = .tuple #[.int .i64 0, .bool false] := by
  unfold srR
  rw [if_neg (fun h' => by have := (skB_spec _).1 h'.2 i hi; rw [show ((s : Int)).toNat = s from rfl] at this; omega)]
set_option maxRecDepth 100000 in
set_option maxHeartbeats 2000000 in
theorem sStrokeRead_any (s : Int) (w : World) : Calls Tryd.prog 20 #[.int .i64 s] w fun e w' => e = .returned (srR s) ∧ Below w.heap.size w w' := by
  have C := Lib.hid (in_any s 0 1048575 w)
  by_cases h : 0 ≤ s ∧ s ≤ 1048575
  · rw [show decide (0 ≤ s ∧ s ≤ 1048575) = true from decide_eq_true h] at C
    obtain ⟨S, rfl⟩ := Int.eq_ofNat_of_zero_le h.1
    have hS : S ≤ 1048575 := by omega
    have D := Lib.hid (l7Marks_any w)
    clear h
    go_enter Tryd.func20, Tryd.ntmps20
    go_wp2_with fail
    refine C.out.mono ?_
    rintro e w1 ⟨rfl, rfl⟩
    go_wp2_with fail
    refine D.out.mono ?_
    rintro e w1 ⟨rfl, hc, g1⟩
    have G1 := Lib.hid g1; have HC := Lib.hid hc; clear g1 C D hc
    go_wp2_with fail
    go_loopw [0, 5, 6, 7] (fun x n st i wr => ∃ (j y t : Nat) (v : Int), j ≤ 4 ∧ x = .int .i64 y ∧ n = .int .i64 v ∧ st = .int .i64 t ∧ i = .int .i64 j ∧ y ≤ 1048575 ∧ 0 ≤ v ∧ v ≤ 9999 ∧ t ≤ 10000 ∧ Hid (y = S / 32 ^ j ∧ v = rsum S j ∧ t = 10 ^ j ∧ rall S j) ∧ ∃ q, wr = w1.drewN q) (fun _ _ _ i _ => 4 - (intOf i).toNat)
    case atStart => exact ⟨0, S, 1, 0, by omega, rfl, rfl, rfl, rfl, hS, by omega, by omega, by omega, Lib.hid ⟨by simp, rfl, rfl, fun j hj => by omega⟩, 0, rfl⟩
    case round =>
      obtain ⟨j, y, t, v, hj, rfl, rfl, rfl, rfl, hy, hv0, hv1, ht, Hi, q1, rfl⟩ := hrel
      by_cases hlt : j < 4
      · have hf : y % 32 = fld S j := by unfold fld; rw [Hi.out.1]
        have hf2 : (y : Int) % 32 = ((fld S j : Nat) : Int) := by omega
        have hor := fdK_or (fld S j) 10
        have HO := Lib.hid hor; clear hor hf
        obtain ⟨F, HF⟩ : ∃ F, Hid (fld S j = F) := ⟨_, Lib.hid rfl⟩
        rw [HF.out] at hf2 HO
        go_wp2_with fail
        go_loopw [8, 9] (fun d k wi => ∃ (m : Nat) (x : Int), m ≤ 10 ∧ k = .int .i64 m ∧ d = .int .i64 x ∧ -1 ≤ x ∧ x ≤ 9 ∧ Hid (x = fdK F m) ∧ ∃ q, wi = w1.drewN q) (fun _ k _ => 10 - (intOf k).toNat)
        case atStart => exact ⟨0, -1, by omega, rfl, rfl, by omega, by omega, Lib.hid rfl, _, rfl⟩
        case round =>
          obtain ⟨m, x, hm, rfl, rfl, hx0, hx1, Hx, q, rfl⟩ := hrel
          by_cases hml : m < 10
          · have hc := HC.out m hml
            have Hs : Hid (fdK F (m + 1) = if mkd m = F then (m : Int) else fdK F m) := Lib.hid rfl
            rw [← Hx.out] at Hs
            by_cases he : mkd m = F
            · rw [if_pos he] at Hs
              have hq : ((mkd m : Nat) : Int) = (F : Int) := by omega
              rw [hq] at hc
              clear he hq
              go_wp2_with fail
              go_roundw
              case rel => exact ⟨m + 1, m, by omega, by go_num, rfl, by omega, by omega, Lib.hid Hs.out.symm, _, rfl⟩
              case measure => simp [intOf]; omega
            · rw [if_neg he] at Hs
              have hq : (((mkd m : Nat) : Int) == (F : Int)) = false := by rw [beq_eq_false_iff_ne]; omega
              generalize mkd m = y0 at *
              clear he
              go_wp2_with fail
              go_roundw
              case rel => exact ⟨m + 1, x, by omega, by go_num, rfl, by omega, by omega, Lib.hid Hs.out.symm, _, rfl⟩
              case measure => simp [intOf]; omega
          · obtain rfl : m = 10 := by omega
            by_cases hx : x < 0
            · have Hf : Hid (srR (S : Int) = .tuple #[.int .i64 0, .bool false]) := Lib.hid (srR_not S j hlt (by rw [HF.out, ← Hx.out]; omega))
              go_wp2_with fail
              go_ret2
              exact ⟨vret Hf.out.symm, bel_drewN G1.out _⟩
            · obtain ⟨i1, i2, i3, i4⟩ := Hi.out
              have hall : rall S (j + 1) := fun j' hj' => by
                by_cases e : j' = j
                · rw [e, HF.out, ← Hx.out]; omega
                · exact i4 j' (by omega)
              have hsum : rsum S (j + 1) = v + x * (t : Int) := by
                show rsum S j + fdK (fld S j) 10 * ((10 ^ j : Nat) : Int) = _
                rw [HF.out, ← Hx.out, ← i2, ← i3]
              have hbd := rsum_bd S (j + 1) (by omega) hall
              have hpw : 10 ^ (j + 1) ≤ 10 ^ 4 := Nat.pow_le_pow_right (by omega) (by omega)
              have e4 : (10 : Nat) ^ 4 = 10000 := by decide
              have ht2 : 10 * t ≤ 10000 := by have : 10 ^ (j + 1) = 10 ^ j * 10 := Nat.pow_succ _ _; omega
              rw [hsum] at hbd
              have hxt : 0 ≤ x * (t : Int) := Int.mul_nonneg (by omega) (by omega)
              have hb1 : v + x * (t : Int) ≤ 9999 := by omega
              have hw1 : IntKind.i64.wrap (x * (t : Int)) = x * (t : Int) := IntWalk.i64_in _ (by omega)
              have hw2 : IntKind.i64.wrap (v + x * (t : Int)) = v + x * (t : Int) := IntWalk.i64_in _ (by omega)
              have hy2 : (y : Int) / 32 = ((y / 32 : Nat) : Int) := by omega
              have HN : Hid (y / 32 = S / 32 ^ (j + 1) ∧ v + x * (t : Int) = rsum S (j + 1) ∧ 10 * t = 10 ^ (j + 1) ∧ rall S (j + 1)) := Lib.hid ⟨by rw [i1, Nat.pow_succ, Nat.div_div_eq_div_mul], hsum.symm, by rw [i3, Nat.pow_succ]; omega, hall⟩
              have hy3 : y / 32 ≤ 1048575 := by omega
              have hv3 : 0 ≤ v + x * (t : Int) := by omega
              clear i1 i2 i3 i4 hall hsum hbd hpw e4
              generalize y / 32 = yb at *
              go_wp2_with fail
              go_roundw
              case rel => exact ⟨j + 1, yb, 10 * t, v + x * t, by omega, by go_num, by go_num, by go_num, by go_num, hy3, hv3, hb1, by omega, HN, _, rfl⟩
              case measure => simp [intOf]; omega
      · obtain rfl : j = 4 := by omega
        have Hf := Lib.hid (srR_yes S hS Hi.out.2.2.2)
        rw [← Hi.out.2.1] at Hf
        go_wp2_with fail
        go_ret2
        exact ⟨vret Hf.out.symm, bel_drewN G1.out _⟩
  · have Hf := Lib.hid (srR_no s h)
    rw [show decide (0 ≤ s ∧ s ≤ 1048575) = false from decide_eq_false h] at C
    clear h
    go_enter Tryd.func20, Tryd.ntmps20
    go_wp2_with fail
    refine C.out.mono ?_
    rintro e w1 ⟨rfl, rfl⟩
    go_wp2_with fail
    go_ret2
    exact ⟨vret Hf.out.symm, Below.refl _ _⟩
/-- StrokeMany's answer -/
def smR (k : Int) : Value := if 0 ≤ k ∧ k ≤ 12 then .tuple #[.int .i64 (mny k.toNat 10000 : Nat), .bool true] else .tuple #[.int .i64 0, .bool false]
theorem i64_xor (a b : Nat) (ha : a < 9223372036854775808) (hb : b < 9223372036854775808) : bits .xor .i64 (a : Int) (b : Int) = ((a ^^^ b : Nat) : Int) := by
  have hx : a ^^^ b < 2 ^ 63 := Nat.xor_lt_two_pow (n := 63) ha hb
  have h1 : (BitVec.ofInt 64 (a : Int)).toNat = a := by
    rw [BitVec.ofInt_natCast, BitVec.toNat_ofNat]; exact Nat.mod_eq_of_lt (by omega)
  have h2 : (BitVec.ofInt 64 (b : Int)).toNat = b := by
    rw [BitVec.ofInt_natCast, BitVec.toNat_ofNat]; exact Nat.mod_eq_of_lt (by omega)
  show IntKind.i64.wrap ((BitVec.ofInt 64 (a : Int) ^^^ BitVec.ofInt 64 (b : Int)).toNat : Int) = _
  rw [BitVec.toNat_xor, h1, h2]
  exact IntWalk.i64_in _ (by omega)
/-- StrokeNear's answer -/
def nrV (m n : Int) : Value := if (0 ≤ m ∧ m ≤ 9999) ∧ (0 ≤ n ∧ n ≤ 9999) then .tuple #[.int .i64 (bc (vsg m.toNat ^^^ vsg n.toNat) : Nat), .bool true] else .tuple #[.int .i64 0, .bool false]
set_option maxRecDepth 100000 in
set_option maxHeartbeats 1000000 in
theorem sStrokeNear_any (m n : Int) (w : World) : Calls Tryd.prog 32 #[.int .i64 m, .int .i64 n] w fun e w' => e = .returned (nrV m n) ∧ Below w.heap.size w w' := by
  have C := Lib.hid (fun w => in_any m 0 9999 w)
  have D := Lib.hid (fun w => in_any n 0 9999 w)
  by_cases h : 0 ≤ m ∧ m ≤ 9999
  · rw [show decide (0 ≤ m ∧ m ≤ 9999) = true from decide_eq_true h] at C
    by_cases h' : 0 ≤ n ∧ n ≤ 9999
    · rw [show decide (0 ≤ n ∧ n ≤ 9999) = true from decide_eq_true h'] at D
      obtain ⟨u, rfl⟩ := Int.eq_ofNat_of_zero_le h.1
      obtain ⟨v, rfl⟩ := Int.eq_ofNat_of_zero_le h'.1
      have Hf : Hid (nrV (u : Int) (v : Int) = .tuple #[.int .i64 (bc (vsg u ^^^ vsg v) : Nat), .bool true]) := Lib.hid (by unfold nrV; rw [if_pos ⟨h, h'⟩]; rfl)
      have O1 := Lib.hid (fun w => l7Of_any u w (by omega))
      have O2 := Lib.hid (fun w => l7Of_any v w (by omega))
      have O3 := Lib.hid (fun w => l7Count_any (vsg u ^^^ vsg v) w (xor_lt u v))
      have hxr := i64_xor (vsg u) (vsg v) (by have := sg_lt u; omega) (by have := sg_lt v; omega)
      clear h h'
      generalize hz : vsg u ^^^ vsg v = z at *
      generalize bc z = bz at *
      clear hz
      generalize vsg u = x at *
      generalize vsg v = y at *
      go_enter Tryd.func32, Tryd.ntmps32
      go_wp2_with fail
      refine (C.out _).mono ?_
      rintro e w1 ⟨rfl, rfl⟩
      go_wp2_with fail
      refine (D.out _).mono ?_
      rintro e w1 ⟨rfl, rfl⟩
      go_wp2_with fail
      refine (O1.out _).mono ?_
      rintro e w1 ⟨rfl, g1⟩
      have G1 := Lib.hid g1; clear g1
      go_wp2_with fail
      refine (O2.out _).mono ?_
      rintro e w2 ⟨rfl, g2⟩
      have G2 := Lib.hid (G1.out.trans (g2.mono G1.out.size)); clear g2
      go_wp2_with fail
      refine (O3.out _).mono ?_
      rintro e w3 ⟨rfl, rfl⟩
      go_wp2_with fail
      go_ret2
      exact ⟨vret Hf.out.symm, G2.out⟩
    · have Hf : Hid (nrV m n = .tuple #[.int .i64 0, .bool false]) := Lib.hid (by unfold nrV; rw [if_neg (fun x => h' x.2)])
      rw [show decide (0 ≤ n ∧ n ≤ 9999) = false from decide_eq_false h'] at D
      clear h h'
      go_enter Tryd.func32, Tryd.ntmps32
      go_wp2_with fail
      refine (C.out _).mono ?_
      rintro e w1 ⟨rfl, rfl⟩
      go_wp2_with fail
      refine (D.out _).mono ?_
      rintro e w1 ⟨rfl, rfl⟩
      go_wp2_with fail
      go_ret2
      exact ⟨vret Hf.out.symm, Below.refl _ _⟩
  · have Hf : Hid (nrV m n = .tuple #[.int .i64 0, .bool false]) := Lib.hid (by unfold nrV; rw [if_neg (fun x => h x.1)])
    rw [show decide (0 ≤ m ∧ m ≤ 9999) = false from decide_eq_false h] at C
    clear h D
    go_enter Tryd.func32, Tryd.ntmps32
    go_wp2_with fail
    refine (C.out _).mono ?_
    rintro e w1 ⟨rfl, rfl⟩
    go_wp2_with fail
    go_ret2
    exact ⟨vret Hf.out.symm, Below.refl _ _⟩
end Go.Proofs.YtdokdlcmplggfaaDoor
