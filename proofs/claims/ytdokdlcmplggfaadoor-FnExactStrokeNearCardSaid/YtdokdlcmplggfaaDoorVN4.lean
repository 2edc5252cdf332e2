/- The program's chapter 7: StrokeOf, StrokeCount, StrokeRead. -/
import Derived.Test.YtdokdlcmplggfaaDoorVN3
import Derived.Test.YtdokdlcmplggfaaDoorVD
namespace Go.Proofs.YtdokdlcmplggfaaDoor
open Go.RowKit
set_option linter.unusedVariables false
set_option maxRecDepth 100000
theorem iStrokeOf_any {t m : Bool} (n : Int) (w : World) (_ : StOk n) (hT : TBs t m w) : Calls Tryd.prog 16 #[.int .i64 n] w fun e w' => e = .returned (skR n vsg) ∧ Below w.heap.size w w' := by
  by_cases h : 0 ≤ n ∧ n ≤ 9999
  · obtain ⟨k, rfl⟩ := Int.eq_ofNat_of_zero_le h.1
    have hk : k ≤ 9999 := by omega
    have C := Lib.hid (stemOf_yes k w hk hT.1)
    have D : Hid (∀ (w : World) v, SkR w v (stk k) → Calls Tryd.prog 35 #[v] w fun e w' => e = .returned (.int .i64 (vsg k : Nat)) ∧ Below w.heap.size w w') :=
      Lib.hid fun w v h => by
        have := sign_any v (stk k) w (by have := stk_le k; omega) (by rw [wtL_stk k hk]; have := sg_lt k; omega) (stk_ok k) h
        rwa [wtL_stk k hk] at this
    have Hf := Lib.hid (skR_yes k vsg hk)
    clear h hT
    go_enter Tryd.func16, Tryd.ntmps16
    go_wp2_with fail
    refine C.out.mono ?_
    rintro e w1 ⟨v, rfl, hs, g1⟩
    have HS := Lib.hid hs; have G1 := Lib.hid g1; clear hs g1 C
    go_wp2_with fail
    refine (D.out _ _ HS.out).mono ?_
    rintro e w2 ⟨rfl, g2⟩
    have G2 := Lib.hid (bel_chain G1.out g2); clear g2
    go_wp2_with fail
    go_ret2
    exact ⟨vret Hf.out.symm, G2.out⟩
  · have C := Lib.hid (stemOf_no n w h)
    have Hf := Lib.hid (skR_no n vsg h)
    clear h hT
    go_enter Tryd.func16, Tryd.ntmps16
    go_wp2_with fail
    refine C.out.mono ?_
    rintro e w1 ⟨rfl, rfl⟩
    go_wp2_with fail
    go_ret2
    exact ⟨vret Hf.out.symm, Below.refl _ _⟩
theorem iStrokeCount_any {t m : Bool} (n : Int) (w : World) (_ : StOk n) (hT : TBs t m w) : Calls Tryd.prog 22 #[.int .i64 n] w fun e w' => e = .returned (skR n fun u => bc (vsg u)) ∧ Below w.heap.size w w' := by
  by_cases h : 0 ≤ n ∧ n ≤ 9999
  · obtain ⟨k, rfl⟩ := Int.eq_ofNat_of_zero_le h.1
    have hk : k ≤ 9999 := by omega
    have C := Lib.hid (stemOf_yes k w hk hT.1)
    have Hl := Lib.hid (stk_len k hk)
    have Hf := Lib.hid (skR_yes k (fun u => bc (vsg u)) hk)
    have hle := stk_le k
    clear h hT
    generalize stk k = L at *
    go_enter Tryd.func22, Tryd.ntmps22
    go_wp2_with fail
    refine C.out.mono ?_
    rintro e w1 ⟨v, rfl, ⟨a, cap, rfl, _⟩, g1⟩
    have G1 := Lib.hid g1; clear g1 C
    go_wp2_with fail
    go_ret2
    exact ⟨vret (by rw [Hf.out, ← Hl.out]; rfl), G1.out⟩
  · have C := Lib.hid (stemOf_no n w h)
    have Hf := Lib.hid (skR_no n (fun u => bc (vsg u)) h)
    clear h hT
    go_enter Tryd.func22, Tryd.ntmps22
    go_wp2_with fail
    refine C.out.mono ?_
    rintro e w1 ⟨rfl, rfl⟩
    go_wp2_with fail
    go_ret2
    exact ⟨vret Hf.out.symm, Below.refl _ _⟩
theorem srR_great (s : Int) (h : s < 0 ∨ 1048576 ≤ s) : srR s = .tuple #[.int .i64 0, .bool false] := srR_no s (by omega)
set_option maxHeartbeats 2000000 in
theorem strokeRead_dk (s : Int) (w : World) (_ : StOk s) (hK : DK w) : Calls Tryd.prog 18 #[.int .i64 s] w fun e w' => e = .returned (srR s) ∧ Below w.heap.size w w' := by
  by_cases h : 0 ≤ s ∧ s ≤ 1048575
  · obtain ⟨S, rfl⟩ := Int.eq_ofNat_of_zero_le h.1
    have hS : S ≤ 1048575 := by omega
    have HK := Lib.hid hK
    clear h hK
    go_enter Tryd.func18, Tryd.ntmps18
    go_wp2_with fail
    go_loopw [0, 4, 5] (fun x n st wr => ∃ (j y t : Nat) (v : Int), j ≤ 4 ∧ x = .int .i64 y ∧ n = .int .i64 v ∧ st = .int .i64 t ∧ y ≤ 1048575 ∧ 0 ≤ v ∧ v ≤ 9999 ∧ 1 ≤ t ∧ t ≤ 10000 ∧ Hid (y = S / 32 ^ j ∧ v = rsum S j ∧ t = 10 ^ j ∧ rall S j) ∧ Hid (Below w.heap.size w wr)) (fun _ _ st _ => 10000 - (intOf st).toNat)
    case atStart => exact ⟨0, S, 1, 0, by omega, rfl, rfl, rfl, hS, by omega, by omega, by omega, by omega, Lib.hid ⟨by simp, rfl, rfl, fun j hj => by omega⟩, Lib.hid (Below.refl _ _)⟩
    case round =>
      obtain ⟨j, y, t, v, hj, rfl, rfl, rfl, hy, hv0, hv1, ht0, ht, Hi, Hb⟩ := hrel
      by_cases hlt : j < 4
      · have ht9 : t ≤ 9999 := by
          have e := Hi.out.2.2.1
          rcases (show j = 0 ∨ j = 1 ∨ j = 2 ∨ j = 3 by omega) with rfl | rfl | rfl | rfl <;> simp at e <;> omega
        have hf2 : (y : Int) % 32 = ((fld S j : Nat) : Int) := by unfold fld; rw [← Hi.out.1]; omega
        have hf32 : fld S j < 32 := Nat.mod_lt _ (by omega)
        have HO := Lib.hid (fdK_or (fld S j) 10)
        obtain ⟨F, HF⟩ : ∃ F, Hid (fld S j = F) := ⟨_, Lib.hid rfl⟩
        rw [HF.out] at hf2 HO hf32
        have C := Lib.hid (fun w hK => digitOfWeights_any F w hf32 hK)
        have hti : (t : Int) ≤ 9999 := by omega
        by_cases hx : 0 ≤ fdK F 10
        · obtain ⟨x, hx0⟩ : ∃ x, x = fdK F 10 := ⟨_, rfl⟩
          have Hd : Hid (dwR F = .tuple #[.int .i64 x, .bool true]) := Lib.hid (by unfold dwR; rw [if_pos hx, hx0])
          have hx9 : 0 ≤ x ∧ x ≤ 9 := by rcases HO.out with e | ⟨d, d1, d2, _⟩ <;> omega
          rw [Hd.out] at C
          obtain ⟨i1, i2, i3, i4⟩ := Hi.out
          have hall : rall S (j + 1) := fun j' hj' => by
            by_cases e : j' = j
            · rw [e, HF.out]; omega
            · exact i4 j' (by omega)
          have hsum : rsum S (j + 1) = v + x * (t : Int) := by
            show rsum S j + fdK (fld S j) 10 * ((10 ^ j : Nat) : Int) = _
            rw [HF.out, ← hx0, ← i2, ← i3]
          have hbd := rsum_bd S (j + 1) (by omega) hall
          have hpw : 10 ^ (j + 1) ≤ 10 ^ 4 := Nat.pow_le_pow_right (by omega) (by omega)
          have e4 : (10 : Nat) ^ 4 = 10000 := by decide
          have ht2 : 10 * t ≤ 10000 := by have : 10 ^ (j + 1) = 10 ^ j * 10 := Nat.pow_succ _ _; omega
          rw [hsum] at hbd
          have hxt : 0 ≤ x * (t : Int) := Int.mul_nonneg (by omega) (by omega)
          have hb1 : v + x * (t : Int) ≤ 9999 := by omega
          have hw1 : IntKind.i64.wrap (x * (t : Int)) = x * (t : Int) := IntWalk.i64_in _ (by omega)
          have hw2 : IntKind.i64.wrap (v + x * (t : Int)) = v + x * (t : Int) := IntWalk.i64_in _ (by omega)
          have hy2 : (y : Int) / 32 = ((y / 32 : Nat) : Int) := by omega
          have HN : Hid (y / 32 = S / 32 ^ (j + 1) ∧ v + x * (t : Int) = rsum S (j + 1) ∧ 10 * t = 10 ^ (j + 1) ∧ rall S (j + 1)) := Lib.hid ⟨by rw [i1, Nat.pow_succ, Nat.div_div_eq_div_mul], hsum.symm, by rw [i3, Nat.pow_succ]; omega, hall⟩
          have hy3 : y / 32 ≤ 1048575 := by omega
          have hv3 : 0 ≤ v + x * (t : Int) := by omega
          clear i1 i2 i3 i4 hall hsum hbd hpw e4 hx hx0 HO Hd hxt
          generalize y / 32 = yb at *
          go_wp2_with fail
          refine (C.out _ ((DKB.step HK.out Hb.out).mono Hb.out.size)).mono ?_
          rintro e w2 ⟨rfl, g2⟩
          have HB2 : Hid (Below w.heap.size w w2) := Lib.hid (bel_under Hb.out Hb.out.size g2)
          clear g2 C
          go_wp2_with fail
          go_roundw
          case rel => exact ⟨j + 1, yb, 10 * t, v + x * t, by omega, by go_num, by go_num, by go_num, hy3, hv3, hb1, by omega, by omega, HN, HB2⟩
          case measure => simp [intOf]; omega
        · have hd : dwR F = .tuple #[.int .i64 0, .bool false] := by unfold dwR; rw [if_neg hx]
          rw [hd] at C
          have Hf : Hid (srR (S : Int) = .tuple #[.int .i64 0, .bool false]) := Lib.hid (srR_not S j hlt (by rw [HF.out]; rcases HO.out with e | ⟨d, d1, d2, _⟩ <;> omega))
          clear hx hd HO
          go_wp2_with fail
          refine (C.out _ ((DKB.step HK.out Hb.out).mono Hb.out.size)).mono ?_
          rintro e w2 ⟨rfl, g2⟩
          have HB2 : Hid (Below w.heap.size w w2) := Lib.hid (bel_under Hb.out Hb.out.size g2)
          clear g2 C
          go_wp2_with fail
          go_ret2
          exact ⟨vret Hf.out.symm, HB2.out⟩
      · obtain rfl : j = 4 := by omega
        have Hf := Lib.hid (srR_yes S hS Hi.out.2.2.2)
        rw [← Hi.out.2.1] at Hf
        obtain rfl : t = 10000 := by have := Hi.out.2.2.1; simpa using this
        go_wp2_with fail
        go_ret2
        exact ⟨vret Hf.out.symm, Hb.out⟩
  · have Hf := Lib.hid (srR_no s h)
    clear hK
    by_cases h2 : s < 0
    · clear h
      go_enter Tryd.func18, Tryd.ntmps18
      go_wp2_with fail
      go_ret2
      exact ⟨vret Hf.out.symm, Below.refl _ _⟩
    · have h3 : 1048576 ≤ s := by omega
      clear h
      go_enter Tryd.func18, Tryd.ntmps18
      go_wp2_with fail
      go_ret2
      exact ⟨vret Hf.out.symm, Below.refl _ _⟩
theorem iStrokeRead_any {t m : Bool} (n : Int) (w : World) (h : StOk n) (hT : TBs t m w) : Calls Tryd.prog 18 #[.int .i64 n] w fun e w' => e = .returned (srR n) ∧ Below w.heap.size w w' := strokeRead_dk n w h hT.1
end Go.Proofs.YtdokdlcmplggfaaDoor
