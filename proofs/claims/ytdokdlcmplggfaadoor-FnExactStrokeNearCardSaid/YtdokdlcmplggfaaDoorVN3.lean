/- The program's chapter 7: stemOf, digitOfWeights, StrokeOf, StrokeCount, StrokeRead. -/
import Derived.Test.YtdokdlcmplggfaaDoorVN2
namespace Go.Proofs.YtdokdlcmplggfaaDoor
open Go.RowKit
set_option linter.unusedVariables false
set_option maxRecDepth 100000
/-- stemOf's answer -/
def stR (n : Int) (e : Ending) (w' : World) : Prop := if 0 ≤ n ∧ n ≤ 9999 then ∃ v, e = .returned (.tuple #[v, .bool true]) ∧ SkR w' v (stk n.toNat) else e = .returned (.tuple #[.slice none 0 0, .bool false])
theorem stR_yes (n : Nat) (h : n ≤ 9999) (e : Ending) (w' : World) : stR (n : Int) e w' ↔ ∃ v, e = .returned (.tuple #[v, .bool true]) ∧ SkR w' v (stk n) := by unfold stR; rw [if_pos (by omega)]; rfl
theorem stR_no (n : Int) (h : ¬ (0 ≤ n ∧ n ≤ 9999)) (e : Ending) (w' : World) : stR n e w' ↔ e = .returned (.tuple #[.slice none 0 0, .bool false]) := by unfold stR; rw [if_neg h]
set_option maxHeartbeats 2000000 in
theorem stemOf_yes (n : Nat) (w : World) (hn : n ≤ 9999) (hK : DK w) :
    Calls Tryd.prog 34 #[.int .i64 n] w fun e w' => ∃ v, e = .returned (.tuple #[v, .bool true]) ∧ SkR w' v (stk n) ∧ Below w.heap.size w w' := by
  obtain ⟨i0, hi, hz0, hz1, hz2⟩ := info_parts info_stk
  have HK := Lib.hid hK; clear hK
  go_enter Tryd.func34, Tryd.ntmps34
  go_wp2_with (at_make; refine wpList_make_own _ rfl _ _ 33 rfl w.heap.size 52 i0 (.agg #[.int .i64 0, .int .i64 0]) 2 Tryd.underlying33 hi hz0 hz1 .i64 .i64 _ 12 rfl rfl (by omega) (by rw [hz2]; omega) (by unfold maxLen; omega) (Nat.le_refl _) ?_)
  intro w1 hown1 hg1
  have HO : Hid (w1.ownsRow w.heap.size 52 2 (.slice (some ⟨w.heap.size, 0, none⟩) 0 12) (stkF n 0).length (skC (stkF n 0))) := Lib.hid hown1
  have HB : Hid (Below w.heap.size w w1) := Lib.hid ((Below.refl _ _).grown hg1 (Nat.le_refl _) (fun j hj => by cases hj))
  clear hown1 hg1
  go_wp2_with fail
  go_loopw [0, 4, 5] (fun x u i wr => ∃ k y : Nat, i = .int .i64 k ∧ x = .int .i64 y ∧ k ≤ 4 ∧ y ≤ 9999 ∧ Hid (y = n / 10 ^ k) ∧ Hid (wr.ownsRow w.heap.size 52 2 u (stkF n k).length (skC (stkF n k))) ∧ Hid (Below w.heap.size w wr)) (fun _ _ i _ => 4 - (intOf i).toNat)
  case atStart => exact ⟨0, n, rfl, rfl, by omega, hn, Lib.hid (by simp), HO, HB⟩
  case round =>
    obtain ⟨k, y, rfl, rfl, hk, hy, Hy, Ho, Hb⟩ := hrel
    clear HO HB
    by_cases hlt : k < 4
    · have C := Lib.hid (withDigit_any w.heap.size k (y % 10) u4 (stkF n k) wr hlt (Nat.mod_lt _ (by omega)) (Nat.le_trans (stkF_len n k) (by omega)) Hb.out.size (DKB.step HK.out Hb.out) Ho.out)
      have Hs : Hid (stkF n (k + 1) = stkF n k ++ stkD k (y % 10)) := Lib.hid (by rw [Hy.out]; rfl)
      rw [← Hs.out] at C
      have em : (y : Int) % 10 = ((y % 10 : Nat) : Int) := by omega
      have ed : (y : Int) / 10 = ((y / 10 : Nat) : Int) := by omega
      have Hy2 : Hid (y / 10 = n / 10 ^ (k + 1)) := Lib.hid (by rw [Hy.out, Nat.pow_succ, Nat.div_div_eq_div_mul])
      have hy2 : y / 10 ≤ 9999 := by omega
      generalize y % 10 = ym at *
      generalize y / 10 = yd at *
      have hk3 : (k : Int) ≤ 3 := by omega
      clear Hs
      go_wp2_with fail
      refine C.out.mono ?_
      rintro e w2 ⟨v2, rfl, ho2, g2⟩
      have HO2 := Lib.hid ho2
      have HB2 : Hid (Below w.heap.size w w2) := Lib.hid (Hb.out.trans g2)
      clear ho2 g2 C
      go_wp2_with fail
      go_roundw
      case rel => exact ⟨k + 1, yd, by go_num, rfl, by omega, hy2, Hy2, HO2, HB2⟩
      case measure => simp [intOf]; omega
    · obtain rfl : k = 4 := by omega
      have HS := Lib.hid (SkR.of_own Ho.out)
      go_wp2_with fail
      go_ret2
      exact ⟨_, rfl, HS.out, Hb.out⟩
theorem stemOf_no (n : Int) (w : World) (hn : ¬ (0 ≤ n ∧ n ≤ 9999)) :
    Calls Tryd.prog 34 #[.int .i64 n] w fun e w' => e = .returned (.tuple #[.slice none 0 0, .bool false]) ∧ w = w' := by
  by_cases h : n < 0
  · clear hn
    go_enter Tryd.func34, Tryd.ntmps34
    go_wp2_with fail
    go_ret2
    exact ⟨rfl, rfl⟩
  · have h2 : 9999 < n := by omega
    clear hn
    go_enter Tryd.func34, Tryd.ntmps34
    go_wp2_with fail
    go_ret2
    exact ⟨rfl, rfl⟩
/-- digitOfWeights's answer -/
def dwR (x : Nat) : Value := if 0 ≤ fdK x 10 then .tuple #[.int .i64 (fdK x 10), .bool true] else .tuple #[.int .i64 0, .bool false]
set_option maxHeartbeats 2000000 in
theorem digitOfWeights_any (x : Nat) (w : World) (hx : x < 32) (hK : DK w) :
    Calls Tryd.prog 38 #[.int .i64 x] w fun e w' => e = .returned (dwR x) ∧ Below w.heap.size w w' := by
  have HK := Lib.hid hK; clear hK
  go_enter Tryd.func38, Tryd.ntmps38
  go_wp2_with fail
  go_loopw [5] (fun i wr => ∃ k : Nat, i = .int .i64 k ∧ k ≤ 10 ∧ Hid (∀ d, d < k → mkd d ≠ x) ∧ Hid (Below w.heap.size w wr)) (fun i _ => 10 - (intOf i).toNat)
  case atStart => exact ⟨0, rfl, by omega, Lib.hid (fun d hd => by omega), Lib.hid (Below.refl _ _)⟩
  case round =>
    obtain ⟨k, rfl, hk, Hno, Hb⟩ := hrel
    by_cases hlt : k < 10
    · have hsz := Hb.out.size
      have HB1 : Hid (Below w.heap.size w (wr.alloc (.cells #[] 52))) := Lib.hid (Hb.out.alloc hsz _)
      have ho1 : (wr.alloc (.cells #[] 52)).ownsRow wr.heap.size 52 2 (.slice (some ⟨wr.heap.size, 0, none⟩) 0 0) ([] : List Stk).length (skC []) :=
        ⟨by simp [skC], .inr ⟨wr.heap.size, 0, #[], rfl, Nat.le_refl _, heap_alloc_new _ _, Nat.le_refl _, by unfold maxLen; omega, rfl, by simp [skC]⟩⟩
      have hdk : DKB wr.heap.size wr := (DKB.step HK.out Hb.out).mono hsz
      have C := Lib.hid (withDigit_any wr.heap.size 0 k (.slice (some ⟨wr.heap.size, 0, none⟩) 0 0) [] (wr.alloc (.cells #[] 52)) (by omega) hlt (by simp) (by simp) (DKB.step hdk ((Below.refl wr.heap.size wr).alloc (Nat.le_refl _) _)) ho1)
      rw [List.nil_append] at C
      have hwt : wtL (stkD 0 k) = mkd k := by rw [wtL_stkD 0 k (by omega) hlt]; simp
      have D : Hid (∀ (w : World) v, SkR w v (stkD 0 k) → Calls Tryd.prog 35 #[v] w fun e w' => e = .returned (.int .i64 (mkd k : Nat)) ∧ Below w.heap.size w w') :=
        Lib.hid fun w v h => by
          have := sign_any v (stkD 0 k) w (by rw [stkD_len 0 k hlt]; have := bq_le k hlt; omega) (by rw [hwt]; have := mkd_lt k; omega) (stkD_ok 0 k (by omega) hlt) h
          rwa [hwt] at this
      have hml := mkd_lt k
      clear ho1 hwt hdk
      by_cases he : mkd k = x
      · have Hf : Hid (dwR x = .tuple #[.int .i64 k, .bool true]) := Lib.hid (by unfold dwR; rw [fdK_first x k hlt he, if_pos (by omega)])
        rw [he] at D
        clear he hml
        go_wp2_with fail
        refine C.out.mono ?_
        rintro e w2 ⟨v2, rfl, ho2, g2⟩
        have HS := Lib.hid (SkR.of_own ho2)
        have HB2 : Hid (Below w.heap.size w w2) := Lib.hid (HB1.out.trans (g2.mono hsz))
        clear ho2 g2 C
        go_wp2_with fail
        refine (D.out _ _ HS.out).mono ?_
        rintro e w3 ⟨rfl, g3⟩
        have HB3 : Hid (Below w.heap.size w w3) := Lib.hid (bel_under HB2.out HB2.out.size g3)
        clear g3
        go_wp2_with fail
        go_ret2
        exact ⟨by rw [Hf.out]; rfl, HB3.out⟩
      · have hq : ((mkd k : Int) == (x : Int)) = false := by rw [beq_eq_false_iff_ne]; omega
        have Hno2 : Hid (∀ d, d < k + 1 → mkd d ≠ x) := Lib.hid fun d hd => by
          by_cases e : d = k
          · rw [e]; exact he
          · exact Hno.out d (by omega)
        generalize mkd k = y at *
        clear he
        go_wp2_with fail
        refine C.out.mono ?_
        rintro e w2 ⟨v2, rfl, ho2, g2⟩
        have HS := Lib.hid (SkR.of_own ho2)
        have HB2 : Hid (Below w.heap.size w w2) := Lib.hid (HB1.out.trans (g2.mono hsz))
        clear ho2 g2 C
        go_wp2_with fail
        refine (D.out _ _ HS.out).mono ?_
        rintro e w3 ⟨rfl, g3⟩
        have HB3 : Hid (Below w.heap.size w w3) := Lib.hid (bel_under HB2.out HB2.out.size g3)
        clear g3
        go_wp2_with fail
        go_roundw
        case rel => exact ⟨k + 1, by go_num, by omega, Hno2, HB3⟩
        case measure => simp [intOf]; omega
    · obtain rfl : k = 10 := by omega
      have Hf : Hid (dwR x = .tuple #[.int .i64 0, .bool false]) := Lib.hid (by unfold dwR; rw [fdK_none x Hno.out, if_neg (by omega)])
      go_wp2_with fail
      go_ret2
      exact ⟨by rw [Hf.out]; rfl, Hb.out⟩
end Go.Proofs.YtdokdlcmplggfaaDoor
