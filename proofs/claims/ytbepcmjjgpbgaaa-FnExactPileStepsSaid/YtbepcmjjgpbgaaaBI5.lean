/- The program's value, size. -/
import Derived.Test.YtbepcmjjgpbgaaaBI4
namespace Go.Proofs.Ytbepcmjjgpbgaaa
open Go.RowKit
set_option linter.unusedVariables false
set_option maxRecDepth 100000
theorem pad_sum (p : Nat → Int) (n : Nat) : ∀ k, sumF (pad p n) k = sumF p (min k n)
  | 0 => by rw [Nat.zero_min]; rfl
  | k + 1 => by
    have ih := pad_sum p n k
    simp only [sumF]
    by_cases h : k < n
    · rw [pad_in p n k h, ih, show min k n = k by omega, show min (k + 1) n = k + 1 by omega]; rfl
    · have e : pad p n k = 0 := if_neg h
      rw [e, ih, show min k n = n by omega, show min (k + 1) n = n by omega]; omega
theorem idx6 (q : Nat → Int) (k : Nat) (hk : k < 6) (w : World) : (Instr.index 52 (.agg (arr6 q)) (.int .i64 (k : Nat))).run Try.prog w = .ok (.int .i64 (q k)) w := by
  rcases (show k = 0 ∨ k = 1 ∨ k = 2 ∨ k = 3 ∨ k = 4 ∨ k = 5 by omega) with rfl | rfl | rfl | rfl | rfl | rfl <;> kernel_rfl
theorem size_any (q : Nat → Int) (w : World) (h0 : ∀ j, j < 6 → 0 ≤ q j) (h1 : ∀ j, j < 6 → q j ≤ 1000000) :
    Calls Try.prog 55 #[.agg (arr6 q)] w fun e w' => e = .returned (.int .i64 (sumF q 6)) ∧ Below w.heap.size w w' := by
  have Bd := Lib.hid (sum_bd h0 h1 (Nat.le_refl 6))
  have HQ0 := Lib.hid h0; have HQ1 := Lib.hid h1; clear h0 h1
  have hix := idx6 q
  have Hix := Lib.hid hix; clear hix
  have HB : Hid (Blk 52 (w.alloc (.cells (arr6 q) 52)) w.heap.size 6 q) := Blk.new w _ 6 q
  have HA : Hid (arr6 q = (intCells q 6).toArray) := rfl
  have hbw : Below w.heap.size w (w.alloc (.cells (arr6 q) 52)) := (Below.refl _ _).alloc (Nat.le_refl _) _
  have HBW := Lib.hid hbw; clear hbw
  go_enter Try.func55, Try.ntmps55
  go_wp2_with ((with_reducible refine here ⟨some 6, _, _, _, _, _⟩ ?_); refine wpList_load_blk rfl 52 (.tmp 1) rfl 52 w.heap.size 6 q _ rfl HB.out Try.underlying52 rfl szPile ?_; rw [← HA.out])
  go_loop [3, 7] (fun x i => ∃ k : Nat, i = .int .i64 k ∧ k ≤ 6 ∧ x = .int .i64 (sumF q k)) (fun _ i => 6 - (intOf i).toNat)
  case atStart => exact ⟨0, rfl, by omega, rfl⟩
  case round =>
    obtain ⟨k, rfl, hk, rfl⟩ := hrel
    obtain ⟨v1, v2⟩ := Bd.out k hk
    by_cases hlt : k < 6
    · have hi := fun w => Hix.out k hlt w
      have u1 := HQ0.out k hlt
      have u2 := HQ1.out k hlt
      have Hst : Hid (sumF q (k + 1) = sumF q k + q k) := rfl
      generalize sumF q k = V at *
      generalize q k = z at *
      go_wp2_with fail
      go_round
      case rel => exact ⟨k + 1, by go_num, by omega, by rw [Hst.out]⟩
      case measure => simp [intOf]; omega
    · obtain rfl : k = 6 := by omega
      go_wp2_with fail
      go_ret
      exact ⟨rfl, HBW.out⟩
/-- is the value small enough? -/
def fitB (f p : Nat → Int) (n : Nat) : Bool := decide (val f p n ≤ 1000000)
def fitR (f p : Nat → Int) (n : Nat) : Int := if fitB f p n = true then val f p n else 0
set_option maxHeartbeats 1000000 in
theorem value_any (f p : Nat → Int) (n : Nat) (w : World) (hs : SysF f n) (hn : n ≤ 6) (hf : ∀ j, j < n → f j ≤ 1000000) (h0 : ∀ j, j < n → 0 ≤ p j) (h1 : ∀ j, j < n → p j ≤ 1000000) :
    Calls Try.prog 58 #[.agg (arr6 (pad p n)), .agg (arr7 f n)] w fun e w' => e = .returned (.tuple #[.int .i64 (fitR f p n), .bool (fitB f p n)]) ∧ Below w.heap.size w w' := by
  have Bd := Lib.hid (fun k hk => val_bd (p := p) hs.pos hf h0 h1 hn k hk)
  have HS := Lib.hid hs; have HF := Lib.hid hf; have H0 := Lib.hid h0; have H1 := Lib.hid h1; clear hs hf h0 h1
  have h6 := arr7_count f n hn
  have HA : Hid (arr6 (pad p n) = (intCells (pad p n) 6).toArray) := rfl
  have HC : Hid (arr7 f n = (intCells (sysF f n) 7).toArray) := rfl
  have HX := Lib.hid (two_boxes w (arr6 (pad p n)) (arr7 f n) 52 48)
  have HW := Lib.hid (two_bel w (.cells (arr6 (pad p n)) 52) (.cells (arr7 f n) 48))
  generalize arr6 (pad p n) = A at *
  generalize arr7 f n = C at *
  go_enter Try.func58, Try.ntmps58
  go_wp2_with fail
  obtain ⟨w1, hw1⟩ : ∃ w1, w1 = (w.alloc (.cells A 52)).alloc (.cells C 48) := ⟨_, rfl⟩
  rw [← hw1] at HX HW
  have Hw1 := Lib.hid hw1
  clear hw1
  have HB1 : Hid (Blk 52 w1 w.heap.size 6 (pad p n)) := by show _ = _; rw [← HA.out]; exact HX.out.1
  have HB2 : Hid (Blk 48 w1 (w.heap.size + 1) 7 (sysF f n)) := by show _ = _; rw [← HC.out]; exact HX.out.2
  go_loopw [6, 10] (fun x i wr => ∃ k q : Nat, i = .int .i64 k ∧ k ≤ n ∧ x = .int .i64 (val f p k) ∧ wr = w1.drewN q ∧ val f p k ≤ 1000000) (fun _ i _ => n - (intOf i).toNat)
  case atStart => exact ⟨0, 0, rfl, by omega, rfl, Hw1.out.symm, by simp [val, sumF]⟩
  case round =>
    obtain ⟨k, q, rfl, hk, rfl, rfl, hle⟩ := hrel
    obtain ⟨v1, v2, v3⟩ := Bd.out k hk
    by_cases hlt : k < n
    · obtain ⟨v3, v4⟩ := v3 hlt
      have hc1 : w1.cell? ⟨w.heap.size, k, none⟩ = some (.int .i64 (p k)) := by
        have := HB1.out.cell k (by omega)
        rw [pad_in p n k hlt] at this
        exact this
      have hc2 : w1.cell? ⟨w.heap.size + 1, k, none⟩ = some (.int .i64 (f k)) := by
        have := HB2.out.cell k (by omega)
        rw [sysF_at f n k hlt] at this
        exact this
      have hf1 := HS.out.pos k hlt
      have hf2 := HF.out k hlt
      have hp0 := H0.out k hlt
      have hp1 := H1.out k hlt
      have Hst : Hid (val f p (k + 1) = val f p k + f k * p k) := rfl
      have Hmono : Hid (val f p (k + 1) ≤ val f p n) := sumF_mono (fun j hj => Int.mul_nonneg (by have := HS.out.pos j hj; omega) (H0.out j hj)) hlt
      generalize val f p k = s at *
      generalize f k = v at *
      generalize p k = x at *
      have hcm : x * v = v * x := Int.mul_comm x v
      have htd : (1000000 - s).tdiv v = (1000000 - s) / v := Int.tdiv_eq_ediv_of_nonneg (by omega)
      have hq0 : 0 ≤ (1000000 - s) / v := Int.ediv_nonneg (by omega) (by omega)
      have hq1 : (1000000 - s) / v ≤ 1000000 := Int.le_trans (Int.ediv_le_self _ (by omega)) (by omega)
      have hws : IntKind.i64.wrap (1000000 - s) = 1000000 - s := IntWalk.i64_in _ (by omega)
      have hiff : (1000000 - s) / v < x ↔ 1000000 - s < x * v := Int.ediv_lt_iff_lt_mul (by omega)
      by_cases hbig : 1000000 < s + v * x
      · have hd : decide ((1000000 - s) / v < x) = true := decide_eq_true (hiff.2 (by omega))
        have HFB : Hid (fitB f p n = false) := by
          show _ = _
          unfold fitB
          have a := Hmono.out; rw [Hst.out] at a
          exact decide_eq_false (by omega)
        have HFR : Hid (fitR f p n = 0) := by show _ = _; unfold fitR; rw [HFB.out]; rfl
        clear hiff hcm
        go_wp2_with fail
        go_quiet (fail)
        go_wp2_with fail
        go_ret2
        exact ⟨ret_int_bool HFR.out.symm HFB.out.symm, bel_drewN (bel_drewN HW.out _) _⟩
      · have hd : decide ((1000000 - s) / v < x) = false := decide_eq_false (fun h => by have := hiff.1 h; omega)
        have hw1 : IntKind.i64.wrap (x * v) = x * v := IntWalk.i64_in _ (by omega)
        have hw2 : IntKind.i64.wrap (s + x * v) = s + x * v := IntWalk.i64_in _ (by omega)
        have Hcm := Lib.hid hcm
        have hb2 : s + v * x ≤ 1000000 := by omega
        clear hiff hcm
        go_wp2_with fail
        go_quiet (fail)
        go_wp2_with fail
        go_quiet (fail)
        go_wp2_with fail
        go_roundw
        case rel => exact ⟨k + 1, _, by go_num, by omega, by rw [Hst.out, Hcm.out], rfl, by rw [Hst.out]; exact hb2⟩
        case measure => simp [intOf]; omega
    · obtain rfl : k = n := by omega
      have HFB : Hid (fitB f p k = true) := decide_eq_true hle
      have HFR : Hid (fitR f p k = val f p k) := by show _ = _; unfold fitR; rw [HFB.out]; rfl
      go_wp2_with fail
      go_ret2
      exact ⟨ret_int_bool HFR.out.symm HFB.out.symm, bel_drewN HW.out _⟩
end Go.Proofs.Ytbepcmjjgpbgaaa
