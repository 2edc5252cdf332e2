/- The model's RomanLongest. -/
import Derived.Test.YthgagidpnnaajaaRSo
namespace Go.Proofs.Ythgagidpnnaajaa
open Go.RowKit
set_option linter.unusedVariables false
set_option maxRecDepth 100000
theorem sRomanLongest_any (n : Int) (w : World) : Calls Try.prog 9 #[.int .i64 n] w fun e w' => e = .returned (romanLongestR n) ∧ Below w.heap.size w w' := by
  unfold romanLongestR
  by_cases h : 1 ≤ n ∧ n ≤ 3999
  · rw [if_pos h]
    obtain ⟨h1, h2⟩ := h
    obtain ⟨N, rfl⟩ := Int.eq_ofNat_of_zero_le (show 0 ≤ n by omega)
    rw [Int.toNat_natCast]
    go_enter Try.func9, Try.ntmps9
    go_wp2_with fail
    refine (l6In_any _ _ _ _).mono ?_
    rintro e w1 ⟨rfl, rfl⟩
    rw [show (decide (1 ≤ (N : Int) ∧ (N : Int) ≤ 3999)) = true from decide_eq_true ⟨h1, h2⟩]
    go_wp2_with fail
    go_loopw [4, 5] (fun b i wr => ∃ (j bb : Nat), i = .int .i64 j ∧ 2 ≤ j ∧ j ≤ N + 1 ∧ b = .int .i64 bb ∧ 1 ≤ bb ∧ bb ≤ N ∧ bb = best strictLen (j - 1) ∧ Below w.heap.size w wr) (fun _ i _ => N + 1 - (intOf i).toNat)
    case atStart => exact ⟨2, 1, rfl, Nat.le_refl _, by omega, rfl, by omega, by omega, rfl, Below.refl _ _⟩
    case round =>
      obtain ⟨j, bb, rfl, hj1, hj2, rfl, hb1, hb2, hbb, hbel⟩ := hrel
      have Hbb := Lib.hid hbb; clear hbb
      by_cases hlt : j ≤ N
      · obtain ⟨L, HL⟩ : ∃ L, Hid (strict j = L) := ⟨_, Lib.hid rfl⟩
        obtain ⟨M, HM⟩ : ∃ L, Hid (strict bb = L) := ⟨_, Lib.hid rfl⟩
        have Hstep : Hid (best strictLen j = if M.length < L.length then j else bb) := by
          show _ = _
          rw [longest_step j (by omega), ← Hbb.out, ← HM.out, ← HL.out]; rfl
        have hLb : L.length ≤ 15 := by rw [← HL.out]; exact strict_len j (by omega)
        have hMb : M.length ≤ 15 := by rw [← HM.out]; exact strict_len bb (by omega)
        by_cases hc : M.length < L.length
        · rw [if_pos hc] at Hstep
          go_wp2_with fail
          refine (l1Of_nat _ _ (by omega)).mono ?_
          rw [HL.out]
          rintro e w2 ⟨rfl, g2⟩
          go_wp2_with fail
          refine (l1Of_nat _ _ (by omega)).mono ?_
          rw [HM.out]
          rintro e w3 ⟨rfl, g3⟩
          go_wp2_with fail
          go_roundw
          case rel => exact ⟨j + 1, j, by go_num, by omega, by omega, rfl, by omega, by omega, by rw [Nat.add_sub_cancel]; exact Hstep.out.symm, bel_chain (bel_chain hbel g2) g3⟩
          case measure => simp [intOf]; omega
        · rw [if_neg hc] at Hstep
          go_wp2_with fail
          refine (l1Of_nat _ _ (by omega)).mono ?_
          rw [HL.out]
          rintro e w2 ⟨rfl, g2⟩
          go_wp2_with fail
          refine (l1Of_nat _ _ (by omega)).mono ?_
          rw [HM.out]
          rintro e w3 ⟨rfl, g3⟩
          go_wp2_with fail
          go_roundw
          case rel => exact ⟨j + 1, bb, by go_num, by omega, by omega, rfl, by omega, by omega, by rw [Nat.add_sub_cancel]; exact Hstep.out.symm, bel_chain (bel_chain hbel g2) g3⟩
          case measure => simp [intOf]; omega
      · have hj : j - 1 = N := by omega
        rw [hj] at Hbb
        clear hj
        go_wp2_with fail
        go_ret2
        exact ⟨ret_int_yes (by rw [Hbb.out]), hbel⟩
  · rw [if_neg h]
    have H := Lib.hid h; clear h
    go_enter Try.func9, Try.ntmps9
    go_wp2_with fail
    refine (l6In_any _ _ _ _).mono ?_
    rintro e w1 ⟨rfl, rfl⟩
    rw [show (decide (1 ≤ n ∧ n ≤ 3999)) = false from decide_eq_false H.out]
    go_wp2_with fail
    go_ret2
    exact ⟨rfl, Below.refl _ _⟩
end Go.Proofs.Ythgagidpnnaajaa
