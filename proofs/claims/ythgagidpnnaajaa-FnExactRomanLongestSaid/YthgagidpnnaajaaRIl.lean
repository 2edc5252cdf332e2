/- The program's RomanLongest. -/
import Derived.Test.YthgagidpnnaajaaRIo
namespace Go.Proofs.Ythgagidpnnaajaa
open Go.RowKit
set_option linter.unusedVariables false
set_option maxRecDepth 100000
theorem iRomanLongest_any (n : Int) (w : World) : Calls Try.prog 8 #[.int .i64 n] w fun e w' => e = .returned (romanLongestR n) ∧ Below w.heap.size w w' := by
  unfold romanLongestR
  by_cases h : 1 ≤ n ∧ n ≤ 3999
  · rw [if_pos h]
    obtain ⟨h1, h2⟩ := h
    obtain ⟨N, rfl⟩ := Int.eq_ofNat_of_zero_le (show 0 ≤ n by omega)
    rw [Int.toNat_natCast]
    go_enter Try.func8, Try.ntmps8
    go_wp2_with fail
    refine (hasRoman_any _ _).mono ?_
    rintro e w1 ⟨rfl, rfl⟩
    rw [show (decide (1 ≤ (N : Int) ∧ (N : Int) ≤ 3999)) = true from decide_eq_true ⟨h1, h2⟩]
    go_wp2_with fail
    refine (strictPieces_any _).mono ?_
    rintro e w1 ⟨rfl, ⟨T, hT⟩, g1⟩
    have HT := Lib.hid hT; clear hT
    have hsz : w.heap.size + 1 ≤ w1.heap.size := lt_of_block HT.out
    go_wp2_with fail
    go_loopw [5, 6, 7] (fun b c i wr => ∃ (j bb cc : Nat), i = .int .i64 j ∧ 1 ≤ j ∧ j ≤ N + 1 ∧ b = .int .i64 bb ∧ c = .int .i64 cc ∧ bb = best strictLen (j - 1) ∧ cc = strictLen bb ∧ Below w1.heap.size w1 wr) (fun _ _ i _ => N + 1 - (intOf i).toNat)
    case atStart => exact ⟨1, 0, 0, rfl, Nat.le_refl _, by omega, rfl, rfl, rfl, by decide, Below.refl _ _⟩
    case round =>
      obtain ⟨j, bb, cc, rfl, hj1, hj2, rfl, rfl, hbb, hcc, hbel⟩ := hrel
      have Hbb := Lib.hid hbb; clear hbb
      have Hcc := Lib.hid hcc; clear hcc
      by_cases hlt : j ≤ N
      · obtain ⟨L, HL⟩ : ∃ L, Hid (strict j = L) := ⟨_, Lib.hid rfl⟩
        have Hstep : Hid (best strictLen j = if cc < L.length then j else bb) := by
          show _ = _
          rw [longest_step j hj1, ← Hbb.out, ← Hcc.out, ← HL.out]; rfl
        have hLb : L.length ≤ 15 := by rw [← HL.out]; exact strict_len j (by omega)
        have HL2 : Hid (L.length = strictLen j) := by show _ = _; rw [← HL.out]; rfl
        have HTr : Hid (Pieces wr w.heap.size strictP) := ⟨T, (hbel.block _ (by omega)).trans HT.out⟩
        by_cases hc : cc < L.length
        · rw [if_pos hc] at Hstep
          go_wp2_with fail
          refine (joinStrict_any _ _ _ (by omega) (by omega) HTr.out).mono ?_
          rw [Int.toNat_natCast, HL.out]
          rintro e w2 ⟨rfl, g2⟩
          go_wp2_with fail
          go_roundw
          case rel => exact ⟨j + 1, j, L.length, by go_num, by omega, by omega, rfl, rfl, by rw [Nat.add_sub_cancel]; exact Hstep.out.symm, HL2.out, bel_under hbel hbel.size g2⟩
          case measure => simp [intOf]; omega
        · rw [if_neg hc] at Hstep
          go_wp2_with fail
          refine (joinStrict_any _ _ _ (by omega) (by omega) HTr.out).mono ?_
          rw [Int.toNat_natCast, HL.out]
          rintro e w2 ⟨rfl, g2⟩
          go_wp2_with fail
          go_roundw
          case rel => exact ⟨j + 1, bb, cc, by go_num, by omega, by omega, rfl, rfl, by rw [Nat.add_sub_cancel]; exact Hstep.out.symm, Hcc.out, bel_under hbel hbel.size g2⟩
          case measure => simp [intOf]; omega
      · have hj : j - 1 = N := by omega
        rw [hj] at Hbb
        clear hj
        go_wp2_with fail
        go_ret2
        exact ⟨ret_int_yes (by rw [Hbb.out]), bel_chain g1 hbel⟩
  · rw [if_neg h]
    have H := Lib.hid h; clear h
    go_enter Try.func8, Try.ntmps8
    go_wp2_with fail
    refine (hasRoman_any _ _).mono ?_
    rintro e w1 ⟨rfl, rfl⟩
    rw [show (decide (1 ≤ n ∧ n ≤ 3999)) = false from decide_eq_false H.out]
    go_wp2_with fail
    go_ret2
    exact ⟨rfl, Below.refl _ _⟩
end Go.Proofs.Ythgagidpnnaajaa
