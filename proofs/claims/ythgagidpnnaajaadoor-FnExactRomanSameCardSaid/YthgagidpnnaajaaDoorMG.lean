/- RomanSame of the program at every input; the law FnExactRomanSame: its walk. -/
import Derived.Test.YthgagidpnnaajaaDoorMF
namespace Go.Proofs.YthgagidpnnaajaaDoor
open Go.RowKit
set_option linter.unusedVariables false
set_option maxRecDepth 100000
theorem iRomanSame_any (k n : Int) (w : World) (hl : LV w) : Calls Tryd.prog 34 #[.int .i64 k, .int .i64 n] w fun e w' => e = .returned (sameR k n) ∧ Below w.heap.size w w' := by
  unfold sameR
  by_cases h : (1 ≤ k ∧ k ≤ 5) ∧ (1 ≤ n ∧ n ≤ 5000)
  · rw [if_pos h]
    obtain ⟨a, rfl⟩ := Int.eq_ofNat_of_zero_le (show 0 ≤ k by omega)
    obtain ⟨b, rfl⟩ := Int.eq_ofNat_of_zero_le (show 0 ≤ n by omega)
    exact iRomanSame_yes a b w hl (by omega) (by omega) (by omega) (by omega)
  · rw [if_neg h]
    clear hl
    have hd : (decide (k < 1) || decide (5 < k) || decide (n < 1) || decide (5000 < n)) = true := by
      simp only [Bool.or_eq_true, decide_eq_true_eq]
      omega
    have H := Lib.hid h; clear h
    by_cases a1 : k < 1
    · clear hd
      go_enter Tryd.func34, Tryd.ntmps34
      go_wp2_with fail
      go_ret2
      exact ⟨rfl, Below.refl _ _⟩
    by_cases a2 : 5 < k
    · clear hd
      go_enter Tryd.func34, Tryd.ntmps34
      go_wp2_with fail
      go_ret2
      exact ⟨rfl, Below.refl _ _⟩
    by_cases a3 : n < 1
    · clear hd
      go_enter Tryd.func34, Tryd.ntmps34
      go_wp2_with fail
      go_ret2
      exact ⟨rfl, Below.refl _ _⟩
    · have a4 : 5000 < n := by have := H.out; omega
      clear hd
      go_enter Tryd.func34, Tryd.ntmps34
      go_wp2_with fail
      go_ret2
      exact ⟨rfl, Below.refl _ _⟩
theorem wFnExactRomanSame (k n : Int) (w : World) (wk : (Lit.int .i64 k).wf = true) (wn : (Lit.int .i64 n).wf = true) (hl : LV w) : Calls Tryd.prog 14 #[.int .i64 k, .int .i64 n] w fun e w' => e = .returned (.bool true) ∧ Below w.heap.size w w' := by
  have c1 := sRomanSame_any k n
  have c2 := iRomanSame_any k n
  have HL := Lib.hid hl
  unfold sameR at c1 c2
  by_cases h : (1 ≤ k ∧ k ≤ 5) ∧ (1 ≤ n ∧ n ≤ 5000)
  · rw [if_pos h] at c1 c2
    clear wn wk h hl
    generalize same k.toNat n = S at *
    have C1 := Lib.hid c1; have C2 := Lib.hid c2; clear c1 c2
    go_enter Tryd.func14, Tryd.ntmps14
    go_wp2_with fail
    refine (C1.out _).mono ?_
    rintro e w1 ⟨rfl, rfl⟩
    go_wp2_with fail
    refine (C2.out _ HL.out).mono ?_
    rintro e w2 ⟨rfl, g2⟩
    go_wp2_with fail
    go_ret
    exact ⟨rfl, g2⟩
  · rw [if_neg h] at c1 c2
    clear wn wk h hl
    have C1 := Lib.hid c1; have C2 := Lib.hid c2; clear c1 c2
    go_enter Tryd.func14, Tryd.ntmps14
    go_wp2_with fail
    refine (C1.out _).mono ?_
    rintro e w1 ⟨rfl, rfl⟩
    go_wp2_with fail
    refine (C2.out _ HL.out).mono ?_
    rintro e w2 ⟨rfl, g2⟩
    go_wp2_with fail
    go_ret
    exact ⟨rfl, g2⟩
end Go.Proofs.YthgagidpnnaajaaDoor
