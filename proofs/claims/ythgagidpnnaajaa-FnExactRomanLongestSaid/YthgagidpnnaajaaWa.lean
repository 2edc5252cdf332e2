/- The laws FnExactRomanOf, FnExactRomanLongest: their walks. -/
import Derived.Test.YthgagidpnnaajaaRSl
import Derived.Test.YthgagidpnnaajaaRIl
namespace Go.Proofs.Ythgagidpnnaajaa
open Go.RowKit
set_option linter.unusedVariables false
set_option maxRecDepth 100000
theorem wFnExactRomanOf (n : Int) (w : World) (wn : (Lit.int .i64 n).wf = true) : Calls Try.prog 4 #[.int .i64 n] w fun e w' => e = .returned (.bool true) ∧ Below w.heap.size w w' := by
  have c1 := sRomanOf_any n
  have c2 := iRomanOf_any n
  unfold romanOfR at c1 c2
  by_cases h : 1 ≤ n ∧ n ≤ 3999
  · rw [if_pos h] at c1 c2
    clear wn h
    have C1 := Lib.hid c1; have C2 := Lib.hid c2; clear c1 c2
    go_enter Try.func4, Try.ntmps4
    go_wp2_with fail
    refine (C1.out _).mono ?_
    rintro e w1 ⟨rfl, g1⟩
    go_wp2_with fail
    refine (C2.out _).mono ?_
    rintro e w2 ⟨rfl, g2⟩
    go_wp2_with fail
    go_ret
    exact ⟨rfl, bel_chain g1 g2⟩
  · rw [if_neg h] at c1 c2
    clear wn h
    have C1 := Lib.hid c1; have C2 := Lib.hid c2; clear c1 c2
    go_enter Try.func4, Try.ntmps4
    go_wp2_with fail
    refine (C1.out _).mono ?_
    rintro e w1 ⟨rfl, g1⟩
    go_wp2_with fail
    refine (C2.out _).mono ?_
    rintro e w2 ⟨rfl, g2⟩
    go_wp2_with fail
    go_ret
    exact ⟨rfl, bel_chain g1 g2⟩
theorem wFnExactRomanLongest (n : Int) (w : World) (wn : (Lit.int .i64 n).wf = true) : Calls Try.prog 6 #[.int .i64 n] w fun e w' => e = .returned (.bool true) ∧ Below w.heap.size w w' := by
  have c1 := sRomanLongest_any n
  have c2 := iRomanLongest_any n
  unfold romanLongestR at c1 c2
  by_cases h : 1 ≤ n ∧ n ≤ 3999
  · rw [if_pos h] at c1 c2
    clear wn h
    have C1 := Lib.hid c1; have C2 := Lib.hid c2; clear c1 c2
    go_enter Try.func6, Try.ntmps6
    go_wp2_with fail
    refine (C1.out _).mono ?_
    rintro e w1 ⟨rfl, g1⟩
    go_wp2_with fail
    refine (C2.out _).mono ?_
    rintro e w2 ⟨rfl, g2⟩
    go_wp2_with fail
    go_ret
    exact ⟨rfl, bel_chain g1 g2⟩
  · rw [if_neg h] at c1 c2
    clear wn h
    have C1 := Lib.hid c1; have C2 := Lib.hid c2; clear c1 c2
    go_enter Try.func6, Try.ntmps6
    go_wp2_with fail
    refine (C1.out _).mono ?_
    rintro e w1 ⟨rfl, g1⟩
    go_wp2_with fail
    refine (C2.out _).mono ?_
    rintro e w2 ⟨rfl, g2⟩
    go_wp2_with fail
    go_ret
    exact ⟨rfl, bel_chain g1 g2⟩
end Go.Proofs.Ythgagidpnnaajaa
