/- The model's RomanStrict, RomanAdd. -/
import Derived.Test.YthgagidpnnaajaaDoorLV
import Derived.Test.YthgagidpnnaajaaDoorSL
namespace Go.Proofs.YthgagidpnnaajaaDoor
open Go.RowKit
set_option linter.unusedVariables false
set_option maxRecDepth 100000
theorem sRomanStrict_any (l : List UInt8) (w : World) (hm : l.length ≤ 9223372036854775807) : Calls Tryd.prog 23 #[.string ⟨l.toArray⟩] w fun e w' => e = .returned (.bool (strictB l)) ∧ Below w.heap.size w w' := by
  have c1 := sRomanLoose_any l w hm
  unfold looseR at c1
  by_cases h1 : 1 ≤ l.length ∧ l.length ≤ 16 ∧ okL l = true
  · rw [if_pos h1] at c1
    by_cases h2 : 1 ≤ looseL l ∧ looseL l ≤ 3999
    · have c2 := l1Of_any (looseL l)
      by_cases h3 : strict (looseL l).toNat = l
      · rw [show strictB l = true from decide_eq_true ⟨h1.1, h1.2.1, h1.2.2, h2.1, h2.2, h3⟩]
        rw [h3] at c2
        have C1 := Lib.hid c1; have C2 := Lib.hid c2; clear c1 c2 h3 h1
        generalize looseL l = n at *
        go_enter Tryd.func23, Tryd.ntmps23
        go_wp2_with fail
        refine C1.out.mono ?_
        rintro e w1 ⟨rfl, rfl⟩
        go_wp2_with fail
        refine (l6In_any _ _ _ _).mono ?_
        rintro e w1 ⟨rfl, rfl⟩
        rw [decide_eq_true h2]
        go_wp2_with fail
        refine (C2.out _ (by omega) (by omega)).mono ?_
        rintro e w2 ⟨rfl, g2⟩
        go_wp2_with fail
        go_ret
        exact ⟨rfl, g2⟩
      · rw [show strictB l = false from decide_eq_false (by rintro ⟨_, _, _, _, _, h⟩; exact h3 h)]
        have C1 := Lib.hid c1; have C2 := Lib.hid c2; clear c1 c2 h1
        generalize looseL l = n at *
        generalize strict n.toNat = S at *
        have hne : (S == l) = false := by rw [beq_eq_false_iff_ne]; exact h3
        go_enter Tryd.func23, Tryd.ntmps23
        go_wp2_with fail
        refine C1.out.mono ?_
        rintro e w1 ⟨rfl, rfl⟩
        go_wp2_with fail
        refine (l6In_any _ _ _ _).mono ?_
        rintro e w1 ⟨rfl, rfl⟩
        rw [decide_eq_true h2]
        go_wp2_with fail
        refine (C2.out _ (by omega) (by omega)).mono ?_
        rintro e w2 ⟨rfl, g2⟩
        go_wp2_with fail
        go_ret
        exact ⟨rfl, g2⟩
    · rw [show strictB l = false from decide_eq_false (by rintro ⟨_, _, _, a, b, _⟩; exact h2 ⟨a, b⟩)]
      have C1 := Lib.hid c1; have H2 := Lib.hid h2; clear c1 h1 h2
      generalize looseL l = n at *
      go_enter Tryd.func23, Tryd.ntmps23
      go_wp2_with fail
      refine C1.out.mono ?_
      rintro e w1 ⟨rfl, rfl⟩
      go_wp2_with fail
      refine (l6In_any _ _ _ _).mono ?_
      rintro e w1 ⟨rfl, rfl⟩
      rw [decide_eq_false H2.out]
      go_wp2_with fail
      go_ret
      exact ⟨rfl, Below.refl _ _⟩
  · rw [if_neg h1] at c1
    rw [show strictB l = false from decide_eq_false (by rintro ⟨a, b, c, _⟩; exact h1 ⟨a, b, c⟩)]
    have C1 := Lib.hid c1; clear c1 h1
    go_enter Tryd.func23, Tryd.ntmps23
    go_wp2_with fail
    refine C1.out.mono ?_
    rintro e w1 ⟨rfl, rfl⟩
    go_wp2_with fail
    go_ret
    exact ⟨rfl, Below.refl _ _⟩
/-- the model's RomanLoose, seen from RomanAdd: some number -/
theorem sRomanLoose_some (l : List UInt8) (w : World) (hm : l.length ≤ 9223372036854775807) : ∃ n b, (strictB l = true → n = looseL l) ∧ -16000 ≤ n ∧ n ≤ 16000 ∧ Hid (Calls Tryd.prog 21 #[.string ⟨l.toArray⟩] w fun e w' => e = .returned (.tuple #[.int .i64 n, .bool b]) ∧ w = w') := by
  have c := sRomanLoose_any l w hm
  unfold looseR at c
  by_cases h1 : 1 ≤ l.length ∧ l.length ≤ 16 ∧ okL l = true
  · rw [if_pos h1] at c
    have hb := looseL_bd l
    exact ⟨_, _, fun _ => rfl, by omega, by omega, c⟩
  · rw [if_neg h1] at c
    exact ⟨_, _, fun h => absurd (strictB_val l h) (fun q => h1 ⟨q.2.2.1, q.2.2.2.1, q.2.2.2.2.1⟩), by omega, by omega, c⟩
theorem sRomanAdd_any (s t : List UInt8) (w : World) (hs : s.length ≤ 9223372036854775807) (ht : t.length ≤ 9223372036854775807) : Calls Tryd.prog 29 #[.string ⟨s.toArray⟩, .string ⟨t.toArray⟩] w fun e w' => e = .returned (addR s t) ∧ Below w.heap.size w w' := by
  obtain ⟨a, ba, ha, ha0, ha1, C1⟩ := sRomanLoose_some s w hs
  obtain ⟨b, bb, hb, hb0, hb1, C2⟩ := sRomanLoose_some t w ht
  have HA := Lib.hid ha; have HB := Lib.hid hb; clear ha hb
  have k1 := sRomanStrict_any s w hs
  unfold addR
  by_cases h : strictB s = true
  · by_cases k : strictB t = true
    · rw [if_pos ⟨h, k⟩, ← HA.out h, ← HB.out k]
      have c3 := sRomanOf_any (a + b)
      rw [h] at k1
      have K1 := Lib.hid k1; have Hk := Lib.hid k
      clear k1 h k
      unfold romanOfR at c3 ⊢
      by_cases hs : 1 ≤ a + b ∧ a + b ≤ 3999
      · rw [if_pos hs] at c3 ⊢
        have C3 := Lib.hid c3; clear c3 hs
        go_enter Tryd.func29, Tryd.ntmps29
        go_wp2_with fail
        refine C1.out.mono ?_
        rintro e w1 ⟨rfl, rfl⟩
        go_wp2_with fail
        refine C2.out.mono ?_
        rintro e w1 ⟨rfl, rfl⟩
        go_wp2_with fail
        refine K1.out.mono ?_
        rintro e w1 ⟨rfl, g1⟩
        go_wp2_with fail
        refine (sRomanStrict_any t _ ht).mono ?_
        rw [Hk.out]
        rintro e w2 ⟨rfl, g2⟩
        go_wp2_with fail
        refine (C3.out _).mono ?_
        rintro e w3 ⟨rfl, g3⟩
        go_wp2_with fail
        go_ret2
        exact ⟨rfl, bel_chain (bel_chain g1 g2) g3⟩
      · rw [if_neg hs] at c3 ⊢
        have C3 := Lib.hid c3; clear c3 hs
        go_enter Tryd.func29, Tryd.ntmps29
        go_wp2_with fail
        refine C1.out.mono ?_
        rintro e w1 ⟨rfl, rfl⟩
        go_wp2_with fail
        refine C2.out.mono ?_
        rintro e w1 ⟨rfl, rfl⟩
        go_wp2_with fail
        refine K1.out.mono ?_
        rintro e w1 ⟨rfl, g1⟩
        go_wp2_with fail
        refine (sRomanStrict_any t _ ht).mono ?_
        rw [Hk.out]
        rintro e w2 ⟨rfl, g2⟩
        go_wp2_with fail
        refine (C3.out _).mono ?_
        rintro e w3 ⟨rfl, g3⟩
        go_wp2_with fail
        go_ret2
        exact ⟨rfl, bel_chain (bel_chain g1 g2) g3⟩
    · rw [if_neg (fun q => k q.2)]
      rw [h] at k1
      have K1 := Lib.hid k1; have Hk := Lib.hid (show strictB t = false by simpa using k)
      clear k1 h k
      go_enter Tryd.func29, Tryd.ntmps29
      go_wp2_with fail
      refine C1.out.mono ?_
      rintro e w1 ⟨rfl, rfl⟩
      go_wp2_with fail
      refine C2.out.mono ?_
      rintro e w1 ⟨rfl, rfl⟩
      go_wp2_with fail
      refine K1.out.mono ?_
      rintro e w1 ⟨rfl, g1⟩
      go_wp2_with fail
      refine (sRomanStrict_any t _ ht).mono ?_
      rw [Hk.out]
      rintro e w2 ⟨rfl, g2⟩
      go_wp2_with fail
      go_ret2
      exact ⟨rfl, bel_chain g1 g2⟩
  · rw [if_neg (fun q => h q.1)]
    rw [show strictB s = false by simpa using h] at k1
    have K1 := Lib.hid k1; clear k1 h
    go_enter Tryd.func29, Tryd.ntmps29
    go_wp2_with fail
    refine C1.out.mono ?_
    rintro e w1 ⟨rfl, rfl⟩
    go_wp2_with fail
    refine C2.out.mono ?_
    rintro e w1 ⟨rfl, rfl⟩
    go_wp2_with fail
    refine K1.out.mono ?_
    rintro e w1 ⟨rfl, g1⟩
    go_wp2_with fail
    go_ret2
    exact ⟨rfl, g1⟩
end Go.Proofs.YthgagidpnnaajaaDoor
