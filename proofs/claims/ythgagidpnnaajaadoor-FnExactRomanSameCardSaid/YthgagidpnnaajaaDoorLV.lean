/- The program's strictValue, RomanStrict, RomanAdd. -/
import Derived.Test.YthgagidpnnaajaaDoorLL
namespace Go.Proofs.YthgagidpnnaajaaDoor
open Go.RowKit
set_option linter.unusedVariables false
set_option maxRecDepth 100000
/-- strictValue's answer -/
def strictV (l : List UInt8) : Value := if strictB l = true then .tuple #[.int .i64 (looseL l), .bool true] else .tuple #[.int .i64 0, .bool false]
theorem strictValue_any (l : List UInt8) (w : World) (hl : LV w) : Calls Tryd.prog 45 #[.string ⟨l.toArray⟩] w fun e w' => e = .returned (strictV l) ∧ Below w.heap.size w w' := by
  have H := Lib.hid hl; clear hl
  have c1 := iRomanLoose_any l
  unfold looseR at c1
  by_cases h1 : 1 ≤ l.length ∧ l.length ≤ 16 ∧ okL l = true
  · rw [if_pos h1] at c1
    by_cases h2 : 1 ≤ looseL l ∧ looseL l ≤ 3999
    · have c2 := iRomanOf_yes (looseL l)
      by_cases h3 : strict (looseL l).toNat = l
      · have HV : Hid (strictV l = .tuple #[.int .i64 (looseL l), .bool true]) := by
          show _ = _
          unfold strictV strictB
          rw [if_pos (decide_eq_true ⟨h1.1, h1.2.1, h1.2.2, h2.1, h2.2, h3⟩)]
        rw [h3] at c2
        have C1 := Lib.hid c1; have C2 := Lib.hid c2; clear c1 c2 h3 h1
        generalize looseL l = n at *
        go_enter Tryd.func45, Tryd.ntmps45
        go_wp2_with fail
        refine (C1.out _ H.out).mono ?_
        rintro e w1 ⟨rfl, g1⟩
        go_wp2_with fail
        refine (C2.out _ h2.1 h2.2).mono ?_
        rintro e w2 ⟨rfl, g2⟩
        go_wp2_with fail
        go_ret2
        exact ⟨ret_of HV.out.symm, bel_chain g1 g2⟩
      · have HV : Hid (strictV l = .tuple #[.int .i64 0, .bool false]) := by
          show _ = _
          unfold strictV strictB
          rw [if_neg (by rw [decide_eq_true_eq]; rintro ⟨_, _, _, _, _, h⟩; exact h3 h)]
        have C1 := Lib.hid c1; have C2 := Lib.hid c2; clear c1 c2 h1
        generalize looseL l = n at *
        generalize strict n.toNat = S at *
        have hne : (S == l) = false := by rw [beq_eq_false_iff_ne]; exact h3
        go_enter Tryd.func45, Tryd.ntmps45
        go_wp2_with fail
        refine (C1.out _ H.out).mono ?_
        rintro e w1 ⟨rfl, g1⟩
        go_wp2_with fail
        refine (C2.out _ h2.1 h2.2).mono ?_
        rintro e w2 ⟨rfl, g2⟩
        go_wp2_with fail
        go_ret2
        exact ⟨ret_of HV.out.symm, bel_chain g1 g2⟩
    · have c2 := iRomanOf_no (looseL l)
      have HV : Hid (strictV l = .tuple #[.int .i64 0, .bool false]) := by
        show _ = _
        unfold strictV strictB
        rw [if_neg (by rw [decide_eq_true_eq]; rintro ⟨_, _, _, a, b, _⟩; exact h2 ⟨a, b⟩)]
      have C1 := Lib.hid c1; have C2 := Lib.hid c2; have H2 := Lib.hid h2; clear c1 c2 h1 h2
      generalize looseL l = n at *
      go_enter Tryd.func45, Tryd.ntmps45
      go_wp2_with fail
      refine (C1.out _ H.out).mono ?_
      rintro e w1 ⟨rfl, g1⟩
      go_wp2_with fail
      refine (C2.out _ H2.out).mono ?_
      rintro e w2 ⟨rfl, g2⟩
      go_wp2_with fail
      go_ret2
      exact ⟨ret_of HV.out.symm, bel_chain g1 g2⟩
  · rw [if_neg h1] at c1
    have HV : Hid (strictV l = .tuple #[.int .i64 0, .bool false]) := by
      show _ = _
      unfold strictV strictB
      rw [if_neg (by rw [decide_eq_true_eq]; rintro ⟨a, b, c, _⟩; exact h1 ⟨a, b, c⟩)]
    have C1 := Lib.hid c1; clear c1 h1
    go_enter Tryd.func45, Tryd.ntmps45
    go_wp2_with fail
    refine (C1.out _ H.out).mono ?_
    rintro e w1 ⟨rfl, g1⟩
    go_wp2_with fail
    go_ret2
    exact ⟨ret_of HV.out.symm, g1⟩
theorem iRomanStrict_any (l : List UInt8) (w : World) (hl : LV w) : Calls Tryd.prog 19 #[.string ⟨l.toArray⟩] w fun e w' => e = .returned (.bool (strictB l)) ∧ Below w.heap.size w w' := by
  have c1 := strictValue_any l w hl
  unfold strictV at c1
  by_cases h : strictB l = true
  · rw [if_pos h] at c1
    rw [h]
    have C1 := Lib.hid c1; clear c1 h hl
    go_enter Tryd.func19, Tryd.ntmps19
    go_wp2_with fail
    refine C1.out.mono ?_
    rintro e w1 ⟨rfl, g1⟩
    go_wp2_with fail
    go_ret
    exact ⟨rfl, g1⟩
  · rw [if_neg h] at c1
    rw [show strictB l = false by simpa using h]
    have C1 := Lib.hid c1; clear c1 h hl
    go_enter Tryd.func19, Tryd.ntmps19
    go_wp2_with fail
    refine C1.out.mono ?_
    rintro e w1 ⟨rfl, g1⟩
    go_wp2_with fail
    go_ret
    exact ⟨rfl, g1⟩
theorem strictB_val (l : List UInt8) (h : strictB l = true) : 1 ≤ looseL l ∧ looseL l ≤ 3999 ∧ 1 ≤ l.length ∧ l.length ≤ 16 ∧ okL l = true ∧ strict (looseL l).toNat = l := by
  unfold strictB at h
  have h := of_decide_eq_true h
  exact ⟨h.2.2.2.1, h.2.2.2.2.1, h.1, h.2.1, h.2.2.1, h.2.2.2.2.2⟩
/-- RomanAdd's answer -/
def addR (s t : List UInt8) : Value := if strictB s = true ∧ strictB t = true then romanOfR (looseL s + looseL t) else .tuple #[.string ⟨#[]⟩, .bool false]
theorem iRomanAdd_any (s t : List UInt8) (w : World) (hl : LV w) : Calls Tryd.prog 28 #[.string ⟨s.toArray⟩, .string ⟨t.toArray⟩] w fun e w' => e = .returned (addR s t) ∧ Below w.heap.size w w' := by
  have c1 := strictValue_any s w hl
  unfold strictV at c1
  unfold addR
  have HL := Lib.hid hl; clear hl
  by_cases h : strictB s = true
  · rw [if_pos h] at c1
    have hv := strictB_val s h
    have c2 := strictValue_any t
    unfold strictV at c2
    by_cases k : strictB t = true
    · rw [if_pos ⟨h, k⟩]
      have kv := strictB_val t k
      rw [if_pos k] at c2
      have C1 := Lib.hid c1; have C2 := Lib.hid c2
      have hv1 := hv.1; have hv2 := hv.2.1; have kv1 := kv.1; have kv2 := kv.2.1
      clear c1 c2 h k hv kv
      generalize looseL s = a at *
      generalize looseL t = b at *
      have c3 := iRomanOf_any (a + b)
      unfold romanOfR at c3 ⊢
      by_cases hs : 1 ≤ a + b ∧ a + b ≤ 3999
      · rw [if_pos hs] at c3 ⊢
        have C3 := Lib.hid c3; clear c3 hs
        go_enter Tryd.func28, Tryd.ntmps28
        go_wp2_with fail
        refine C1.out.mono ?_
        rintro e w1 ⟨rfl, g1⟩
        go_wp2_with fail
        refine (C2.out _ (HL.out.step g1)).mono ?_
        rintro e w2 ⟨rfl, g2⟩
        go_wp2_with fail
        refine (C3.out _).mono ?_
        rintro e w3 ⟨rfl, g3⟩
        go_wp2_with fail
        go_ret2
        exact ⟨rfl, bel_chain (bel_chain g1 g2) g3⟩
      · rw [if_neg hs] at c3 ⊢
        have C3 := Lib.hid c3; clear c3 hs
        go_enter Tryd.func28, Tryd.ntmps28
        go_wp2_with fail
        refine C1.out.mono ?_
        rintro e w1 ⟨rfl, g1⟩
        go_wp2_with fail
        refine (C2.out _ (HL.out.step g1)).mono ?_
        rintro e w2 ⟨rfl, g2⟩
        go_wp2_with fail
        refine (C3.out _).mono ?_
        rintro e w3 ⟨rfl, g3⟩
        go_wp2_with fail
        go_ret2
        exact ⟨rfl, bel_chain (bel_chain g1 g2) g3⟩
    · rw [if_neg (fun q => k q.2)]
      rw [if_neg k] at c2
      have C1 := Lib.hid c1; have C2 := Lib.hid c2; clear c1 c2 h k hv
      go_enter Tryd.func28, Tryd.ntmps28
      go_wp2_with fail
      refine C1.out.mono ?_
      rintro e w1 ⟨rfl, g1⟩
      go_wp2_with fail
      refine (C2.out _ (HL.out.step g1)).mono ?_
      rintro e w2 ⟨rfl, g2⟩
      go_wp2_with fail
      go_ret2
      exact ⟨rfl, bel_chain g1 g2⟩
  · rw [if_neg (fun q => h q.1)]
    rw [if_neg h] at c1
    have C1 := Lib.hid c1; clear c1 h
    go_enter Tryd.func28, Tryd.ntmps28
    go_wp2_with fail
    refine C1.out.mono ?_
    rintro e w1 ⟨rfl, g1⟩
    go_wp2_with fail
    go_ret2
    exact ⟨rfl, g1⟩
end Go.Proofs.YthgagidpnnaajaaDoor
