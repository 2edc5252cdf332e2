/- The model's chapter 7 (package spec): l7Marks, l7Of, l7Count, StrokeOf, StrokeCount, StrokeTurned, StrokeMirror, StrokeNear. -/
import Derived.Test.YtdokdlcmplggfaaDoorVA
import Derived.Test.YtdokdlcmplggfaaDoorBS
import Derived.IntWalk
namespace Go.Proofs.YtdokdlcmplggfaaDoor
open Go.RowKit
set_option linter.unusedVariables false
set_option maxRecDepth 100000
theorem vret {a b : Value} (h : a = b) : Ending.returned a = .returned b := by rw [h]
theorem l7Marks_any (w : World) : Calls Tryd.prog 42 #[] w fun e w' => e = .returned (.slice (some ⟨w.heap.size, 0, none⟩) 10 10) ∧ (∀ d, d < 10 → w'.cell? ⟨w.heap.size, d, none⟩ = some (.int .i64 (mkd d : Nat))) ∧ Below w.heap.size w w' := by
  have Hc : Hid (∀ d, d < 10 → (w.alloc (.cells #[.int .i64 0, .int .i64 1, .int .i64 2, .int .i64 4, .int .i64 8, .int .i64 9, .int .i64 16, .int .i64 17, .int .i64 18, .int .i64 19] 3)).cell? ⟨w.heap.size, d, none⟩ = some (.int .i64 (mkd d : Nat))) := Lib.hid fun d hd => by
    have h1 := heap_alloc_new w (.cells #[.int .i64 0, .int .i64 1, .int .i64 2, .int .i64 4, .int .i64 8, .int .i64 9, .int .i64 16, .int .i64 17, .int .i64 18, .int .i64 19] 3)
    rcases (show d = 0 ∨ d = 1 ∨ d = 2 ∨ d = 3 ∨ d = 4 ∨ d = 5 ∨ d = 6 ∨ d = 7 ∨ d = 8 ∨ d = 9 by omega) with rfl | rfl | rfl | rfl | rfl | rfl | rfl | rfl | rfl | rfl <;> exact cell_at h1 rfl
  go_enter Tryd.func42, Tryd.ntmps42
  go_wp2_with fail
  go_ret
  exact ⟨rfl, Hc.out, (Below.refl _ _).alloc (Nat.le_refl _) _⟩
set_option maxRecDepth 100000 in
set_option maxHeartbeats 1000000 in
theorem l7Of_any (n : Nat) (w : World) (hn : n ≤ 9999) : Calls Tryd.prog 37 #[.int .i64 n] w fun e w' => e = .returned (.int .i64 (vsg n : Nat)) ∧ Below w.heap.size w w' := by
  have C := Lib.hid (l7Marks_any w)
  have Hs : Hid (vsg n = mkd (n % 10) + 32 * mkd (n / 10 % 10) + 1024 * mkd (n / 100 % 10) + 32768 * mkd (n / 1000)) := Lib.hid rfl
  have e0 : (n : Int) % 10 = ((n % 10 : Nat) : Int) := by omega
  have e1 : (n : Int) / 10 % 10 = ((n / 10 % 10 : Nat) : Int) := by omega
  have e2 : (n : Int) / 100 % 10 = ((n / 100 % 10 : Nat) : Int) := by omega
  have e3 : (n : Int) / 1000 = ((n / 1000 : Nat) : Int) := by omega
  have d0 : n % 10 < 10 := by omega
  have d1 : n / 10 % 10 < 10 := by omega
  have d2 : n / 100 % 10 < 10 := by omega
  have d3 : n / 1000 < 10 := by omega
  generalize n % 10 = x0 at *
  generalize n / 10 % 10 = x1 at *
  generalize n / 100 % 10 = x2 at *
  generalize n / 1000 = x3 at *
  go_enter Tryd.func37, Tryd.ntmps37
  go_wp2_with fail
  refine C.out.mono ?_
  rintro e w1 ⟨rfl, hc, g1⟩
  have c0 := hc x0 d0
  have c1 := hc x1 d1
  have c2 := hc x2 d2
  have c3 := hc x3 d3
  have m0 := mkd_lt x0
  have m1 := mkd_lt x1
  have m2 := mkd_lt x2
  have m3 := mkd_lt x3
  have G1 := Lib.hid g1; clear g1 C hc
  generalize mkd x0 = y0 at *
  generalize mkd x1 = y1 at *
  generalize mkd x2 = y2 at *
  generalize mkd x3 = y3 at *
  go_wp2_with fail
  go_quiet (fail)
  go_wp2_with fail
  go_ret
  exact ⟨by rw [Hs.out]; go_num, bel_drewN G1.out _⟩
set_option maxRecDepth 100000 in
theorem l7Count_any (s : Nat) (w : World) (hs : s < 1048576) : Calls Tryd.prog 43 #[.int .i64 s] w fun e w' => e = .returned (.int .i64 (bc s : Nat)) ∧ w = w' := by
  obtain ⟨T, HT⟩ : ∃ T, Hid (bc s = T) := ⟨_, Lib.hid rfl⟩
  rw [HT.out]
  go_enter Tryd.func43, Tryd.ntmps43
  go_wp2_with fail
  go_loopw [0, 3] (fun x k wr => ∃ f y j : Nat, f ≤ 20 ∧ Hid (y < 2 ^ f) ∧ x = .int .i64 y ∧ k = .int .i64 j ∧ Hid (j + bcF f y = T) ∧ j ≤ 20 - f ∧ wr = w) (fun x _ _ => (intOf x).toNat)
  case atStart => exact ⟨20, s, 0, by omega, Lib.hid hs, rfl, rfl, Lib.hid (by rw [← HT.out, Nat.zero_add]; rfl), by omega, rfl⟩
  case round =>
    obtain ⟨f, y, j, hf, Hy, rfl, rfl, Hj, hjf, rfl⟩ := hrel
    by_cases hz : y = 0
    · subst hz
      have Hj2 : Hid (j = T) := Lib.hid (by have := Hj.out; rw [((bcF_zero f 0 Hy.out).2 rfl)] at this; omega)
      go_wp2_with fail
      go_ret
      exact ⟨by rw [← Hj2.out]; rfl, rfl⟩
    · obtain ⟨g, rfl⟩ : ∃ g, f = g + 1 := ⟨f - 1, by
        rcases f with _ | f
        · have := Hy.out; simp at this; omega
        · omega⟩
      have Hj2 : Hid (j + y % 2 + bcF g (y / 2) = T) := Lib.hid (by have := Hj.out; rw [show bcF (g + 1) y = y % 2 + bcF g (y / 2) from rfl] at this; omega)
      have Hy2 : Hid (y / 2 < 2 ^ g) := Lib.hid (by have hy := Hy.out; rw [Nat.pow_succ] at hy; omega)
      have hy3 : y < 1048576 := by
        have : 2 ^ (g + 1) ≤ 2 ^ 20 := Nat.pow_le_pow_right (by omega) hf
        have e20 : (2 : Nat) ^ 20 = 1048576 := by decide
        have := Hy.out
        omega
      have hp : (0 : Int) < (y : Int) := by omega
      have em : (y : Int) % 2 = ((y % 2 : Nat) : Int) := by omega
      have ed : (y : Int) / 2 = ((y / 2 : Nat) : Int) := by omega
      have hm2 : y % 2 < 2 := by omega
      have hlt2 : y / 2 < y := by omega
      generalize y % 2 = ya at *
      generalize y / 2 = yb at *
      clear Hy Hj hs HT
      go_wp2_with fail
      go_roundw
      case rel => exact ⟨g, yb, j + ya, by omega, Hy2, by go_num, by go_num, Hj2, by omega, trivial⟩
      case measure => simp [intOf]; omega
/-- the answer of a function of one number for a stem -/
def skR (n : Int) (v : Nat → Nat) : Value := if 0 ≤ n ∧ n ≤ 9999 then .tuple #[.int .i64 (v n.toNat : Nat), .bool true] else .tuple #[.int .i64 0, .bool false]
theorem skR_yes (u : Nat) (v : Nat → Nat) (h : u ≤ 9999) : skR (u : Int) v = .tuple #[.int .i64 (v u : Nat), .bool true] := by unfold skR; rw [if_pos (by omega)]; rfl
theorem skR_no (n : Int) (v : Nat → Nat) (h : ¬ (0 ≤ n ∧ n ≤ 9999)) : skR n v = .tuple #[.int .i64 0, .bool false] := by unfold skR; rw [if_neg h]
theorem sStrokeOf_any (n : Int) (w : World) : Calls Tryd.prog 17 #[.int .i64 n] w fun e w' => e = .returned (skR n vsg) ∧ Below w.heap.size w w' := by
  have C := Lib.hid (in_any n 0 9999 w)
  by_cases h : 0 ≤ n ∧ n ≤ 9999
  · rw [show decide (0 ≤ n ∧ n ≤ 9999) = true from decide_eq_true h] at C
    obtain ⟨u, rfl⟩ := Int.eq_ofNat_of_zero_le h.1
    have Hf := Lib.hid (skR_yes u vsg (by omega))
    have O := Lib.hid (l7Of_any u w (by omega))
    clear h
    go_enter Tryd.func17, Tryd.ntmps17
    go_wp2_with fail
    refine C.out.mono ?_
    rintro e w1 ⟨rfl, rfl⟩
    go_wp2_with fail
    refine O.out.mono ?_
    rintro e w1 ⟨rfl, g1⟩
    have G1 := Lib.hid g1; clear g1
    go_wp2_with fail
    go_ret2
    exact ⟨vret Hf.out.symm, G1.out⟩
  · have Hf := Lib.hid (skR_no n vsg h)
    rw [show decide (0 ≤ n ∧ n ≤ 9999) = false from decide_eq_false h] at C
    clear h
    go_enter Tryd.func17, Tryd.ntmps17
    go_wp2_with fail
    refine C.out.mono ?_
    rintro e w1 ⟨rfl, rfl⟩
    go_wp2_with fail
    go_ret2
    exact ⟨vret Hf.out.symm, Below.refl _ _⟩
theorem sStrokeCount_any (n : Int) (w : World) : Calls Tryd.prog 23 #[.int .i64 n] w fun e w' => e = .returned (skR n fun u => bc (vsg u)) ∧ Below w.heap.size w w' := by
  have C := Lib.hid (in_any n 0 9999 w)
  by_cases h : 0 ≤ n ∧ n ≤ 9999
  · rw [show decide (0 ≤ n ∧ n ≤ 9999) = true from decide_eq_true h] at C
    obtain ⟨u, rfl⟩ := Int.eq_ofNat_of_zero_le h.1
    have Hf := Lib.hid (skR_yes u (fun u => bc (vsg u)) (by omega))
    have O := Lib.hid (l7Of_any u w (by omega))
    have D := Lib.hid (fun w => l7Count_any (vsg u) w (sg_lt u))
    clear h
    go_enter Tryd.func23, Tryd.ntmps23
    go_wp2_with fail
    refine C.out.mono ?_
    rintro e w1 ⟨rfl, rfl⟩
    go_wp2_with fail
    refine O.out.mono ?_
    rintro e w1 ⟨rfl, g1⟩
    have G1 := Lib.hid g1; clear g1
    go_wp2_with fail
    refine (D.out _).mono ?_
    rintro e w2 ⟨rfl, rfl⟩
    go_wp2_with fail
    go_ret2
    exact ⟨vret Hf.out.symm, G1.out⟩
  · have Hf := Lib.hid (skR_no n (fun u => bc (vsg u)) h)
    rw [show decide (0 ≤ n ∧ n ≤ 9999) = false from decide_eq_false h] at C
    clear h
    go_enter Tryd.func23, Tryd.ntmps23
    go_wp2_with fail
    refine C.out.mono ?_
    rintro e w1 ⟨rfl, rfl⟩
    go_wp2_with fail
    go_ret2
    exact ⟨vret Hf.out.symm, Below.refl _ _⟩
theorem sStrokeTurned_any (n : Int) (w : World) : Calls Tryd.prog 27 #[.int .i64 n] w fun e w' => e = .returned (skR n tnd) ∧ Below w.heap.size w w' := by
  have C := Lib.hid (in_any n 0 9999 w)
  by_cases h : 0 ≤ n ∧ n ≤ 9999
  · rw [show decide (0 ≤ n ∧ n ≤ 9999) = true from decide_eq_true h] at C
    obtain ⟨u, rfl⟩ := Int.eq_ofNat_of_zero_le h.1
    have Hf := Lib.hid (skR_yes u tnd (by omega))
    have hu : u ≤ 9999 := by omega
    clear h
    go_enter Tryd.func27, Tryd.ntmps27
    go_wp2_with fail
    refine C.out.mono ?_
    rintro e w1 ⟨rfl, rfl⟩
    go_wp2_with fail
    go_ret2
    exact ⟨vret (Hf.out.trans (by unfold tnd; go_num)).symm, Below.refl _ _⟩
  · have Hf := Lib.hid (skR_no n tnd h)
    rw [show decide (0 ≤ n ∧ n ≤ 9999) = false from decide_eq_false h] at C
    clear h
    go_enter Tryd.func27, Tryd.ntmps27
    go_wp2_with fail
    refine C.out.mono ?_
    rintro e w1 ⟨rfl, rfl⟩
    go_wp2_with fail
    go_ret2
    exact ⟨vret Hf.out.symm, Below.refl _ _⟩
theorem sStrokeMirror_any (n : Int) (w : World) : Calls Tryd.prog 29 #[.int .i64 n] w fun e w' => e = .returned (skR n mrd) ∧ Below w.heap.size w w' := by
  have C := Lib.hid (in_any n 0 9999 w)
  by_cases h : 0 ≤ n ∧ n ≤ 9999
  · rw [show decide (0 ≤ n ∧ n ≤ 9999) = true from decide_eq_true h] at C
    obtain ⟨u, rfl⟩ := Int.eq_ofNat_of_zero_le h.1
    have Hf := Lib.hid (skR_yes u mrd (by omega))
    have hu : u ≤ 9999 := by omega
    clear h
    go_enter Tryd.func29, Tryd.ntmps29
    go_wp2_with fail
    refine C.out.mono ?_
    rintro e w1 ⟨rfl, rfl⟩
    go_wp2_with fail
    go_ret2
    exact ⟨vret (Hf.out.trans (by unfold mrd; go_num)).symm, Below.refl _ _⟩
  · have Hf := Lib.hid (skR_no n mrd h)
    rw [show decide (0 ≤ n ∧ n ≤ 9999) = false from decide_eq_false h] at C
    clear h
    go_enter Tryd.func29, Tryd.ntmps29
    go_wp2_with fail
    refine C.out.mono ?_
    rintro e w1 ⟨rfl, rfl⟩
    go_wp2_with fail
    go_ret2
    exact ⟨vret Hf.out.symm, Below.refl _ _⟩
end Go.Proofs.YtdokdlcmplggfaaDoor
