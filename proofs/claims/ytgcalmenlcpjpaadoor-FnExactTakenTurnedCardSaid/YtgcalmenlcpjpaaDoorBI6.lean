/- The program's exchanged, isPlain. -/
import Derived.Test.YtgcalmenlcpjpaaDoorBI5
import Derived.ChangeKeysEq
namespace Go.Proofs.YtgcalmenlcpjpaaDoor
open Go.RowKit
set_option linter.unusedVariables false
set_option maxRecDepth 100000
/-- what the pile's block holds when value k comes -/
def exG (f p : Nat → Int) (n k j : Nat) : Int := if j < k then exq f p n j else if j = k then p k + car f p k else if j < n then p j else 0
theorem exG_zero (f p : Nat → Int) (n j : Nat) (hn : 1 ≤ n) : pad p n j = exG f p n 0 j := by
  unfold exG pad
  by_cases e : j = 0
  · subst e; simp [car]; omega
  · simp [e]
theorem exG_step (f p : Nat → Int) (n k j : Nat) : (if j = k + 1 then p (k + 1) + car f p (k + 1) else if j = k then exq f p n k else exG f p n k j) = exG f p n (k + 1) j := by
  unfold exG
  by_cases e1 : j = k + 1
  · subst e1; simp
  · by_cases e2 : j = k
    · subst e2; simp
    · by_cases e3 : j < k
      · simp [e1, e2, e3, show j < k + 1 by omega]
      · simp [e1, e2, e3, show ¬ j < k + 1 by omega]
theorem exG_last (f p : Nat → Int) (m j : Nat) : exG f p (m + 1) m j = pad (exq f p (m + 1)) (m + 1) j := by
  unfold exG pad
  by_cases e1 : j < m
  · simp [e1, show j < m + 1 by omega]
  · by_cases e2 : j = m
    · subst e2; simp [exq]
    · simp [e1, e2, show ¬ j < m + 1 by omega]
theorem item_int (d i : Nat) (is : List Nat) (xs ys : Array Value) (a b : Int) (w : World) (ha : xs[i]? = some (.int .i64 a)) (hb : ys[i]? = some (.int .i64 b)) :
    (Op.eqItems (d + 1) 3 1 xs ys (i :: is)).run Tryd.prog w = if a = b then (Op.eqItems (d + 1) 3 1 xs ys is).run Tryd.prog w else .ok false w := by
  have he := Tryd.underlying3
  have px : (part 3 xs (i * 1)).run Tryd.prog w = .ok (.int .i64 a) w := by simp [part, isAgg, run_underlying he, ha]
  have py : (part 3 ys (i * 1)).run Tryd.prog w = .ok (.int .i64 b) w := by simp [part, isAgg, run_underlying he, hb]
  have pe : (Op.equalIn (d + 1) 3 (.int .i64 a) (.int .i64 b)).run Tryd.prog w = .ok (a == b) w := run_equalIn_int w d _ .i64 .i64 _ _ he
  simp only [Op.eqItems, Sem.run_bind, px, py, pe, Result.andThen_ok]
  by_cases h : a = b
  · simp [h]
  · simp [h]
def eq6B (p q : Nat → Int) : Bool := (List.range 6).all fun j => decide (p j = q j)
theorem eq6B_spec {p q : Nat → Int} : eq6B p q = true ↔ ∀ j, j < 6 → p j = q j := by
  unfold eq6B
  rw [List.all_eq_true]
  constructor
  · intro h j hj; exact of_decide_eq_true (h j (List.mem_range.2 hj))
  · intro h j hj; exact decide_eq_true (h j (List.mem_range.1 hj))
theorem eq6_any (p q : Nat → Int) (w : World) : (Op.equalIn 10000 47 (.agg (arr6 p)) (.agg (arr6 q))).run Tryd.prog w = .ok (eq6B p q) w := by
  obtain ⟨i1, hi1, _, _, _⟩ := info_parts info_int
  have hat : ∀ (p : Nat → Int) (j : Nat), j < 6 → (arr6 p)[j]? = some (.int .i64 (p j)) := fun p j hj => by unfold arr6; rw [List.getElem?_toArray]; exact intCells_at p 6 j hj
  rw [show (10000 : Nat) = 9999 + 1 from rfl, run_equalIn_array w 9999 _ _ Tryd.underlying47 hi1, show Tryd.prog.cellsOf 3 = 1 from by kernel_rfl, show List.range 6 = [0, 1, 2, 3, 4, 5] from rfl]
  rw [item_int 9998 0 _ _ _ _ _ w (hat p 0 (by omega)) (hat q 0 (by omega)), item_int 9998 1 _ _ _ _ _ w (hat p 1 (by omega)) (hat q 1 (by omega)), item_int 9998 2 _ _ _ _ _ w (hat p 2 (by omega)) (hat q 2 (by omega)),
    item_int 9998 3 _ _ _ _ _ w (hat p 3 (by omega)) (hat q 3 (by omega)), item_int 9998 4 _ _ _ _ _ w (hat p 4 (by omega)) (hat q 4 (by omega)), item_int 9998 5 _ _ _ _ _ w (hat p 5 (by omega)) (hat q 5 (by omega))]
  have hn : ∀ xs ys : Array Value, (Op.eqItems (9998 + 1) 3 1 xs ys []).run Tryd.prog w = .ok true w := fun _ _ => by simp [Op.eqItems]
  rw [hn]
  by_cases h : ∀ j, j < 6 → p j = q j
  · rw [eq6B_spec.2 h, if_pos (h 0 (by omega)), if_pos (h 1 (by omega)), if_pos (h 2 (by omega)), if_pos (h 3 (by omega)), if_pos (h 4 (by omega)), if_pos (h 5 (by omega))]
  · rw [show eq6B p q = false by rw [Bool.eq_false_iff]; exact fun h' => h (eq6B_spec.1 h')]
    by_cases h0 : p 0 = q 0
    · rw [if_pos h0]
      by_cases h1 : p 1 = q 1
      · rw [if_pos h1]
        by_cases h2 : p 2 = q 2
        · rw [if_pos h2]
          by_cases h3 : p 3 = q 3
          · rw [if_pos h3]
            by_cases h4 : p 4 = q 4
            · rw [if_pos h4]
              by_cases h5 : p 5 = q 5
              · refine absurd (fun j hj => ?_) h
                rcases (show j = 0 ∨ j = 1 ∨ j = 2 ∨ j = 3 ∨ j = 4 ∨ j = 5 by omega) with rfl | rfl | rfl | rfl | rfl | rfl <;> assumption
              · rw [if_neg h5]
            · rw [if_neg h4]
          · rw [if_neg h3]
        · rw [if_neg h2]
      · rw [if_neg h1]
    · rw [if_neg h0]
def plainB (f p : Nat → Int) (n : Nat) : Bool := eq6B (pad p n) (pad (exq f p n) n)
theorem plainB_plB {f p : Nat → Int} {n m : Nat} (h : pilB f n p m = true) : plainB f p n = plB f n p m := by
  obtain ⟨s1, s2, s3, rfl, s4, s5⟩ := pilB_sys h
  rw [Bool.eq_iff_iff, plB_spec]
  unfold plainB
  rw [eq6B_spec]
  constructor
  · intro he
    refine ⟨h, (exq_plain_eq s1 s4).1 fun j hj => ?_⟩
    have := he j (by omega)
    rw [pad_in _ _ _ hj, pad_in _ _ _ hj] at this
    exact this
  · rintro ⟨_, hp⟩ j hj
    unfold pad
    by_cases e : j < m
    · rw [if_pos e, if_pos e]; exact (exq_plain_eq s1 s4).2 hp j e
    · rw [if_neg e, if_neg e]
end Go.Proofs.YtgcalmenlcpjpaaDoor
