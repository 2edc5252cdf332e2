/- Comparison of two rows of the table. -/
import Derived.Test.YthgagidpnnaajaaDoorQF
import Derived.ChangeKeysEq
namespace Go.Proofs.YthgagidpnnaajaaDoor
open Go.RowKit
set_option linter.unusedVariables false
set_option maxRecDepth 100000
theorem info_i8 : (Tryd.prog.info? 83).map (fun i => (i.zero, i.size, i.bytes)) = some (some (.int .i8 0), 1, 1) := by kernel_rfl
theorem item_i8 (d i : Nat) (is : List Nat) (xs ys : Array Value) (a b : Int) (w : World) (ha : xs[i]? = some (.int .i8 a)) (hb : ys[i]? = some (.int .i8 b)) :
    (Op.eqItems (d + 1) 83 1 xs ys (i :: is)).run Tryd.prog w = if a = b then (Op.eqItems (d + 1) 83 1 xs ys is).run Tryd.prog w else .ok false w := by
  have he := Tryd.underlying83
  have px : (part 83 xs (i * 1)).run Tryd.prog w = .ok (.int .i8 a) w := by simp [part, isAgg, run_underlying he, ha]
  have py : (part 83 ys (i * 1)).run Tryd.prog w = .ok (.int .i8 b) w := by simp [part, isAgg, run_underlying he, hb]
  have pe : (Op.equalIn (d + 1) 83 (.int .i8 a) (.int .i8 b)).run Tryd.prog w = .ok (a == b) w := run_equalIn_int w d _ .i8 .i8 _ _ he
  simp only [Op.eqItems, Sem.run_bind, px, py, pe, Result.andThen_ok]
  by_cases h : a = b
  · simp [h]
  · simp [h]
theorem eq7_any (a0 a1 a2 a3 a4 a5 a6 : Int) (w : World) : (Op.equalIn 10000 84 (.agg #[.int .i8 a0, .int .i8 a1, .int .i8 a2, .int .i8 a3, .int .i8 a4, .int .i8 a5, .int .i8 a6])
    (.agg #[.int .i8 0, .int .i8 0, .int .i8 0, .int .i8 0, .int .i8 0, .int .i8 0, .int .i8 0])).run Tryd.prog w = .ok (decide (a0 = 0 ∧ a1 = 0 ∧ a2 = 0 ∧ a3 = 0 ∧ a4 = 0 ∧ a5 = 0 ∧ a6 = 0)) w := by
  obtain ⟨i1, hi1, _, _, _⟩ := info_parts info_i8
  rw [show (10000 : Nat) = 9999 + 1 from rfl, run_equalIn_array w 9999 _ _ Tryd.underlying84 hi1, show Tryd.prog.cellsOf 83 = 1 from by kernel_rfl, show List.range 7 = [0, 1, 2, 3, 4, 5, 6] from rfl]
  rw [item_i8 9998 0 _ _ _ a0 0 w rfl rfl, item_i8 9998 1 _ _ _ a1 0 w rfl rfl, item_i8 9998 2 _ _ _ a2 0 w rfl rfl, item_i8 9998 3 _ _ _ a3 0 w rfl rfl, item_i8 9998 4 _ _ _ a4 0 w rfl rfl, item_i8 9998 5 _ _ _ a5 0 w rfl rfl, item_i8 9998 6 _ _ _ a6 0 w rfl rfl]
  have hn : ∀ xs ys : Array Value, (Op.eqItems (9998 + 1) 83 1 xs ys []).run Tryd.prog w = .ok true w := fun _ _ => by simp [Op.eqItems]
  rw [hn]
  by_cases h0 : a0 = 0
  · by_cases h1 : a1 = 0
    · by_cases h2 : a2 = 0
      · by_cases h3 : a3 = 0
        · by_cases h4 : a4 = 0
          · by_cases h5 : a5 = 0
            · by_cases h6 : a6 = 0 <;> simp [h0, h1, h2, h3, h4, h5, h6]
            · simp [h5]
          · simp [h4]
        · simp [h3]
      · simp [h2]
    · simp [h1]
  · simp [h0]
theorem eq7_yes (w : World) : (Op.equalIn 10000 84 (.agg #[.int .i8 0, .int .i8 0, .int .i8 0, .int .i8 0, .int .i8 0, .int .i8 0, .int .i8 0])
    (.agg #[.int .i8 0, .int .i8 0, .int .i8 0, .int .i8 0, .int .i8 0, .int .i8 0, .int .i8 0])).run Tryd.prog w = .ok true w := by
  rw [eq7_any]; rfl
theorem eq7_no (x0 x1 x2 x3 x4 x5 x6 : Nat) (h : ¬ (x0 = 0 ∧ x1 = 0 ∧ x2 = 0 ∧ x3 = 0 ∧ x4 = 0 ∧ x5 = 0 ∧ x6 = 0)) (w : World) : (Op.equalIn 10000 84 (.agg #[.int .i8 x0, .int .i8 x1, .int .i8 x2, .int .i8 x3, .int .i8 x4, .int .i8 x5, .int .i8 x6])
    (.agg #[.int .i8 0, .int .i8 0, .int .i8 0, .int .i8 0, .int .i8 0, .int .i8 0, .int .i8 0])).run Tryd.prog w = .ok false w := by
  rw [eq7_any, decide_eq_false (fun h' => h (by omega))]
end Go.Proofs.YthgagidpnnaajaaDoor
