/- The program's two function values: RomanShort's literal, and without. -/
import Derived.Test.YthgagidpnnaajaaDoorLI
import Derived.Test.YthgagidpnnaajaaDoorQ
namespace Go.Proofs.YthgagidpnnaajaaDoor
open Go.RowKit
set_option linter.unusedVariables false
set_option maxRecDepth 100000
theorem without_any (c g : Nat) (v : Int) (w : World) (hl : LV w) (hc : c < 7) (hg : g < 7) (h0 : -1000000 ≤ v) (h1 : v ≤ 1000000) :
    Calls Tryd.prog 54 #[.agg #[.int .i64 c, .int .i64 v], .int .i64 g] w fun e w' => e = .returned (.agg #[.int .i64 g, .int .i64 (wo c g v)]) ∧ Below w.heap.size w w' := by
  have hlb := lv_bd c
  unfold wo
  have H := Lib.hid hl; clear hl
  have hw1 : IntKind.i64.wrap (v - lv c) = v - lv c := IntWalk.i64_in _ (by omega)
  have hw2 : IntKind.i64.wrap (v + lv c) = v + lv c := IntWalk.i64_in _ (by omega)
  by_cases hcc : lv c < lv g
  · rw [if_pos hcc]
    clear hw1
    go_enter Tryd.func54, Tryd.ntmps54
    go_wp2_with fail
    refine (takenOff_any c g _ ((H.out.alloc _).alloc _) hc hg).mono ?_
    rintro e w1 ⟨rfl, rfl⟩
    rw [decide_eq_true hcc]
    go_wp2_with fail
    refine wp_region_still_tail 8 (by kernel_rfl) (by kernel_rfl) ?_
    simp only [List.take_succ_cons, List.take_zero, List.drop_succ_cons, List.drop_zero]
    change wpStill _ _ (World.drew _) _ _ _
    repeat still_step
    still_call ((lvalue_any c _ (((H.out.alloc _).alloc _).step (Below.refl _ _).drew) hc).mono fun _ _ q => ⟨q.1, q.2.symm⟩)
    repeat still_step
    refine wpStill_nil ?_
    change wpList _ _ _ _ _ (World.drew _)
    go_wp2
    exact bodyPost_ret (v := .agg #[.int .i64 g, .int .i64 (v + lv c)]) (by simp [results, Tryd.results54, go_sem]) rfl ⟨rfl, ((((Below.refl _ _).alloc (Nat.le_refl _) _).alloc (by simp) _).drew)⟩
  · rw [if_neg hcc]
    clear hw2
    go_enter Tryd.func54, Tryd.ntmps54
    go_wp2_with fail
    refine (takenOff_any c g _ ((H.out.alloc _).alloc _) hc hg).mono ?_
    rintro e w1 ⟨rfl, rfl⟩
    rw [show decide (lv c < lv g) = false from decide_eq_false (by omega)]
    go_wp2_with fail
    refine wp_region_still_tail 8 (by kernel_rfl) (by kernel_rfl) ?_
    simp only [List.take_succ_cons, List.take_zero, List.drop_succ_cons, List.drop_zero]
    change wpStill _ _ (World.drew _) _ _ _
    repeat still_step
    still_call ((lvalue_any c _ (((H.out.alloc _).alloc _).step (Below.refl _ _).drew) hc).mono fun _ _ q => ⟨q.1, q.2.symm⟩)
    repeat still_step
    refine wpStill_nil ?_
    change wpList _ _ _ _ _ (World.drew _)
    go_wp2
    exact bodyPost_ret (v := .agg #[.int .i64 g, .int .i64 (v - lv c)]) (by simp [results, Tryd.results54, go_sem]) rfl ⟨rfl, ((((Below.refl _ _).alloc (Nat.le_refl _) _).alloc (by simp) _).drew)⟩
theorem lit_any (g p : Nat) (n : Int) (w : World) (hn : w.cell? ⟨p, 0, none⟩ = some (.int .i64 n)) :
    Calls Tryd.prog 51 #[.int .i64 g, .pointer (some ⟨p, 0, none⟩)] w fun e w' => e = .returned (.agg #[.int .i64 g, .int .i64 n]) ∧ Below w.heap.size w w' := by
  have hlt := World.block_lt_of_cell? w _ hn
  have hn2 : ∀ o, (w.alloc o).cell? ⟨p, 0, none⟩ = some (.int .i64 n) := fun o => (World.cell?_of_block (Below.heap_alloc w o p hlt)).trans hn
  go_enter Tryd.func51, Tryd.ntmps51
  go_wp2
  exact bodyPost_ret (v := .agg #[.int .i64 g, .int .i64 n]) (by simp [results, Tryd.results51, go_sem]) rfl ⟨rfl, (Below.refl _ _).alloc (Nat.le_refl _) _⟩
end Go.Proofs.YthgagidpnnaajaaDoor
