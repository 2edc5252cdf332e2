/- The program's letters: sign, value, isTakenOff, letterOf, before, noText. -/
import Derived.Test.YthgagidpnnaajaaDoorLM
import Derived.StillTailTactics
namespace Go.Proofs.YthgagidpnnaajaaDoor
open Go.RowKit
set_option linter.unusedVariables false
set_option maxRecDepth 100000
theorem ret_of {a b : Value} (h : a = b) : Ending.returned a = .returned b := by rw [h]
theorem lvalue_any (l : Nat) (w : World) (hl : LV w) (h : l < 7) : Calls Tryd.prog 64 #[.int .i64 l] w fun e w' => e = .returned (.int .i64 (lv l)) ∧ w = w' := by
  have hc := hl.2 l h
  clear hl
  go_enter Tryd.func64, Tryd.ntmps64
  go_wp2
  go_ret
  exact ⟨rfl, rfl⟩
theorem lsign_any (l : Nat) (w : World) (h : l < 7) : Calls Tryd.prog 53 #[.int .i64 l] w fun e w' => e = .returned (.int .u8 (sg l)) ∧ w = w' := by
  have he : ∀ hix, ((((⟨#[67, 68, 73, 76, 77, 86, 88]⟩ : ByteArray)[l]'hix).toNat : Int)) = sg l := by
    rcases (show l = 0 ∨ l = 1 ∨ l = 2 ∨ l = 3 ∨ l = 4 ∨ l = 5 ∨ l = 6 by omega) with rfl | rfl | rfl | rfl | rfl | rfl | rfl <;> (intro _; rfl)
  have He := Lib.hid he; clear he
  go_enter Tryd.func53, Tryd.ntmps53
  go_wp2
  go_ret
  exact ⟨ret_int (He.out _), rfl⟩
theorem takenOff_any (l b : Nat) (w : World) (hl : LV w) (h : l < 7) (hb : b < 7) : Calls Tryd.prog 63 #[.int .i64 l, .int .i64 b] w fun e w' => e = .returned (.bool (decide (lv l < lv b))) ∧ w = w' := by
  have H := Lib.hid hl; clear hl
  go_enter Tryd.func63, Tryd.ntmps63
  go_wp2_with fail
  refine (lvalue_any l _ H.out h).mono ?_
  rintro e w1 ⟨rfl, rfl⟩
  go_wp2_with fail
  refine (lvalue_any b _ H.out hb).mono ?_
  rintro e w1 ⟨rfl, rfl⟩
  go_wp2_with fail
  go_ret
  exact ⟨rfl, rfl⟩
theorem noText_any (w : World) : Calls Tryd.prog 42 #[] w fun e w' => e = .returned (.agg #[.int .i64 2, .int .i64 0]) ∧ Below w.heap.size w w' := by
  go_enter Tryd.func42, Tryd.ntmps42
  go_wp2
  exact bodyPost_ret (v := .agg #[.int .i64 2, .int .i64 0]) (by simp [results, Tryd.results42, go_sem]) rfl ⟨rfl, (Below.refl _ _).alloc (Nat.le_refl _) _⟩
theorem before_any (l f : Nat) (v : Int) (w : World) (hl : LV w) (h : l < 7) (hf : f < 7) (h0 : -1000000 ≤ v) (h1 : v ≤ 1000000) :
    Calls Tryd.prog 44 #[.int .i64 l, .agg #[.int .i64 f, .int .i64 v]] w fun e w' => e = .returned (.agg #[.int .i64 l, .int .i64 (bef l f v)]) ∧ Below w.heap.size w w' := by
  have hlb := lv_bd l
  unfold bef
  have H := Lib.hid hl; clear hl
  have hw1 : IntKind.i64.wrap (v - lv l) = v - lv l := IntWalk.i64_in _ (by omega)
  have hw2 : IntKind.i64.wrap (v + lv l) = v + lv l := IntWalk.i64_in _ (by omega)
  by_cases hc : lv l < lv f
  · rw [if_pos hc]
    clear hw2
    go_enter Tryd.func44, Tryd.ntmps44
    go_wp2_with fail
    refine (takenOff_any l f _ ((H.out.alloc _).alloc _) h hf).mono ?_
    rintro e w1 ⟨rfl, rfl⟩
    rw [decide_eq_true hc]
    go_wp2_with fail
    refine wp_region_still_tail 7 (by kernel_rfl) (by kernel_rfl) ?_
    simp only [List.take_succ_cons, List.take_zero, List.drop_succ_cons, List.drop_zero]
    change wpStill _ _ (World.drew _) _ _ _
    repeat still_step
    still_call ((lvalue_any l _ (((H.out.alloc _).alloc _).step (Below.refl _ _).drew) h).mono fun _ _ q => ⟨q.1, q.2.symm⟩)
    repeat still_step
    refine wpStill_nil ?_
    change wpList _ _ _ _ _ (World.drew _)
    go_wp2
    exact bodyPost_ret (v := .agg #[.int .i64 l, .int .i64 (v - lv l)]) (by simp [results, Tryd.results44, go_sem]) rfl ⟨rfl, ((((Below.refl _ _).alloc (Nat.le_refl _) _).alloc (by simp) _).drew)⟩
  · rw [if_neg hc]
    clear hw1
    go_enter Tryd.func44, Tryd.ntmps44
    go_wp2_with fail
    refine (takenOff_any l f _ ((H.out.alloc _).alloc _) h hf).mono ?_
    rintro e w1 ⟨rfl, rfl⟩
    rw [show decide (lv l < lv f) = false from decide_eq_false (by omega)]
    go_wp2_with fail
    refine wp_region_still_tail 7 (by kernel_rfl) (by kernel_rfl) ?_
    simp only [List.take_succ_cons, List.take_zero, List.drop_succ_cons, List.drop_zero]
    change wpStill _ _ (World.drew _) _ _ _
    repeat still_step
    still_call ((lvalue_any l _ (((H.out.alloc _).alloc _).step (Below.refl _ _).drew) h).mono fun _ _ q => ⟨q.1, q.2.symm⟩)
    repeat still_step
    refine wpStill_nil ?_
    change wpList _ _ _ _ _ (World.drew _)
    go_wp2
    exact bodyPost_ret (v := .agg #[.int .i64 l, .int .i64 (v + lv l)]) (by simp [results, Tryd.results44, go_sem]) rfl ⟨rfl, ((((Below.refl _ _).alloc (Nat.le_refl _) _).alloc (by simp) _).drew)⟩
/-- letterOf's answer -/
def letterOfR (c : Int) : Value := if li c < 7 then .tuple #[.int .i64 (li c : Nat), .bool true] else .tuple #[.int .i64 0, .bool false]
theorem letterOf_any (c : Int) (w : World) : Calls Tryd.prog 43 #[.int .u8 c] w fun e w' => e = .returned (letterOfR c) ∧ w = w' := by
  go_enter Tryd.func43, Tryd.ntmps43
  go_wp2_with fail
  go_loop [5] (fun i => ∃ k : Nat, i = .int .i64 k ∧ k ≤ 7 ∧ ∀ j, j < k → sg j ≠ c) (fun i => 7 - (intOf i).toNat)
  case atStart => exact ⟨0, rfl, by omega, fun j hj => by omega⟩
  case round =>
    obtain ⟨k, rfl, hk, hno⟩ := hrel
    have Hno := Lib.hid hno; clear hno
    by_cases hlt : k < 7
    · by_cases he : sg k = c
      · have ht : (sg k == c) = true := by rw [beq_iff_eq]; exact he
        have Hr : Hid (letterOfR c = .tuple #[.int .i64 (k : Nat), .bool true]) := by
          show _ = _
          unfold letterOfR
          rw [← he, li_sg k hlt, if_pos hlt]
        clear he
        go_wp2_with fail
        refine (lsign_any k _ hlt).mono ?_
        rintro e w1 ⟨rfl, rfl⟩
        go_wp2_with fail
        go_ret2
        exact ⟨ret_of Hr.out.symm, rfl⟩
      · have ht : (sg k == c) = false := by rw [beq_eq_false_iff_ne]; exact he
        have Hst : Hid (∀ j, j < k + 1 → sg j ≠ c) := fun j hj => by
          by_cases e : j = k
          · subst e; exact he
          · exact Hno.out j (by omega)
        clear he
        go_wp2_with fail
        refine (lsign_any k _ hlt).mono ?_
        rintro e w1 ⟨rfl, rfl⟩
        go_wp2_with fail
        go_round
        case rel => exact ⟨k + 1, by go_num, by omega, Hst.out⟩
        case measure => simp [intOf]; omega
    · obtain rfl : k = 7 := by omega
      have Hr : Hid (letterOfR c = .tuple #[.int .i64 0, .bool false]) := by
        show _ = _
        unfold letterOfR
        rw [li_none c Hno.out, if_neg (by omega)]
      go_wp2_with fail
      go_ret2
      exact ⟨ret_of Hr.out.symm, rfl⟩
end Go.Proofs.YthgagidpnnaajaaDoor
