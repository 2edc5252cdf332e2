/- The model's chapter 4 (package spec): PlaceDays, PlaceFrom, l4Places, PlaceDigits, PlaceNumber. -/
import Derived.Test.YtejhiilkbckobaaDoorCS
import Derived.Test.YtejhiilkbckobaaDoorBO
import Derived.Test.YtejhiilkbckobaaDoorBT
namespace Go.Proofs.YtejhiilkbckobaaDoor
open Go.RowKit
set_option linter.unusedVariables false
set_option maxRecDepth 100000
def daysF (n : Int) (k : Nat) : Int := if k = 0 then n / 144000 else if k = 1 then n / 7200 % 20 else if k = 2 then n / 360 % 20 else if k = 3 then n / 20 % 18 else n % 20
def daysB (n : Int) : Bool := decide (0 ≤ n ∧ n ≤ 2879999)
/-- is number j of a count of days as told? -/
def dayOk (f : Nat → Int) (j : Nat) : Prop := 0 ≤ f j ∧ f j ≤ 19 ∧ (j = 3 → f j ≤ 17)
def fromB (f : Nat → Int) (n : Nat) : Bool := decide (n = 5) && decide (0 ≤ f 0 ∧ f 0 ≤ 19 ∧ 0 ≤ f 1 ∧ f 1 ≤ 19 ∧ 0 ≤ f 2 ∧ f 2 ≤ 19 ∧ 0 ≤ f 3 ∧ f 3 ≤ 17 ∧ 0 ≤ f 4 ∧ f 4 ≤ 19)
theorem fromB_iff (f : Nat → Int) (n : Nat) : fromB f n = true ↔ n = 5 ∧ ∀ j, j < 5 → dayOk f j := by
  unfold fromB dayOk
  rw [Bool.and_eq_true, decide_eq_true_eq, decide_eq_true_eq]
  constructor
  · rintro ⟨h, h0⟩
    refine ⟨h, fun j hj => ?_⟩
    rcases (show j = 0 ∨ j = 1 ∨ j = 2 ∨ j = 3 ∨ j = 4 by omega) with rfl | rfl | rfl | rfl | rfl <;> refine ⟨by omega, by omega, by omega⟩
  · rintro ⟨h, h0⟩
    have := h0 0 (by omega); have := h0 1 (by omega); have := h0 2 (by omega); have := h0 3 (by omega); have := h0 4 (by omega)
    refine ⟨h, by omega⟩
def fromV (f : Nat → Int) : Int := 144000 * f 0 + 7200 * f 1 + 360 * f 2 + 20 * f 3 + f 4
def fromR (f : Nat → Int) (n : Nat) : Value := if fromB f n = true then .tuple #[.int .i64 (fromV f), .bool true] else .tuple #[.int .i64 0, .bool false]
theorem fromR_yes (f : Nat → Int) (n : Nat) (h : fromB f n = true) : fromR f n = .tuple #[.int .i64 (fromV f), .bool true] := by unfold fromR; rw [if_pos h]
theorem fromR_no (f : Nat → Int) (n : Nat) (h : ¬ fromB f n = true) : fromR f n = .tuple #[.int .i64 0, .bool false] := by unfold fromR; rw [if_neg h]
/-- are these places? -/
def plcB (f : Nat → Int) (n : Nat) : Bool := decide (1 ≤ n ∧ n ≤ 6 ∧ ∀ j, j < n → 2 ≤ f j ∧ f j ≤ 100)
theorem plcB_iff (f : Nat → Int) (n : Nat) : plcB f n = true ↔ 1 ≤ n ∧ n ≤ 6 ∧ ∀ j, j < n → 2 ≤ f j ∧ f j ≤ 100 := by unfold plcB; rw [decide_eq_true_eq]
def plcV (f : Nat → Int) (n : Nat) : Int := if plcB f n = true then prd f n else 0
theorem prd_small (f : Nat → Int) (n k : Nat) (h : ∀ j, j < n → 2 ≤ f j ∧ f j ≤ 100) (hk : k ≤ n) (h6 : k ≤ 6) : 1 ≤ prd f k ∧ prd f k ≤ 1000000000000 := by
  refine ⟨prd_pos f n (fun j hj => (h j hj).1) k hk, Int.le_trans (prd_bound f n h k hk) ?_⟩
  rcases (show k = 0 ∨ k = 1 ∨ k = 2 ∨ k = 3 ∨ k = 4 ∨ k = 5 ∨ k = 6 by omega) with rfl | rfl | rfl | rfl | rfl | rfl | rfl <;> decide
end Go.Proofs.YtejhiilkbckobaaDoor
