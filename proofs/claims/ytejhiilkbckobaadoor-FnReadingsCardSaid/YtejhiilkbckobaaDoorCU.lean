/- The model's chapter 4 (package spec): PlaceDigits, PlaceNumber. -/
import Derived.Test.YtejhiilkbckobaaDoorCT
import Derived.Deep.RegionLaw
import Derived.Deep.AppendLies
import Derived.Laws.OwnMore
namespace Go.Proofs.YtejhiilkbckobaaDoor
open Go.RowKit
set_option linter.unusedVariables false
set_option maxRecDepth 100000
/-- does PlaceDigits give digits? -/
def digB (f : Nat → Int) (n : Nat) (N : Int) : Bool := decide (0 ≤ N ∧ N ≤ plcV f n - 1)
theorem digB_iff (f : Nat → Int) (n : Nat) (N : Int) : digB f n N = true ↔ plcB f n = true ∧ 0 ≤ N ∧ N < prd f n := by
  unfold digB plcV
  rw [decide_eq_true_eq]
  constructor
  · rintro ⟨h0, h1⟩
    split at h1
    · rename_i h; exact ⟨h, h0, by omega⟩
    · omega
  · rintro ⟨h, h0, h1⟩
    rw [if_pos h]
    exact ⟨h0, by omega⟩
theorem lft_le (p : Nat → Int) (n : Nat) (N : Int) (h : ∀ k, k < n → 2 ≤ p k) (h0 : 0 ≤ N) : ∀ j, j ≤ n → 0 ≤ lft p n N j ∧ lft p n N j ≤ N := by
  intro j
  induction j with
  | zero => intro _; exact ⟨h0, Int.le_refl _⟩
  | succ j ih =>
    intro hj
    obtain ⟨a, b⟩ := ih (by omega)
    have hp := h (n - 1 - j) (by omega)
    simp only [lft]
    refine ⟨Int.ediv_nonneg a (by omega), Int.le_trans (Int.ediv_le_self _ a) b⟩
/-- does PlaceNumber give a number? -/
def numB4 (f : Nat → Int) (n : Nat) (d : Nat → Int) (m : Nat) : Bool := plcB f n && (decide (m = n) && decide (∀ j, j < n → 0 ≤ d j ∧ d j ≤ f j - 1))
theorem numB4_iff (f : Nat → Int) (n : Nat) (d : Nat → Int) (m : Nat) : numB4 f n d m = true ↔ plcB f n = true ∧ m = n ∧ ∀ j, j < n → 0 ≤ d j ∧ d j ≤ f j - 1 := by
  unfold numB4
  rw [Bool.and_eq_true, Bool.and_eq_true, decide_eq_true_eq, decide_eq_true_eq]
def numR4 (f : Nat → Int) (n : Nat) (d : Nat → Int) (m : Nat) : Value := if numB4 f n d m = true then .tuple #[.int .i64 (dnum f d n), .bool true] else .tuple #[.int .i64 0, .bool false]
theorem numR4_yes {f : Nat → Int} {n : Nat} {d : Nat → Int} {m : Nat} (h : numB4 f n d m = true) : numR4 f n d m = .tuple #[.int .i64 (dnum f d n), .bool true] := by unfold numR4; rw [if_pos h]
theorem numR4_no {f : Nat → Int} {n : Nat} {d : Nat → Int} {m : Nat} (h : ¬ numB4 f n d m = true) : numR4 f n d m = .tuple #[.int .i64 0, .bool false] := by unfold numR4; rw [if_neg h]
end Go.Proofs.YtejhiilkbckobaaDoor
