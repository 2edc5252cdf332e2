/- The model's chapter 2 (package spec): l2Pile, l2Of, l2Value. -/
import Derived.Test.YtejhiilkbckobaaDoorBS
namespace Go.Proofs.YtejhiilkbckobaaDoor
open Go.RowKit
set_option linter.unusedVariables false
set_option maxRecDepth 100000
theorem Mid.bel0 {B : Nat} {w w' : World} (h : Mid 0 0 w w') : Below B w w' := ⟨h.os, h.tape, h.output, Nat.le_of_eq h.size.symm, fun k hk => h.block k (by omega)⟩
theorem Mid.trans {lo hi : Nat} {a b c : World} (h : Mid lo hi a b) (k : Mid lo hi b c) : Mid lo hi a c := ⟨k.os.trans h.os, k.tape.trans h.tape, k.output.trans h.output, k.size.trans h.size, fun i hi => (k.block i hi).trans (h.block i hi)⟩
/-- a list is a pile of a system -/
def pilB (f : Nat → Int) (n : Nat) (p : Nat → Int) (m : Nat) : Bool := sysB f n && decide (m = n ∧ ∀ j, j < m → 0 ≤ p j ∧ p j ≤ 1000000)
theorem pilB_spec {f : Nat → Int} {n : Nat} {p : Nat → Int} {m : Nat} : pilB f n p m = true ↔ sysB f n = true ∧ m = n ∧ ∀ j, j < m → 0 ≤ p j ∧ p j ≤ 1000000 := by
  unfold pilB
  rw [Bool.and_eq_true, decide_eq_true_eq]
theorem pilB_sys {f : Nat → Int} {n : Nat} {p : Nat → Int} {m : Nat} (h : pilB f n p m = true) : SysF f n ∧ n ≤ 6 ∧ (∀ j, j < n → f j ≤ 1000000) ∧ m = n ∧ (∀ j, j < n → 0 ≤ p j) ∧ ∀ j, j < n → p j ≤ 1000000 := by
  obtain ⟨h1, rfl, h2⟩ := pilB_spec.1 h
  obtain ⟨a, b, c⟩ := sysB_sys h1
  exact ⟨a, b, c, rfl, fun j hj => (h2 j hj).1, fun j hj => (h2 j hj).2⟩
theorem Own.from {w : World} {b n k : Nat} {f : Nat → Int} (h : Own w b n (fun j => if k + 1 ≤ j then f j else 0)) : Own (w.setCell ⟨b, k, none⟩ (.int .i64 (f k))) b n (fun j => if k ≤ j then f j else 0) :=
  (h.set_ k (f k)).congr fun j hj => by
    by_cases e : j = k
    · subst e; simp
    · rw [if_neg e]
      by_cases h2 : k + 1 ≤ j
      · rw [if_pos h2, if_pos (by omega)]
      · rw [if_neg h2, if_neg (by omega)]
/-- a loop down from k - 1 to 0 -/
def DownIx (k : Nat) (i : Value) : Prop := (k = 0 ∧ i = .int .i64 (-1)) ∨ ∃ j : Nat, k = j + 1 ∧ i = .int .i64 (j : Nat)
theorem downIx_mk (k : Nat) : DownIx k (.int .i64 ((k : Int) - 1)) := by
  rcases k with _ | j
  · exact .inl ⟨rfl, rfl⟩
  · exact .inr ⟨j, rfl, by rw [show ((j + 1 : Nat) : Int) - 1 = (j : Int) by omega]⟩
end Go.Proofs.YtejhiilkbckobaaDoor
