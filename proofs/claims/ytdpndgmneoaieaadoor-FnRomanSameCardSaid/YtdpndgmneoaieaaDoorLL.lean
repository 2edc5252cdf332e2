/- The program's RomanLoose. -/
import Derived.Test.YtdpndgmneoaieaaDoorLI
namespace Go.Proofs.YtdpndgmneoaieaaDoor
open Go.RowKit
set_option linter.unusedVariables false
/-- both cells of a block of two are stored -/
theorem set2 {w : World} {b : Nat} {x y x' y' : Value} {T : TypeId} (h : w.heap[b]? = some (.cells #[x, y] T (0, 0))) :
    ((w.setCell ⟨b, 0, none⟩ x').setCell ⟨b, 1, none⟩ y').heap[b]? = some (.cells #[x', y'] T (0, 0)) := by
  simpa using heap_setCell_same (w.setCell ⟨b, 0, none⟩ x') b 1 _ T y' (heap_setCell_same w b 0 _ T x' h)
theorem free2 {w : World} {b j : Nat} {C : Array Value} {T : TypeId} (h : w.heap[b]? = some (.cells C T (0, 0))) : w.frozen? ⟨b, j, none⟩ = false := by simp [World.frozen?, h]
theorem fst1_lt (s : List UInt8) (h : okL s = true) : fst1 s < 7 := by
  cases s with
  | nil => decide
  | cons c r =>
    rw [okL_cons, Bool.and_eq_true] at h
    exact of_decide_eq_true h.1
theorem drop_at (l : List UInt8) (j : Nat) (hj : j < l.length) : l.drop j = l[j] :: l.drop (j + 1) := List.drop_eq_getElem_cons hj
theorem okL_drop (l : List UInt8) (j : Nat) (h : okL l = true) : okL (l.drop j) = true := by
  unfold okL at *
  rw [List.all_eq_true] at *
  exact fun x hx => h x (List.mem_of_mem_drop hx)
theorem looseR_out (l : List UInt8) (h : ¬ (1 ≤ l.length ∧ l.length ≤ 16)) : looseR l = .tuple #[.int .i64 0, .bool false] := by
  unfold looseR
  rw [if_neg]
  rintro ⟨h1, h2, _⟩
  exact h ⟨h1, h2⟩
theorem as_list (s : ByteArray) : ∃ l : List UInt8, s = ⟨l.toArray⟩ := ⟨s.data.toList, by cases s; simp⟩
/-- the strict value's answer: that of strictValue -/
def strictB (l : List UInt8) : Bool := decide (1 ≤ l.length ∧ l.length ≤ 16 ∧ okL l = true ∧ 1 ≤ looseL l ∧ looseL l ≤ 3999 ∧ strict (looseL l).toNat = l)
end Go.Proofs.YtdpndgmneoaieaaDoor
