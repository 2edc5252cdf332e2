/- Contracts of the program's chapter 1: the texts by pieces. -/
import Derived.Test.YthgagidpnnaajaaRows
import Derived.Test.YthgagidpnnaajaaRM
import Derived.Test.YthgagidpnnaajaaK
import Derived.BigQuiet
import Derived.Deep.QuietTactic
namespace Go.Proofs.Ythgagidpnnaajaa
open Go.RowKit
set_option linter.unusedVariables false
set_option maxRecDepth 100000
theorem hasRoman_any (n : Int) (w : World) : Calls Try.prog 15 #[.int .i64 n] w fun e w' => e = .returned (.bool (decide (1 ≤ n ∧ n ≤ 3999))) ∧ w = w' := by
  by_cases h1 : 1 ≤ n
  · by_cases h2 : n ≤ 3999
    · go_enter Try.func15, Try.ntmps15
      go_wp2
      go_ret
      simp [h1, h2]
    · go_enter Try.func15, Try.ntmps15
      go_wp2
      go_ret
      simp
      omega
  · go_enter Try.func15, Try.ntmps15
    go_wp2
    go_ret
    simp
    omega
/-- pieces as they lie in memory -/
def pieceCells (ps : List (List UInt8 × Nat)) : List Value := ps.flatMap fun p => [.string ⟨p.1.toArray⟩, .int .i64 (p.2 : Nat)]
def Pieces (w : World) (b : Nat) (ps : List (List UInt8 × Nat)) : Prop := ∃ T, w.heap[b]? = some (.cells (pieceCells ps).toArray T (0, 0))
theorem pieceCells_at : ∀ (ps : List (List UInt8 × Nat)) (i : Nat), i < ps.length → (pieceCells ps)[i * 2]? = some (.string ⟨(ps.getD i ([], 0)).1.toArray⟩) ∧ (pieceCells ps)[i * 2 + 1]? = some (.int .i64 ((ps.getD i ([], 0)).2 : Nat))
  | [], i, h => by simp at h
  | p :: ps, 0, _ => by simp [pieceCells]
  | p :: ps, i + 1, h => by
    have ih := pieceCells_at ps i (by simpa using h)
    have e : pieceCells (p :: ps) = .string ⟨p.1.toArray⟩ :: .int .i64 (p.2 : Nat) :: pieceCells ps := by simp [pieceCells]
    rw [e, show (i + 1) * 2 = i * 2 + 1 + 1 by omega]
    simpa using ih
theorem strictPieces_any (w : World) : Calls Try.prog 16 #[] w fun e w' => e = .returned (.slice (some ⟨w.heap.size, 0, none⟩) 13 13) ∧ Pieces w' w.heap.size strictP ∧ Below w.heap.size w w' := by
  go_enter Try.func16, Try.ntmps16
  go_wp2
  go_ret
  exact ⟨rfl, ⟨_, heap_alloc_new _ _⟩, (Below.refl _ _).alloc (Nat.le_refl _) _⟩
theorem addedPieces_any (w : World) : Calls Try.prog 22 #[] w fun e w' => e = .returned (.slice (some ⟨w.heap.size, 0, none⟩) 7 7) ∧ Pieces w' w.heap.size addedP ∧ Below w.heap.size w w' := by
  go_enter Try.func22, Try.ntmps22
  go_wp2
  go_ret
  exact ⟨rfl, ⟨_, heap_alloc_new _ _⟩, (Below.refl _ _).alloc (Nat.le_refl _) _⟩
end Go.Proofs.Ythgagidpnnaajaa
