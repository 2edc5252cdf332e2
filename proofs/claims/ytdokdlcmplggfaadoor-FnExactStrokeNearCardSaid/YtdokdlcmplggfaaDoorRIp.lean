/- Contracts of the program's chapter 1: the texts by pieces. -/
import Derived.Test.YtdokdlcmplggfaaDoorRows
import Derived.Test.YtdokdlcmplggfaaDoorRM
import Derived.Test.YtdokdlcmplggfaaDoorK
import Derived.BigQuiet
import Derived.Deep.QuietTactic
namespace Go.Proofs.YtdokdlcmplggfaaDoor
open Go.RowKit
set_option linter.unusedVariables false
set_option maxRecDepth 100000
/-- pieces as they lie in memory -/
def pieceCells (ps : List (List UInt8 × Nat)) : List Value := ps.flatMap fun p => [.string ⟨p.1.toArray⟩, .int .i64 (p.2 : Nat)]
def Pieces (w : World) (b : Nat) (ps : List (List UInt8 × Nat)) : Prop := ∃ T, w.heap[b]? = some (.cells (pieceCells ps).toArray T (0, 0))
theorem pieceCells_at : ∀ (ps : List (List UInt8 × Nat)) (i : Nat), i < ps.length → (pieceCells ps)[i * 2]? = some (.string ⟨(ps.getD i ([], 0)).1.toArray⟩) ∧ (pieceCells ps)[i * 2 + 1]? = some (.int .i64 ((ps.getD i ([], 0)).2 : Nat))
  | [], i, h => by simp at h
  | p :: ps, 0, _ => by simp [pieceCells]
  | p :: ps, i + 1, h => by
    have ih := pieceCells_at ps i (by simpa using h)
    have e : pieceCells (p :: ps) = .string ⟨p.1.toArray⟩ :: .int .i64 (p.2 : Nat) :: pieceCells ps := by simp [pieceCells]
    rw [e, show (i + 1) * 2 = i * 2 + 1 + 1 by omega]
    simpa using ih
end Go.Proofs.YtdokdlcmplggfaaDoor
