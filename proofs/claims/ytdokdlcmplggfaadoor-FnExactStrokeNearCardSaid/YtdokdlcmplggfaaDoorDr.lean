/- The draws of chapter 1 (package spec): a number. -/
import Derived.Test.YtdokdlcmplggfaaDoorD
namespace Go.Proofs.YtdokdlcmplggfaaDoor
open Go.RowKit
set_option linter.unusedVariables false
set_option maxRecDepth 100000
theorem grown_trans {w1 w2 w3 : World} {r : Nat} (h : w1.grownBy w2 (some r)) (k : w2.grownBy w3 (some r)) : w1.grownBy w3 (some r) :=
  ⟨k.os.trans h.os, k.tape.trans h.tape, k.output.trans h.output, Nat.le_trans h.size k.size, fun i hi hne => (k.block i (Nat.lt_of_lt_of_le hi h.size) hne).trans (h.block i hi hne)⟩
theorem bel_grown {B r : Nat} {w w1 w2 : World} (h : Below B w w1) (g : w1.grownBy w2 (some r)) (hB : B ≤ w1.heap.size) (hr : B ≤ r) : Below B w w2 := h.grown g hB (fun k hk => by simp at hk; omega)
end Go.Proofs.YtdokdlcmplggfaaDoor
