/- The draws of chapter 1 (package spec): a text. -/
import Derived.Test.YtdokdlcmplggfaaDoorDr
import Derived.Test.YtdokdlcmplggfaaDoorRSo
namespace Go.Proofs.YtdokdlcmplggfaaDoor
open Go.RowKit
set_option linter.unusedVariables false
set_option maxRecDepth 100000
theorem Rd.grownOther {w w' : World} {r : Nat} {a : Option Addr} {len cap p : Nat} (h : Rd w r a len cap p) (hg : w.grownBy w' none) : Rd w' r a len cap p :=
  ⟨by rw [hg.block r (lt_of_block' h.blk) (by simp)]; exact h.blk, h.small, fun i hi => by
    obtain ⟨b, off, y, ha, hb, hc, h0, h1⟩ := h.at' i hi
    exact ⟨b, off, y, ha, hb, hg.cell hc (by simp), h0, h1⟩⟩
theorem Rd.alloc {w : World} {r : Nat} {a : Option Addr} {len cap p : Nat} (h : Rd w r a len cap p) (o : Obj) : Rd (w.alloc o) r a len cap p := h.grownOther (World.grownBy_alloc w o none)
theorem Rd.below {w w' : World} {r : Nat} {a : Option Addr} {len cap p : Nat} (h : Rd w r a len cap p) (hg : Below w.heap.size w w') : Rd w' r a len cap p :=
  h.grownOther ⟨hg.os, hg.tape, hg.output, hg.size, fun k hk _ => hg.block k hk⟩
theorem grown_of_below {w w' : World} (r : Nat) (hg : Below w.heap.size w w') : w.grownBy w' (some r) := ⟨hg.os, hg.tape, hg.output, hg.size, fun k hk _ => hg.block k hk⟩
/-- n short strings in a row -/
def StrRow (w : World) (b n : Nat) : Prop := ∀ i, i < n → ∃ x : ByteArray, w.cell? ⟨b, i, none⟩ = some (.string x) ∧ x.size ≤ 30
theorem strRow_new (w : World) (l : List ByteArray) (T : TypeId) (h : ∀ x ∈ l, x.size ≤ 30) (fr : Nat × Nat) : StrRow (w.alloc (.cells (l.map Value.string).toArray T fr)) w.heap.size l.length := fun i hi => by
  refine ⟨l[i], ?_, h _ (List.getElem_mem _)⟩
  rw [cell_at (heap_alloc_new w _) (v := .string l[i])]
  simp [hi]
end Go.Proofs.YtdokdlcmplggfaaDoor
