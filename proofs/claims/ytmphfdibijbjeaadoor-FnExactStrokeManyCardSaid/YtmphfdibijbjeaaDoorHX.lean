/- Behind the join: the rules of goroutine 0's last walk. Nothing of one program. -/
import Derived.Test.YtmphfdibijbjeaaDoorHS
import Derived.Conc.EventLaws
namespace Go.Proofs.YtmphfdibijbjeaaDoor
open Go.Conc Go.ConcN
set_option linter.unusedSimpArgs false
set_option linter.unusedVariables false
set_option maxRecDepth 100000
set_option linter.unusedSectionVars false
section
variable {P : Program} {Wg : Nat} {Post : Value → World → Prop} {n : Nat} {g g' : Goroutine} {w : World} {b b₀ : Frame} {a a₀ : Act} {k : List Item} {cs : List Frame} {ops : Array Oper} {i : Nat} {rest : List Nat} {o : Oper}
theorem FinG.still (hs : g.status = .running) (hg : ∀ w, stepG P true g w = .go g' w #[]) (h : FinG P Wg Post n g' w) : FinG P Wg Post (n + 1) g w :=
  ⟨hs, fun d => .inr (.inl ⟨g', w.at d, #[], hg _, by simp, h.at d⟩)⟩
theorem FinG.step (hs : g.status = .running) (h : ∀ d, (stepG P true g (w.at d)).goes fun g' w' es => (∀ e ∈ es, EvP Wg e) ∧ FinG P Wg Post n g' w') : FinG P Wg Post (n + 1) g w := by
  refine ⟨hs, fun d => ?_⟩
  have h2 := h d
  revert h2
  cases hg : stepG P true g (w.at d) <;> simp only [GStep.goes, false_implies]
  exact fun x => .inr (.inl ⟨_, _, _, rfl, x.1, x.2⟩)
theorem FinG.oper_k (ho : ops[i]? = some o) (hw : Region.wanted o (yielded ops a.tmps) = true) (hk : b.kind ≠ .early)
    (h : ∀ d, ∀ K : Act → World → Prop, (∀ a' w', (∀ e ∈ listed P b.fn a o (w.at d), EvP Wg e) ∧ FinG P Wg Post n (G (b.at a' (.inRegion ops rest :: k)) cs) w' → K a' w') → uponK o a K ((execOp a.eval o).run P (w.at d))) :
    FinG P Wg Post (n + 1) (G (b.at a (.inRegion ops (i :: rest) :: k)) cs) w := by
  refine FinG.step rfl fun d => goes_oper ho hw hk ?_
  have h2 := h d (fun a' w' => (∀ e ∈ listed P b.fn a o (w.at d), EvP Wg e) ∧ FinG P Wg Post n (G (b.at a' (.inRegion ops rest :: k)) cs) w') (fun _ _ x => x)
  revert h2
  cases (execOp a.eval o).run P (w.at d) with
  | ok x w' => cases x <;> exact id
  | halt _ _ => exact id
/-- a receive of a value that is there -/
theorem FinG.recv {c cap s r : Nat} {z v : Value} {buf : List Value} {f : Bool} (ho : ops[i]? = some o) (hw : Region.wanted o (yielded ops a.tmps) = true) (hk : b.kind ≠ .early)
    (hr : ∀ w : World, (execOp a.eval o).run P w = .ok (.comm #[rcase c z] true (.recv f)) w) (hl : ∀ w : World, listed P b.fn a o w = #[]) (hc : w.heap[c]? = some (.chan cap ((v :: buf : List Value).toArray) true s r false))
    (h : FinG P Wg Post n (G (b.at (a.put o.dst (recvd f v true)) (.inRegion ops rest :: k)) cs) (w.setChan c cap buf.toArray true s (r + 1) false)) :
    FinG P Wg Post (n + 1) (G (b.at a (.inRegion ops (i :: rest) :: k)) cs) w := by
  refine ⟨rfl, fun d => .inr (.inr (.inl ⟨G (b.at a (.inRegion ops (i :: rest) :: k)) cs, c, z, f, cap, v, buf, s, r, ?_, hc, ?_⟩))⟩
  · rw [stepG_comm ho hw hk (hr _), hl]
  · rw [served_G, ho]
    exact h.at d
/-- a receive of a channel that is closed and empty -/
theorem FinG.shut {c cap s r : Nat} {z : Value} {f : Bool} (ho : ops[i]? = some o) (hw : Region.wanted o (yielded ops a.tmps) = true) (hk : b.kind ≠ .early)
    (hr : ∀ w : World, (execOp a.eval o).run P w = .ok (.comm #[rcase c z] true (.recv f)) w) (hl : ∀ w : World, listed P b.fn a o w = #[]) (hc : w.heap[c]? = some (.chan cap #[] true s r false))
    (h : FinG P Wg Post n (G (b.at (a.put o.dst (recvd f z false)) (.inRegion ops rest :: k)) cs) w) :
    FinG P Wg Post (n + 1) (G (b.at a (.inRegion ops (i :: rest) :: k)) cs) w := by
  refine ⟨rfl, fun d => .inr (.inr (.inr ⟨G (b.at a (.inRegion ops (i :: rest) :: k)) cs, c, z, f, cap, s, r, ?_, hc, ?_⟩))⟩
  · rw [stepG_comm ho hw hk (hr _), hl]
  · rw [served_G, ho]
    exact h.at d
theorem FinG.leave1 {fn : Func} {todo : List Item} {t : Tmp} (hn : b.kind = .normal) (hd : a.defers = []) (hf : P.funcs[b.fn]? = some fn) (hr : fn.results = #[.tmp t])
    (h : FinG P Wg Post n (G (b₀.at (a₀.put ((ops[i]?).bind (·.dst)) (a.tmps.getD t undef)) (.inRegion ops rest :: k)) cs) w) :
    FinG P Wg Post (n + 1) (G { b.at a todo with mode := .returning } (b₀.at a₀ (.inRegion ops (i :: rest) :: k) :: cs)) w :=
  FinG.step rfl fun d => goes_leave1 hn hd hf hr ⟨by simp, h.at d⟩
theorem FinG.leave2 {fn : Func} {todo : List Item} {t u : Tmp} (hn : b.kind = .normal) (hd : a.defers = []) (hf : P.funcs[b.fn]? = some fn) (hr : fn.results = #[.tmp t, .tmp u])
    (h : FinG P Wg Post n (G (b₀.at (a₀.put ((ops[i]?).bind (·.dst)) (.tuple #[a.tmps.getD t undef, a.tmps.getD u undef])) (.inRegion ops rest :: k)) cs) w) :
    FinG P Wg Post (n + 1) (G { b.at a todo with mode := .returning } (b₀.at a₀ (.inRegion ops (i :: rest) :: k) :: cs)) w :=
  FinG.step rfl fun d => goes_leave2 hn hd hf hr ⟨by simp, h.at d⟩
theorem evP_none : ∀ e ∈ (#[] : Array Event), EvP Wg e := fun e he => by simp at he
/-- a plain access of another block -/
theorem evP_cell {ad : Addr} {wr sy : Bool} (h : ad.block ≠ Wg) : EvP Wg ⟨.cell ad, wr, sy⟩ := by
  refine ⟨fun x hx hs => ?_, by simp, by simp⟩
  simp only [Go.ConcR.ofEvent_cell, MemAct.touch?, Option.some.injEq] at hx
  subst hx
  obtain ⟨a', e1, e2⟩ := hs
  cases e1
  exact absurd e2 h
theorem evP_obj {r : Nat} {wr : Bool} : EvP Wg ⟨.obj r, wr, true⟩ := by
  refine ⟨fun x hx hs => ?_, by simp, by simp⟩
  obtain ⟨a', e1, e2⟩ := hs
  cases wr
  · simp only [MemAct.ofEvent, MemAct.touch?, Option.some.injEq] at hx
    subst hx
    cases e1
  · simp [MemAct.ofEvent, MemAct.touch?] at hx
theorem chan_set {c cap s r : Nat} {buf : Array Value} {cl tm : Bool} (h : c < w.heap.size) : (w.setChan c cap buf cl s r tm).heap[c]? = some (.chan cap buf cl s r tm) := by simp [World.setChan, h]
theorem chan_other {c cap s r bl : Nat} {buf : Array Value} {cl tm : Bool} (h : bl ≠ c) : (w.setChan c cap buf cl s r tm).heap[bl]? = w.heap[bl]? := by
  simp only [World.setChan]
  rw [Array.getElem?_setIfInBounds_ne (Ne.symm h)]
end
end Go.Proofs.YtmphfdibijbjeaaDoor
