/- The run's beginning, goroutine 0 alone; and its end. Nothing of one program. -/
import Derived.Test.YtmphfdibijbjeaaDoorMa
import Derived.Test.YtmphfdibijbjeaaDoorGA
import Derived.Below
namespace Go.Proofs.YtmphfdibijbjeaaDoor
open Go.Conc Go.ConcN Go.RowKit
set_option linter.unusedSimpArgs false
set_option linter.unusedVariables false
set_option maxRecDepth 100000
set_option linter.unusedSectionVars false
/-- the trace of a lone goroutine -/
structure Alone0 (B : Nat) (t : Trace) : Prop where
  g : ∀ op ∈ t, op.g = 0
  seen : Seen B t
  mute : ∀ op ∈ t, ∀ m, op.act ≠ .mark m
theorem alone_nil (B : Nat) : Alone0 B #[] := ⟨fun op h => by simp at h, fun op h => by simp at h, fun op h => by simp at h⟩
theorem Alone0.deaf {B : Nat} {t : Trace} (h : Alone0 B t) (g : Nat) : Deaf t g = 0 := by
  have e := Deaf_still #[] g t (fun op hop => ⟨h.mute op hop _, h.mute op hop _⟩)
  have e0 : Deaf #[] g = 0 := Deaf_absent (fun i op hi => by simp at hi)
  rw [← e0, ← e]
  simp
section
variable {P : Program} {A : Nat} {Stop : Goroutine → World → Prop}
theorem below_dz {w w' : World} {es : Array Event} (h : DSz A w w' es) : Below A w w' := ⟨h.os, h.tape, h.output, h.size, h.low⟩
theorem Alone0.app {t : Trace} {w w' : World} {es : Array Event} (h : Alone0 w.heap.size t) (d : DSz A w w' es) (fn : FuncId) (pos : String) : Alone0 w'.heap.size (t ++ MemOp.ofEvents 0 fn pos es) := by
  refine ⟨fun op hop => ?_, (h.seen.mono d.size).app fun op hop x hx a ha => ?_, fun op hop => ?_⟩
  · rcases Array.mem_append.1 hop with h' | h'
    · exact h.g op h'
    · obtain ⟨e, _, rfl⟩ := Go.Conc.mem_ofEvents h'; rfl
  · obtain ⟨e, he, rfl⟩ := Go.Conc.mem_ofEvents hop
    obtain ⟨ad, e1, _, e3⟩ := d.evs e he
    obtain ⟨lc, wr, sy⟩ := e
    subst e1
    simp only [Go.ConcR.ofEvent_cell, MemAct.touch?, Option.some.injEq] at hx
    subst hx
    cases ha
    exact e3
  · rcases Array.mem_append.1 hop with h' | h'
    · exact h.mute op h'
    · obtain ⟨e, he, rfl⟩ := Go.Conc.mem_ofEvents h'
      obtain ⟨ad, e1, _, _⟩ := d.evs e he
      obtain ⟨lc, wr, sy⟩ := e
      subst e1
      intro m
      simp [Go.ConcR.ofEvent_cell]
/-- a lone goroutine comes to its stop -/
theorem solo_z : ∀ {n : Nat} {a : Goroutine} {w : World} (t : Trace), Goes P true AtRel (DSz A) Stop n a w → Alone0 w.heap.size t →
    ∃ k a' w' t', runNT P k (solo a w) t = (.next (solo a' w'), t') ∧ Stop a' w' ∧ Below A w w' ∧ Alone0 w'.heap.size t' := by
  intro n
  induction n with
  | zero => exact fun {a w} t h ht => ⟨0, a, w, t, by simp [runNT], h w (atRel_refl w), Below.refl _ _, ht⟩
  | succ n ih =>
    intro a w t h ht
    rcases h with h | ⟨hs, h⟩
    · exact ⟨0, a, w, t, by simp [runNT], h w (atRel_refl w), Below.refl _ _, ht⟩
    · obtain ⟨a₁, w₁, es, hgo, hd, hg⟩ := goes_elim (h w (atRel_refl w))
      obtain ⟨k, a', w', t', hrun, hstop, hb, h0⟩ := ih (t ++ MemOp.ofEvents 0 a.frame.fn a.frame.place es) hg (ht.app hd _ _)
      refine ⟨k + 1, a', w', t', ?_, hstop, (below_dz hd).trans hb, h0⟩
      rw [runNT_succ_next ((stepT_solo hs).trans (runT_solo_go hgo)), hrun]
section
variable {R : World → World → Prop} {D : World → World → Array Event → Prop} {main : Bool} {n : Nat} {g g' : Goroutine} {w : World} {b : Frame} {a : Act} {k : List Item} {cs : List Frame} {ops : Array Oper} {i : Nat} {rest : List Nat} {o : Oper}
theorem Goes.stillZ (T : Terms R D) (hs : g.status = .running) (hg : ∀ w₁, stepG P main g w₁ = .go g' w₁ #[]) (h : Goes P main R D Stop n g' w) : Goes P main R D Stop (n + 1) g w :=
  Go.Conc.Goes.step hs fun w₁ h₁ => by
    rw [hg w₁]
    exact ⟨T.idle _, h.rely T.trans h₁⟩
theorem Goes.operZ (ho : ops[i]? = some o) (hw : Region.wanted o (yielded ops a.tmps) = true) (hk : b.kind ≠ .early)
    (h : ∀ w₁, R w w₁ → ∀ K : Act → World → Prop, (∀ a' w', D w₁ w' (listed P b.fn a o w₁) ∧ Goes P main R D Stop n (G (b.at a' (.inRegion ops rest :: k)) cs) w' → K a' w') → uponK o a K ((execOp a.eval o).run P w₁)) :
    Goes P main R D Stop (n + 1) (G (b.at a (.inRegion ops (i :: rest) :: k)) cs) w := by
  refine Go.Conc.Goes.step rfl fun w₁ h₁ => goes_oper ho hw hk ?_
  have h2 := h w₁ h₁ (fun a' w' => D w₁ w' (listed P b.fn a o w₁) ∧ Goes P main R D Stop n (G (b.at a' (.inRegion ops rest :: k)) cs) w') (fun _ _ x => x)
  revert h2
  cases (execOp a.eval o).run P w₁ with
  | ok x w' => cases x <;> exact id
  | halt _ _ => exact id
theorem Goes.enterZ (T : Terms R D) {f : FuncId} {fn : Func} {c : Code} {args : Array Operand} {ats : Array TypeId}
    (ho : ops[i]? = some o) (hw : Region.wanted o (yielded ops a.tmps) = true) (hk : b.kind ≠ .early) (hop : o.op = .call { callee := .value (.func f), args, argTypes := ats })
    (hf : P.funcs[f]? = some fn) (hname : (fn.name == "runtime.NumGoroutine") = false) (hbody : fn.body = some c)
    (h : Goes P main R D Stop n (G ((base f).at ⟨args.map a.eval ++ Array.replicate (fn.ntmps - (args.map a.eval).size) undef, []⟩ [.code c]) (b.at a (.inRegion ops (i :: rest) :: k) :: cs)) w) :
    Goes P main R D Stop (n + 1) (G (b.at a (.inRegion ops (i :: rest) :: k)) cs) w :=
  Go.Conc.Goes.step rfl fun w₁ h₁ => goes_call ho hw hk hop hf hname hbody ⟨T.idle _, h.rely T.trans h₁⟩
theorem Goes.leave2Z (T : Terms R D) {b₀ : Frame} {a₀ : Act} {fn : Func} {todo : List Item} {t u : Tmp} (hn : b.kind = .normal) (hd : a.defers = []) (hf : P.funcs[b.fn]? = some fn) (hr : fn.results = #[.tmp t, .tmp u])
    (h : Goes P main R D Stop n (G (b₀.at (a₀.put ((ops[i]?).bind (·.dst)) (.tuple #[a.tmps.getD t undef, a.tmps.getD u undef])) (.inRegion ops rest :: k)) cs) w) :
    Goes P main R D Stop (n + 1) (G { b.at a todo with mode := .returning } (b₀.at a₀ (.inRegion ops (i :: rest) :: k) :: cs)) w :=
  Go.Conc.Goes.step rfl fun w₁ h₁ => goes_leave2 hn hd hf hr ⟨T.idle _, h.rely T.trans h₁⟩
end
section
variable {Wg n : Nat} {Post : Value → World → Prop} {b : Frame} {a : Act} {w : World}
/-- the return of the run's own function -/
theorem FinG.done1 (hni : P.inits.idxOf? b.fn = none) {fn : Func} {todo : List Item} {t : Tmp} (hn : b.kind = .normal) (hd : a.defers = []) (hf : P.funcs[b.fn]? = some fn) (hr : fn.results = #[.tmp t]) (hp : ∀ d, Post (a.tmps.getD t undef) (w.at d)) :
    FinG P Wg Post 1 (G { b.at a todo with mode := .returning } []) w := by
  refine ⟨rfl, fun d => .inl ⟨a.tmps.getD t undef, #[], ?_, evP_none, hp d⟩⟩
  simp [G, stepG, unwind, doReturn, results, Frame.at, hn, hd, hf, hr, hni, seen, GStep.after]
theorem past_alone {B : Nat} {t : Trace} (h : Alone0 B t) (hs : ∀ op ∈ t, ∀ b, op.act.touch? = some b → ShN Wg b.loc → b.kind ≠ .plain) : PastG Wg t := by
  have h0 : PastG Wg #[] := ⟨fun said => by rintro ⟨i, j, _, ⟨a, b, ha, _⟩, _⟩; simp [Trace.act?] at ha, fun i a ha => by simp [touchAt, Trace.act?] at ha, fun i g hg => by simp [Trace.g?] at hg, rfl⟩
  have := h0.app0 (u := t) h.g hs (by rw [Deaf_still #[] 0 t (fun op hop => ⟨h.mute op hop _, h.mute op hop _⟩)])
  simpa using this
/-- an end without others -/
theorem fin_solo {a : Goroutine} {w : World} (h : FinG P Wg Post n a w) :
    ∃ M last o w' t', runNT P (M + 1) (solo a w) #[] = (.ended o w', t') ∧ runN P M (solo a w) = .next last ∧ step P last = .ended o w' ∧ Go.Conc.Good P Post last o w' t' := by
  refine p_ends (gs := #[a]) (sl := none) (q := fun _ => 0) (by simp) ⟨fun i g hi hg => ?_, fun j _ => (alone_nil 0).deaf j⟩ (past_alone (alone_nil 0) fun op h => by simp at h) h
  have := (Array.getElem?_eq_some_iff.1 hg).1
  simp at this
  omega
/-- a walk before the end -/
theorem FinG.solo (hA : Wg < A) {J : World → Prop} (hJ : ∀ w d, J w → J (w.at d)) (hDJ : ∀ w w', Below A w w' → J w → J w') {m : Nat} (hS : ∀ g w, Stop g w → J w → FinG P Wg Post m g w) {g : Goroutine} (h : Goes P true AtRel (DSz A) Stop n g w) (hj : J w) : FinG P Wg Post (m + n) g w :=
  FinG.goesJ (J := J) hJ (fun w w' es d => hDJ w w' (below_dz d)) (fun w d => ⟨d, rfl⟩) (fun w w' es d e he => by
    obtain ⟨ad, e1, e2, _⟩ := d.evs e he
    obtain ⟨lc, wr, sy⟩ := e
    subst e1
    exact evP_cell (by omega)) hS h hj
end
end
end Go.Proofs.YtmphfdibijbjeaaDoor
