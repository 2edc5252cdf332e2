/- DrawStrokeMany in company, where nobody turns anything but the count of draws; the low blocks may be read. -/
import Derived.Test.YtmphfdibijbjeaaDoorGC
namespace Go.Proofs.YtmphfdibijbjeaaDoor
open Go.Conc Go.ConcN Go.RowKit
set_option linter.unusedSimpArgs false
set_option linter.unusedVariables false
set_option maxRecDepth 100000
/-- as DSz, but it may read the low blocks too -/
structure DSr (A : Nat) (w w' : World) (es : Array Event) : Prop where
  below : Below A w w'
  evs : ∀ e ∈ es, ∃ a, e.loc = .cell a ∧ a.block < w'.heap.size
theorem termsR (A : Nat) : Terms AtRel (DSr A) := ⟨atRel_trans, fun _ => ⟨Below.refl _ _, fun e he => by simp at he⟩⟩
theorem dsr_z {A : Nat} {w w' : World} {es : Array Event} (h : DSz A w w' es) : DSr A w w' es := ⟨below_dz h, fun e he => by obtain ⟨a, e1, _, e3⟩ := h.evs e he; exact ⟨a, e1, e3⟩⟩
section
variable {P : Program} {main : Bool} {R : World → World → Prop} {D D' : World → World → Array Event → Prop} {Stop : Goroutine → World → Prop} {A : Nat}
theorem Goes.weak (hD : ∀ w w' es, D w w' es → D' w w' es) : ∀ {n : Nat} {g : Goroutine} {w : World}, Goes P main R D Stop n g w → Goes P main R D' Stop n g w
  | 0, g, w, h => h
  | n + 1, g, w, h => by
    rcases h with h | ⟨hs, h⟩
    · exact .inl h
    · refine .inr ⟨hs, fun w₁ h₁ => ?_⟩
      have h2 := h w₁ h₁
      revert h2
      cases stepG P main g w₁ <;> simp only [GStep.goes, imp_self]
      exact fun ⟨d, x⟩ => ⟨hD _ _ _ d, Goes.weak hD x⟩
theorem Alone0.appR {t : Trace} {w w' : World} {es : Array Event} (h : Alone0 w.heap.size t) (d : DSr A w w' es) (fn : FuncId) (pos : String) : Alone0 w'.heap.size (t ++ MemOp.ofEvents 0 fn pos es) := by
  refine ⟨fun op hop => ?_, (h.seen.mono d.below.size).app fun op hop x hx a ha => ?_, fun op hop => ?_⟩
  · rcases Array.mem_append.1 hop with h' | h'
    · exact h.g op h'
    · obtain ⟨e, _, rfl⟩ := Go.Conc.mem_ofEvents h'; rfl
  · obtain ⟨e, he, rfl⟩ := Go.Conc.mem_ofEvents hop
    obtain ⟨ad, e1, e3⟩ := d.evs e he
    obtain ⟨lc, wr, sy⟩ := e
    subst e1
    simp only [Go.ConcR.ofEvent_cell, MemAct.touch?, Option.some.injEq] at hx
    subst hx
    cases ha
    exact e3
  · rcases Array.mem_append.1 hop with h' | h'
    · exact h.mute op h'
    · obtain ⟨e, he, rfl⟩ := Go.Conc.mem_ofEvents h'
      obtain ⟨ad, e1, _⟩ := d.evs e he
      obtain ⟨lc, wr, sy⟩ := e
      subst e1
      intro m
      simp [Go.ConcR.ofEvent_cell]
theorem solo_r : ∀ {n : Nat} {a : Goroutine} {w : World} (t : Trace), Goes P true AtRel (DSr A) Stop n a w → Alone0 w.heap.size t →
    ∃ k a' w' t', runNT P k (solo a w) t = (.next (solo a' w'), t') ∧ Stop a' w' ∧ Below A w w' ∧ Alone0 w'.heap.size t' := by
  intro n
  induction n with
  | zero => exact fun {a w} t h ht => ⟨0, a, w, t, by simp [runNT], h w (atRel_refl w), Below.refl _ _, ht⟩
  | succ n ih =>
    intro a w t h ht
    rcases h with h | ⟨hs, h⟩
    · exact ⟨0, a, w, t, by simp [runNT], h w (atRel_refl w), Below.refl _ _, ht⟩
    · obtain ⟨a₁, w₁, es, hgo, hd, hg⟩ := goes_elim (h w (atRel_refl w))
      obtain ⟨k, a', w', t', hrun, hstop, hb, h0⟩ := ih (t ++ MemOp.ofEvents 0 a.frame.fn a.frame.place es) hg (ht.appR hd _ _)
      refine ⟨k + 1, a', w', t', ?_, hstop, hd.below.trans hb, h0⟩
      rw [runNT_succ_next ((stepT_solo hs).trans (runT_solo_go hgo)), hrun]
end
/-- a drawn code -/
structure CodeF (A : Nat) (a : Option Addr) (len cap : Nat) (w : World) : Prop where
  le : A ≤ w.heap.size
  cap : len ≤ cap
  at0 : 0 < len → ∃ b off y, a = some ⟨b, off, none⟩ ∧ b < A ∧ w.cell? ⟨b, off, none⟩ = some (.int .u8 y)
/-- the reader in block r -/
structure RdO (A : Nat) (r : Nat) (a : Option Addr) (len cap p : Nat) (w : World) : Prop where
  ge : A ≤ r
  blk : w.heap[r]? = some (.cells #[.slice a len cap, .int .i64 (p : Nat)] 34 (0, 0))
  at0 : 0 < len → ∃ b off y, a = some ⟨b, off, none⟩ ∧ b < A ∧ w.cell? ⟨b, off, none⟩ = some (.int .u8 y)
section
variable {A r len cap p : Nat} {a : Option Addr} {w w₁ : World}
theorem CodeF.rely (h : CodeF A a len cap w) (r : AtRel w w₁) : CodeF A a len cap w₁ := by
  obtain ⟨d, rfl⟩ := r
  exact ⟨h.le, h.cap, h.at0⟩
theorem RdO.rely (h : RdO A r a len cap p w) (q : AtRel w w₁) : RdO A r a len cap p w₁ := by
  obtain ⟨d, rfl⟩ := q
  exact ⟨h.ge, h.blk, h.at0⟩
theorem RdO.lt (h : RdO A r a len cap p w) : r < w.heap.size := by
  have := h.blk
  exact (Array.getElem?_eq_some_iff.1 this).1
theorem RdO.c0 (h : RdO A r a len cap p w) : w.cell? ⟨r, 0, none⟩ = some (.slice a len cap) := cell_at h.blk (j := 0) rfl
theorem RdO.c1 (h : RdO A r a len cap p w) : w.cell? ⟨r, 1, none⟩ = some (.int .i64 (p : Nat)) := cell_at h.blk (j := 1) rfl
theorem RdO.thaw (h : RdO A r a len cap p w) : w.frozen? ⟨r, 1, none⟩ = false := by simp [World.frozen?, h.blk]
theorem RdO.next (h : RdO A r a len cap p w) (q : Nat) : RdO A r a len cap q (w.setCell ⟨r, 1, none⟩ (.int .i64 (q : Nat))) := by
  refine ⟨h.ge, by simp [World.setCell, Array.getElem?_modify, h.blk], fun hl => ?_⟩
  obtain ⟨b, off, y, e1, e2, e3⟩ := h.at0 hl
  refine ⟨b, off, y, e1, e2, ?_⟩
  have : r ≠ b := by have := h.ge; omega
  rw [← e3]
  simp [World.cell?, World.setCell, Array.getElem?_modify, this]
theorem CodeF.open {l : Nat} (h : CodeF A a len cap w) (c : Nat) (hl : l ≤ len) : RdO A w.heap.size a l c 0 (w.alloc (.cells #[.slice a l c, .int .i64 0] 34)) := by
  refine ⟨h.le, heap_alloc_new w _, fun h0 => ?_⟩
  obtain ⟨b, off, y, e1, e2, e3⟩ := h.at0 (by omega)
  refine ⟨b, off, y, e1, e2, ?_⟩
  rw [World.cell?_of_block (Below.heap_alloc w _ b (by have := h.le; omega))]
  exact e3
end
theorem ev_slice {b off len cap : Nat} (h : (2000 : Int) ≤ (cap : Int)) (w : World) (es : Array Event) :
    (Instr.sliceAt 22 (.slice (some ⟨b, off, none⟩) len cap) none (some (.int .i64 2000)) none).events Tryd.prog w es = es := by
  have e : (sizeOf (Tryd.prog.elem 22)).run Tryd.prog w = (sizeOf (Tryd.prog.elem 22)).run Tryd.prog w := rfl
  simp [Instr.sliceAt, Instr.slice, Instr.sliceBounds, Instr.sliceBound, asIntOf, run_underlying Tryd.underlying22, h]
section
variable {main : Bool} {A : Nat}
set_option maxHeartbeats 4000000 in
theorem l6OpenC (a : Option Addr) (len cap : Nat) : ∃ N, ∀ w, CodeF A a len cap w → CallsC Tryd.prog main AtRel (DSr A) 8 #[.slice a len cap] N w fun v w' => ∃ r l c, v = .pointer (some ⟨r, 0, none⟩) ∧ RdO A r a l c 0 w' := by
  by_cases h2 : 2000 < len
  · have hl : decide ((len : Int) > 2000) = true := decide_eq_true (by omega)
    have hl2 : decide ((2000 : Int) < len) = true := decide_eq_true (by omega)
    co_apply Exists.intro
    intro w hF
    obtain ⟨b, off, y, rfl, hb, hy⟩ := hF.at0 (by omega)
    have hcap : (2000 : Int) ≤ (cap : Int) := by have := hF.cap; omega
    co_apply callsC_of_wpC Tryd.func8 (by rfl) rfl
    simp only [Tryd.ntmps8, List.size_toArray, List.length_cons, List.length_nil, Nat.reduceAdd, Nat.reduceSub, Array.replicate_succ, Array.replicate_zero, List.push_toArray, List.append_toArray, List.nil_append, List.cons_append]
    co_apply wpC_seq (termsR A)
    co_reg (termsR A)
    co_op CodeF.rely hF (co_quiet (termsR A))
    co_apply opsC_nil (termsR A)
    co_then
    co_apply wpC_seq (termsR A)
    co_apply wpC_seq (termsR A)
    co_reg (termsR A)
    co_op CodeF.rely hF (co_quiet (termsR A))
    co_op CodeF.rely hF (co_quiet (termsR A))
    co_op CodeF.rely hF (co_quiet (termsR A))
    co_apply opsC_nil (termsR A)
    co_then
    co_apply wpC_cond (termsR A) (t := true)
    focus simp [Act.eval, hl, hl2]
    simp only [if_true]
    co_reg (termsR A)
    co_op CodeF.rely hF (co_quiet (termsR A))
    co_op CodeF.rely hF ((rw [listed_nil (by simp [go_sem, ev_slice hcap])]; exact Terms.idle (termsR A) _))
    co_op CodeF.rely hF (co_quiet (termsR A))
    co_apply opsC_nil (termsR A)
    co_then
    co_apply wpC_seq (termsR A)
    co_reg (termsR A)
    co_op CodeF.rely hF (co_quiet (termsR A))
    co_op CodeF.rely hF (co_quiet (termsR A))
    co_apply opsC_cons_k rfl (by rfl)
    intro w1 hR K hK
    replace hF := CodeF.rely hF hR
    clear hR
    go_simp
    refine hK _ _ ⟨?_, ?_⟩
    · rw [listed_nil (by simp [go_sem])]
      exact ⟨(Below.refl _ _).alloc hF.le _, fun e he => by simp at he⟩
    clear hK K
    try walk_nrm
    have hR := hF.open cap (show 2000 ≤ len by omega)
    generalize w1.heap.size = r at *
    generalize w1.alloc _ = w2 at *
    clear hF
    co_op RdO.rely hR (co_quiet (termsR A))
    co_apply opsC_nil (termsR A)
    co_then
    co_ctl (termsR A)
    exact ⟨rfl, _, resultsC_tmp (by rfl) _, r, _, _, rfl, hR⟩
  · have hl : decide ((len : Int) > 2000) = false := decide_eq_false (by omega)
    have hl2 : decide ((2000 : Int) < len) = false := decide_eq_false (by omega)
    co_apply Exists.intro
    intro w hF
    co_apply callsC_of_wpC Tryd.func8 (by rfl) rfl
    simp only [Tryd.ntmps8, List.size_toArray, List.length_cons, List.length_nil, Nat.reduceAdd, Nat.reduceSub, Array.replicate_succ, Array.replicate_zero, List.push_toArray, List.append_toArray, List.nil_append, List.cons_append]
    co_apply wpC_seq (termsR A)
    co_reg (termsR A)
    co_op CodeF.rely hF (co_quiet (termsR A))
    co_apply opsC_nil (termsR A)
    co_then
    co_apply wpC_seq (termsR A)
    co_apply wpC_seq (termsR A)
    co_reg (termsR A)
    co_op CodeF.rely hF (co_quiet (termsR A))
    co_op CodeF.rely hF (co_quiet (termsR A))
    co_op CodeF.rely hF (co_quiet (termsR A))
    co_apply opsC_nil (termsR A)
    co_then
    co_apply wpC_cond (termsR A) (t := false)
    focus simp [Act.eval, hl, hl2]
    simp only [if_false, Bool.false_eq_true]
    co_apply wpC_skip (termsR A)
    co_then
    co_apply wpC_seq (termsR A)
    co_reg (termsR A)
    co_op CodeF.rely hF (co_quiet (termsR A))
    co_op CodeF.rely hF (co_quiet (termsR A))
    co_apply opsC_cons_k rfl (by rfl)
    intro w1 hR K hK
    replace hF := CodeF.rely hF hR
    clear hR
    go_simp
    refine hK _ _ ⟨?_, ?_⟩
    · rw [listed_nil (by simp [go_sem])]
      exact ⟨(Below.refl _ _).alloc hF.le _, fun e he => by simp at he⟩
    clear hK K
    try walk_nrm
    have hR := hF.open cap (Nat.le_refl len)
    generalize w1.heap.size = r at *
    generalize w1.alloc _ = w2 at *
    clear hF
    co_op RdO.rely hR (co_quiet (termsR A))
    co_apply opsC_nil (termsR A)
    co_then
    co_ctl (termsR A)
    exact ⟨rfl, _, resultsC_tmp (by rfl) _, r, _, _, rfl, hR⟩
set_option maxHeartbeats 8000000 in
theorem pickZero : ∃ N, ∀ (a : Option Addr) (r cap : Nat) w, RdO A r a 0 cap 0 w → CallsC Tryd.prog main AtRel (DSr A) 9 #[.pointer (some ⟨r, 0, none⟩), .int .i64 15] N w fun v w' => ∃ k : Int, v = .int .i64 k ∧ HZ A w' := by
  have hp1 : IntKind.i64.wrap (1 : Int) = 1 := by rw [IntKind.wrap_i64]; omega
  have hp2 : IntKind.i64.wrap (0 : Int) = 0 := by rw [IntKind.wrap_i64]; omega
  co_apply Exists.intro
  intro a r cap w hR
  co_apply callsC_of_wpC Tryd.func9 (by rfl) rfl
  simp only [Tryd.ntmps9, List.size_toArray, List.length_cons, List.length_nil, Nat.reduceAdd, Nat.reduceSub, Array.replicate_succ, Array.replicate_zero, List.push_toArray, List.append_toArray, List.nil_append, List.cons_append]
  co_apply wpC_seq (termsR A)
  co_reg (termsR A)
  co_op RdO.rely hR (co_quiet (termsR A))
  co_apply opsC_nil (termsR A)
  co_then
  co_apply wpC_seq (termsR A)
  co_reg (termsR A)
  co_op RdO.rely hR (co_quiet (termsR A))
  co_op RdO.rely hR (co_quiet (termsR A))
  co_op RdO.rely hR (co_quiet (termsR A))
  co_op RdO.rely hR (co_quiet (termsR A))
  (co_apply opsC_cons_k rfl (by rfl); intro wx hx K hK; replace hR := RdO.rely hR hx; clear hx; have hc0 := hR.c0; have hc1 := hR.c1; go_simp; refine hK _ _ ⟨?_, ?_⟩; (· (refine ⟨Below.refl _ _, ?_⟩; co_evs (exact ⟨_, rfl, hR.lt⟩))); clear hK K hc0 hc1; try walk_nrm)
  co_op RdO.rely hR (co_quiet (termsR A))
  co_op RdO.rely hR (co_quiet (termsR A))
  co_op RdO.rely hR (co_quiet (termsR A))
  co_apply opsC_cons_k rfl (by rfl)
  intro w1 hx K hK
  replace hR := RdO.rely hR hx
  clear hx
  have hc1 := hR.c1
  have hc2 := hR.thaw
  go_simp
  refine hK _ _ ⟨?_, ?_⟩
  · refine ⟨(Below.refl _ _).setCell hR.ge _, ?_⟩
    intro e he
    have hm := mem_listed he
    simp [go_sem, storedEv, *] at hm
    subst hm
    exact ⟨_, rfl, by simpa [World.setCell] using hR.lt⟩
  clear hK K hc1 hc2
  try walk_nrm
  replace hR := hR.next 1
  generalize w1.setCell _ _ = w2 at *
  co_apply opsC_nil (termsR A)
  co_then
  co_apply wpC_seq (termsR A) (n₂ := 0)
  co_apply wpC_seq (termsR A)
  co_reg (termsR A)
  co_op RdO.rely hR (co_quiet (termsR A))
  co_op RdO.rely hR (co_quiet (termsR A))
  co_op RdO.rely hR (co_quiet (termsR A))
  co_op RdO.rely hR (co_quiet (termsR A))
  co_op RdO.rely hR (co_quiet (termsR A))
  co_op RdO.rely hR (co_quiet (termsR A))
  (co_apply opsC_cons_k rfl (by rfl); intro wx hx K hK; replace hR := RdO.rely hR hx; clear hx; have hc0 := hR.c0; have hc1 := hR.c1; go_simp; refine hK _ _ ⟨?_, ?_⟩; (· (refine ⟨Below.refl _ _, ?_⟩; co_evs (exact ⟨_, rfl, hR.lt⟩))); clear hK K hc0 hc1; try walk_nrm)
  co_op RdO.rely hR (co_quiet (termsR A))
  co_op RdO.rely hR (co_quiet (termsR A))
  co_op RdO.rely hR (co_quiet (termsR A))
  co_apply opsC_nil (termsR A)
  co_then
  co_apply wpC_cond (termsR A) (t := true)
  focus simp [Act.eval]
  simp only [if_true]
  co_apply wpC_seq (termsR A)
  co_reg (termsR A)
  co_op RdO.rely hR (co_quiet (termsR A))
  co_apply opsC_nil (termsR A)
  co_then
  co_ctl (termsR A)
  exact ⟨rfl, _, resultsC_tmp (by rfl) _, _, rfl, Nat.le_trans hR.ge (Nat.le_of_lt hR.lt)⟩
set_option maxHeartbeats 8000000 in
theorem pickOne : ∃ N, ∀ (a : Option Addr) (r len cap : Nat) w, 0 < len → RdO A r a len cap 0 w → CallsC Tryd.prog main AtRel (DSr A) 9 #[.pointer (some ⟨r, 0, none⟩), .int .i64 15] N w fun v w' => ∃ k : Int, v = .int .i64 k ∧ HZ A w' := by
  have hp1 : IntKind.i64.wrap (1 : Int) = 1 := by rw [IntKind.wrap_i64]; omega
  have hp2 : IntKind.i64.wrap (0 : Int) = 0 := by rw [IntKind.wrap_i64]; omega
  co_apply Exists.intro
  intro a r len cap w h0 hR
  have hz : ((len : Int) == 0) = false := by rw [beq_eq_false_iff_ne]; omega
  have hpos : decide ((0 : Int) < len) = true := decide_eq_true (by omega)
  have hpos2 : 0 < len := by omega
  obtain ⟨b, off, y, rfl, hb, hy⟩ := hR.at0 (by omega)
  clear hy
  co_apply callsC_of_wpC Tryd.func9 (by rfl) rfl
  simp only [Tryd.ntmps9, List.size_toArray, List.length_cons, List.length_nil, Nat.reduceAdd, Nat.reduceSub, Array.replicate_succ, Array.replicate_zero, List.push_toArray, List.append_toArray, List.nil_append, List.cons_append]
  co_apply wpC_seq (termsR A)
  co_reg (termsR A)
  co_op RdO.rely hR (co_quiet (termsR A))
  co_apply opsC_nil (termsR A)
  co_then
  co_apply wpC_seq (termsR A)
  co_reg (termsR A)
  co_op RdO.rely hR (co_quiet (termsR A))
  co_op RdO.rely hR (co_quiet (termsR A))
  co_op RdO.rely hR (co_quiet (termsR A))
  co_op RdO.rely hR (co_quiet (termsR A))
  (co_apply opsC_cons_k rfl (by rfl); intro wx hx K hK; replace hR := RdO.rely hR hx; clear hx; have hc0 := hR.c0; have hc1 := hR.c1; go_simp; refine hK _ _ ⟨?_, ?_⟩; (· (refine ⟨Below.refl _ _, ?_⟩; co_evs (exact ⟨_, rfl, hR.lt⟩))); clear hK K hc0 hc1; try walk_nrm)
  co_op RdO.rely hR (co_quiet (termsR A))
  co_op RdO.rely hR (co_quiet (termsR A))
  co_op RdO.rely hR (co_quiet (termsR A))
  co_apply opsC_cons_k rfl (by rfl)
  intro w1 hx K hK
  replace hR := RdO.rely hR hx
  clear hx
  have hc1 := hR.c1
  have hc2 := hR.thaw
  go_simp
  refine hK _ _ ⟨?_, ?_⟩
  · refine ⟨(Below.refl _ _).setCell hR.ge _, ?_⟩
    intro e he
    have hm := mem_listed he
    simp [go_sem, storedEv, *] at hm
    subst hm
    exact ⟨_, rfl, by simpa [World.setCell] using hR.lt⟩
  clear hK K hc1 hc2
  try walk_nrm
  replace hR := hR.next 1
  generalize w1.setCell _ _ = w2 at *
  co_apply opsC_nil (termsR A)
  co_then
  co_apply wpC_seq (termsR A)
  co_apply wpC_seq (termsR A)
  co_reg (termsR A)
  co_op RdO.rely hR (co_quiet (termsR A))
  co_op RdO.rely hR (co_quiet (termsR A))
  co_op RdO.rely hR (co_quiet (termsR A))
  co_op RdO.rely hR (co_quiet (termsR A))
  co_op RdO.rely hR (co_quiet (termsR A))
  co_op RdO.rely hR (co_quiet (termsR A))
  (co_apply opsC_cons_k rfl (by rfl); intro wx hx K hK; replace hR := RdO.rely hR hx; clear hx; have hc0 := hR.c0; have hc1 := hR.c1; go_simp; refine hK _ _ ⟨?_, ?_⟩; (· (refine ⟨Below.refl _ _, ?_⟩; co_evs (exact ⟨_, rfl, hR.lt⟩))); clear hK K hc0 hc1; try walk_nrm)
  co_op RdO.rely hR (co_quiet (termsR A))
  co_op RdO.rely hR (co_quiet (termsR A))
  co_op RdO.rely hR (co_quiet (termsR A))
  co_apply opsC_nil (termsR A)
  co_then
  co_apply wpC_cond (termsR A) (t := false)
  focus simp [Act.eval, hz]
  simp only [if_false, Bool.false_eq_true]
  co_apply wpC_skip (termsR A)
  co_then
  co_apply wpC_seq (termsR A)
  co_reg (termsR A)
  co_op RdO.rely hR (co_quiet (termsR A))
  co_op RdO.rely hR (co_quiet (termsR A))
  co_op RdO.rely hR (co_quiet (termsR A))
  (co_apply opsC_cons_k rfl (by rfl); intro wx hx K hK; replace hR := RdO.rely hR hx; clear hx; have hc0 := hR.c0; have hc1 := hR.c1; go_simp; refine hK _ _ ⟨?_, ?_⟩; (· (refine ⟨Below.refl _ _, ?_⟩; co_evs (exact ⟨_, rfl, hR.lt⟩))); clear hK K hc0 hc1; try walk_nrm)
  co_op RdO.rely hR (co_quiet (termsR A))
  co_op RdO.rely hR (co_quiet (termsR A))
  co_apply opsC_nil (termsR A)
  co_then
  co_apply wpC_seq (termsR A) (n₂ := 0)
  co_apply wpC_seq (termsR A)
  co_reg (termsR A)
  co_op RdO.rely hR (co_quiet (termsR A))
  co_op RdO.rely hR (co_quiet (termsR A))
  co_op RdO.rely hR (co_quiet (termsR A))
  co_op RdO.rely hR (co_quiet (termsR A))
  (co_apply opsC_cons_k rfl (by rfl); intro wx hx K hK; replace hR := RdO.rely hR hx; clear hx; have hc0 := hR.c0; have hc1 := hR.c1; go_simp; refine hK _ _ ⟨?_, ?_⟩; (· (refine ⟨Below.refl _ _, ?_⟩; co_evs (exact ⟨_, rfl, hR.lt⟩))); clear hK K hc0 hc1; try walk_nrm)
  co_op RdO.rely hR (co_quiet (termsR A))
  co_op RdO.rely hR (co_quiet (termsR A))
  co_apply opsC_nil (termsR A)
  co_then
  co_apply wpC_cond (termsR A) (t := true)
  focus simp [Act.eval, hpos]
  simp only [if_true]
  co_apply wpC_seq (termsR A)
  co_reg (termsR A)
  co_op RdO.rely hR (co_quiet (termsR A))
  co_op RdO.rely hR (co_quiet (termsR A))
  co_op RdO.rely hR (co_quiet (termsR A))
  (co_apply opsC_cons_k rfl (by rfl); intro wx hx K hK; replace hR := RdO.rely hR hx; clear hx; have hc0 := hR.c0; have hc1 := hR.c1; go_simp; refine hK _ _ ⟨?_, ?_⟩; (· (refine ⟨Below.refl _ _, ?_⟩; co_evs (exact ⟨_, rfl, hR.lt⟩))); clear hK K hc0 hc1; try walk_nrm)
  co_op RdO.rely hR (co_quiet (termsR A))
  co_op RdO.rely hR (co_still (termsR A))
  co_apply opsC_cons_k rfl (by rfl)
  intro w3 hx K hK
  replace hR := RdO.rely hR hx
  clear hx
  obtain ⟨b', off', y', e1, e2, e3⟩ := hR.at0 hpos2
  obtain ⟨rfl, rfl⟩ : b' = b ∧ off' = off := by simpa [eq_comm] using e1
  clear e1
  have hlb : b' < w3.heap.size := by have := hR.ge; have := hR.lt; omega
  go_simp
  refine hK _ _ ⟨?_, ?_⟩
  · refine ⟨Below.refl _ _, ?_⟩
    co_evs (exact ⟨_, rfl, hlb⟩)
  clear hK K e3
  try walk_nrm
  co_op RdO.rely hR (co_quiet (termsR A))
  co_op RdO.rely hR (co_quiet (termsR A))
  co_op RdO.rely hR (co_quiet (termsR A))
  co_op RdO.rely hR (co_quiet (termsR A))
  co_apply opsC_nil (termsR A)
  co_then
  co_ctl (termsR A)
  exact ⟨rfl, _, resultsC_tmp (by rfl) _, _, rfl, Nat.le_trans hR.ge (Nat.le_of_lt hR.lt)⟩
end
end Go.Proofs.YtmphfdibijbjeaaDoor
