/- Goroutines that make memory: raw steps, calls, regions that draw their order. Nothing of one program. -/
import Derived.Test.YtmphfdibijbjeaaDoorHB
import Derived.Conc.CompanyDraw
import Derived.Conc.CrowdComm
import Derived.Conc.DeferLaws
namespace Go.Proofs.YtmphfdibijbjeaaDoor
open Go.Conc
set_option linter.unusedSimpArgs false
set_option linter.unusedVariables false
set_option maxRecDepth 100000
section
variable {P : Program} {main : Bool} {R : Bag → World → World → Prop} {D : Bag → World → World → Array Event → Prop} {Stop : Bag → Goroutine → World → Prop} {S : Bag} {w : World} {n : Nat} {b : Frame} {a : Act} {k : List Item} {cs : List Frame}
/-- one step -/
theorem Trek.step1 {g : Goroutine} (hs : g.status = .running) (h : ∀ w₁, R S w w₁ → (stepG P main g w₁).goes fun g' w' es => D S w₁ w' es ∧ Trek P main R D Stop n (_root_.Go.Proofs.YtmphfdibijbjeaaDoor.more S w₁ w') g' w') : Trek P main R D Stop (n + 1) S g w := .inr ⟨hs, h⟩
/-- an operation that leaves the world, at the model's own grain -/
theorem Trek.look {ops : Array Oper} {i : Nat} {rest : List Nat} {o : Oper} (ho : ops[i]? = some o) (hw : Region.wanted o (yielded ops a.tmps) = true) (hk : b.kind ≠ .early)
    (h : ∀ w₁, R S w w₁ → ∃ v, (execOp a.eval o).run P w₁ = .ok (.value v) w₁ ∧ D S w₁ w₁ (listed P b.fn a o w₁) ∧ Trek P main R D Stop n S (G (b.at (a.put o.dst v) (.inRegion ops rest :: k)) cs) w₁) :
    Trek P main R D Stop (n + 1) S (G (b.at a (.inRegion ops (i :: rest) :: k)) cs) w :=
  .inr ⟨rfl, fun w₁ h₁ => by
    obtain ⟨v, hr, hd, ht⟩ := h w₁ h₁
    rw [stepG_value ho hw hk hr]
    refine ⟨hd, ?_⟩
    rw [more_same (Nat.le_refl _)]
    exact ht⟩
/-- the same, what follows behind a variable -/
theorem Trek.look_k {ops : Array Oper} {i : Nat} {rest : List Nat} {o : Oper} (ho : ops[i]? = some o) (hw : Region.wanted o (yielded ops a.tmps) = true) (hk : b.kind ≠ .early)
    (h : ∀ w₁, R S w w₁ → ∀ K : Act → World → Prop, (∀ a', D S w₁ w₁ (listed P b.fn a o w₁) ∧ Trek P main R D Stop n S (G (b.at a' (.inRegion ops rest :: k)) cs) w₁ → K a' w₁) → uponK o a K ((execOp a.eval o).run P w₁)) :
    Trek P main R D Stop (n + 1) S (G (b.at a (.inRegion ops (i :: rest) :: k)) cs) w := by
  refine .inr ⟨rfl, fun w₁ h₁ => goes_oper ho hw hk ?_⟩
  have h2 := h w₁ h₁ (fun a' w' => D S w₁ w' (listed P b.fn a o w₁) ∧ Trek P main R D Stop n (_root_.Go.Proofs.YtmphfdibijbjeaaDoor.more S w₁ w') (G (b.at a' (.inRegion ops rest :: k)) cs) w') (fun a' x => ⟨x.1, by rw [more_same (Nat.le_refl _)]; exact x.2⟩)
  revert h2
  cases (execOp a.eval o).run P w₁ with
  | ok x w' => cases x <;> exact id
  | halt _ _ => exact id
/-- a call by a contract, at the model's own grain -/
theorem Trek.call (T : Fair2 R D) {ops : Array Oper} {i : Nat} {rest : List Nat} {o : Oper} {f : FuncId} {args : Array Operand} {ats : Array TypeId} {nf m : Nat} {vs : Array Value} {Post : Bag → Value → World → Prop}
    (ho : ops[i]? = some o) (hw : Region.wanted o (yielded ops a.tmps) = true) (hk : b.kind ≠ .early) (hop : o.op = .call { callee := .value (.func f), args, argTypes := ats })
    (hcall : CallsT P main R D f vs nf S w Post) (hargs : args.map a.eval = vs) (hnext : ∀ S' v w', Post S' v w' → Trek P main R D Stop m S' (G (b.at (a.put o.dst v) (.inRegion ops rest :: k)) cs) w') :
    Trek P main R D Stop (m + nf + 3) S (G (b.at a (.inRegion ops (i :: rest) :: k)) cs) w := by
  obtain ⟨fn', c, hf, hname, hbody, hwp⟩ := hcall
  rw [← hargs] at hwp
  have hfin : ∀ v, (b.at a (.inRegion ops (i :: rest) :: k)).finish v = b.at (a.put o.dst v) (.inRegion ops rest :: k) := fun v => by rw [Frame.finish_at, ho]; rfl
  have hleave : ∀ (S' : Bag) (a' : Act) (w' : World) (todo : List Item), (a'.defers = [] ∧ ∃ v, ResultsC P fn' a'.tmps v ∧ Post S' v w') →
      Trek P main R D Stop (m + 1) S' (G { (base f).at a' todo with mode := .returning } (b.at a (.inRegion ops (i :: rest) :: k) :: cs)) w' := by
    rintro S' a' w' todo ⟨hd, v, hr, hp⟩
    refine Trek.still T rfl (fun w₁ => ?_) (hnext S' v w' hp)
    rw [stepG_leave (b := base f) rfl hd hf (hr w₁).1 (hr w₁).2, hfin]
  have hbodyG := hwp (base f) [] (b.at a (.inRegion ops (i :: rest) :: k) :: cs) Stop (m + 2) rfl (by simp [base]) fun S' e a' w' q => by
    cases e with
    | normal => exact Trek.still T rfl (fun _ => stepG_end) (hleave S' a' w' [] q)
    | ret => exact fun todo => (hleave S' a' w' todo q).more
    | exit id => exact q.elim
    | goto l => exact q.elim
    | panic ch => exact q.elim
    | outgrown => exact q.elim
  rw [show m + nf + 3 = (m + 2 + nf) + 1 by omega]
  refine .inr ⟨rfl, fun w₁ h₁ => goes_call ho hw hk hop hf hname hbody ⟨T.idle _ _, ?_⟩⟩
  rw [more_same (Nat.le_refl _)]
  exact Trek.rely T hbodyG h₁
end
/-- all orders that a region's tape can pick -/
def ordersGo (m : Region.Mode) (ops : Array Oper) : Nat → Array Bool → List Nat → List (List Nat)
  | 0, _, acc => [acc.reverse]
  | f + 1, done, acc => match Region.ready m ops done with
    | [] => [acc.reverse]
    | i :: r => (i :: r).flatMap fun j => ordersGo m ops f (done.setIfInBounds j true) (j :: acc)
theorem go_mem (m : Region.Mode) (ops : Array Oper) : ∀ (f t : Nat) (done : Array Bool) (acc : List Nat), Region.linearise.go m ops f t done acc ∈ ordersGo m ops f done acc
  | 0, t, done, acc => by simp [Region.linearise.go, ordersGo]
  | f + 1, t, done, acc => by
    simp only [Region.linearise.go]
    change (match (Region.ready m ops done)[t % (Region.ready m ops done).length]? with
      | some i => Region.linearise.go m ops f (t / (Region.ready m ops done).length) (done.setIfInBounds i true) (i :: acc)
      | none => acc.reverse) ∈ ordersGo m ops (f + 1) done acc
    unfold ordersGo
    cases hr : Region.ready m ops done with
    | nil => simp
    | cons i r =>
      have hlt : t % (i :: r).length < (i :: r).length := Nat.mod_lt _ (by simp)
      rw [List.getElem?_eq_getElem hlt]
      exact List.mem_flatMap.2 ⟨_, List.getElem_mem hlt, go_mem m ops f _ _ _⟩
def orders (ops : Array Oper) : List (List Nat) :=
  ordersGo .any ops ops.size (Array.replicate ops.size false) [] ++ ordersGo .text ops ops.size (Array.replicate ops.size false) [] ++ ordersGo .gc ops ops.size (Array.replicate ops.size false) []
theorem schedule_mem (mixed : Bool) (ops : Array Oper) (t : Nat) : Region.schedule mixed ops t ∈ orders ops := by
  unfold Region.schedule orders Region.linearise
  split
  · exact List.mem_append_left _ (List.mem_append_left _ (go_mem _ _ _ _ _ _))
  · by_cases h : (t % 2 == 0) = true
    · rw [if_pos h]; exact List.mem_append_left _ (List.mem_append_right _ (go_mem _ _ _ _ _ _))
    · rw [if_neg h]; exact List.mem_append_right _ (go_mem _ _ _ _ _ _)
section
variable {P : Program} {main : Bool} {Low : Nat} {Shr : Nat → Prop} {Lv : World → Prop} {Stop : Bag → Goroutine → World → Prop} {S : Bag} {w : World} {n : Nat} {b : Frame} {a : Act} {k : List Item} {cs : List Frame}
/-- into a region that draws its order -/
theorem Trek.draw {ops : Array Oper} {id : Nat} (h : ∀ w₁, RH Low Shr Lv S w w₁ → ∀ l ∈ orders ops, Trek P main (RH Low Shr Lv) (DH Low Shr) Stop n S (G (b.at a (.inRegion ops l :: k)) cs) { w₁ with drawn := w₁.drawn + 1 }) :
    Trek P main (RH Low Shr Lv) (DH Low Shr) Stop (n + 1) S (G (b.at a (.code (.region id ops true) :: k)) cs) w :=
  .inr ⟨rfl, fun w₁ h₁ => by
    rw [stepG_region_draw]
    refine ⟨⟨Nat.le_refl _, rfl, rfl, rfl, fun _ _ _ => rfl, evs_none⟩, ?_⟩
    have e := more_same (S := S) (w := w₁) (w' := { w₁ with drawn := w₁.drawn + 1 }) (Nat.le_refl _)
    rw [e]
    exact h w₁ h₁ _ (schedule_mem _ _ _)⟩
end
section
variable {P : Program} {main : Bool} {R : Bag → World → World → Prop} {D : Bag → World → World → Array Event → Prop}
/-- what stands all along may be taken for granted where the walk stops -/
theorem Trek.cut {J : Bag → World → Prop} {Stop : Bag → Goroutine → World → Prop} (hR : ∀ S w w₁, J S w → R S w w₁ → J S w₁) (hD : ∀ S w w' es, J S w → D S w w' es → J (_root_.Go.Proofs.YtmphfdibijbjeaaDoor.more S w w') w') :
    ∀ {n : Nat} {S : Bag} {g : Goroutine} {w : World}, Trek P main R D (fun S g w => J S w → Stop S g w) n S g w → J S w → Trek P main R D Stop n S g w
  | 0, S, g, w, h, hJ => fun w₁ h₁ => h w₁ h₁ (hR _ _ _ hJ h₁)
  | n + 1, S, g, w, h, hJ => by
    rcases h with h | ⟨hs, h⟩
    · exact .inl fun w₁ h₁ => h w₁ h₁ (hR _ _ _ hJ h₁)
    · refine .inr ⟨hs, fun w₁ h₁ => ?_⟩
      have h2 := h w₁ h₁
      have hJ1 := hR _ _ _ hJ h₁
      revert h2
      cases stepG P main g w₁ <;> simp only [GStep.goes, imp_self]
      rintro ⟨d, x⟩
      exact ⟨d, Trek.cut hR hD x (hD _ _ _ _ hJ1 d)⟩
theorem Trek.imp {Stop Stop' : Bag → Goroutine → World → Prop} (hS : ∀ S g w, Stop S g w → Stop' S g w) : ∀ {n : Nat} {S : Bag} {g : Goroutine} {w : World}, Trek P main R D Stop n S g w → Trek P main R D Stop' n S g w
  | 0, S, g, w, h => fun w₁ h₁ => hS _ _ _ (h w₁ h₁)
  | n + 1, S, g, w, h => by
    rcases h with h | ⟨hs, h⟩
    · exact .inl fun w₁ h₁ => hS _ _ _ (h w₁ h₁)
    · refine .inr ⟨hs, fun w₁ h₁ => ?_⟩
      have h2 := h w₁ h₁
      revert h2
      cases stepG P main g w₁ <;> simp only [GStep.goes, imp_self]
      exact fun x => ⟨x.1, Trek.imp hS x.2⟩
theorem Then.imp {Stop Stop' : Bag → Goroutine → World → Prop} (hS : ∀ S g w, Stop S g w → Stop' S g w) {m : Nat} {b : Frame} {k : List Item} {cs : List Frame} {S : Bag} {e : Exit} {a : Act} {w : World} (h : Then P main R D Stop m b k cs S e a w) : Then P main R D Stop' m b k cs S e a w := by
  cases e with
  | normal => exact Trek.imp hS h
  | exit id => obtain ⟨k', hk, hg⟩ := h; exact ⟨k', hk, Trek.imp hS hg⟩
  | ret => exact fun todo => Trek.imp hS (h todo)
  | goto l => exact h
  | panic ch => exact h
  | outgrown => exact h
/-- a contract, and what stands all along -/
theorem CallsT.frame {J : Bag → World → Prop} (hR : ∀ S w w₁, R S w w₁ → (J S w ↔ J S w₁)) (hD : ∀ S w w' es, J S w → D S w w' es → J (_root_.Go.Proofs.YtmphfdibijbjeaaDoor.more S w w') w')
    {f : FuncId} {vs : Array Value} {n : Nat} {S : Bag} {w : World} {Post : Bag → Value → World → Prop} (h : CallsT P main R D f vs n S w Post) (hJ : J S w) : CallsT P main R D f vs n S w (fun S' v w' => Post S' v w' ∧ J S' w') := by
  obtain ⟨fn, c, h1, h2, h3, h4⟩ := h
  refine ⟨fn, c, h1, h2, h3, fun b k cs Stop m hb hk hc => ?_⟩
  refine Trek.cut (fun S w w₁ hJ h => (hR S w w₁ h).1 hJ) hD (h4 b k cs (fun S g w => J S w → Stop S g w) m hb hk fun S' e a' w' q => ?_) hJ
  by_cases hj : J S' w'
  · refine Then.imp (Stop := Stop) (Stop' := fun S g w => J S w → Stop S g w) (fun _ _ _ x _ => x) (hc S' e a' w' ?_)
    cases e with
    | normal => obtain ⟨q1, v, q2, q3⟩ := q; exact ⟨q1, v, q2, q3, hj⟩
    | ret => obtain ⟨q1, v, q2, q3⟩ := q; exact ⟨q1, v, q2, q3, hj⟩
    | exit id => exact q.elim
    | goto l => exact q.elim
    | panic ch => exact q.elim
    | outgrown => exact q.elim
  · have hno : ∀ w₁, R S' w' w₁ → J S' w₁ → False := fun w₁ h₁ hj₁ => hj ((hR _ _ _ h₁).2 hj₁)
    cases e with
    | normal => exact Trek.stop fun w₁ h₁ hj₁ => (hno w₁ h₁ hj₁).elim
    | ret => exact fun todo => Trek.stop fun w₁ h₁ hj₁ => (hno w₁ h₁ hj₁).elim
    | exit id => exact q.elim
    | goto l => exact q.elim
    | panic ch => exact q.elim
    | outgrown => exact q.elim
end
/-- the low blocks that are nobody's share stand as they stood; none of them is mine -/
def LowAt (Low : Nat) (Shr : Nat → Prop) (o : Nat → Obj) (S : Bag) (w : World) : Prop :=
  (∀ b, S b → b < Low → Shr b) ∧ ∀ b, b < Low → ¬ Shr b → w.heap[b]? = some (o b)
section
variable {P : Program} {main : Bool} {Low : Nat} {Shr : Nat → Prop} {Lv : World → Prop} {o : Nat → Obj}
theorem LowAt.rely {S : Bag} {w w₁ : World} (r : RH Low Shr Lv S w w₁) : LowAt Low Shr o S w ↔ LowAt Low Shr o S w₁ :=
  ⟨fun h => ⟨h.1, fun b hb hs => (r.low b hb hs).trans (h.2 b hb hs)⟩, fun h => ⟨h.1, fun b hb hs => (r.low b hb hs).symm.trans (h.2 b hb hs)⟩⟩
theorem LowAt.done {S : Bag} {w w' : World} {es : Array Event} (h : LowAt Low Shr o S w) (d : DH Low Shr S w w' es) : LowAt Low Shr o (more S w w') w' := by
  have hlt : ∀ b, b < Low → ¬ Shr b → b < w.heap.size := fun b hb hs => by
    have := h.2 b hb hs
    exact (Array.getElem?_eq_some_iff.1 this).1
  refine ⟨fun b hb hl => ?_, fun b hb hs => ?_⟩
  · rcases hb with hb | ⟨hb, _⟩
    · exact h.1 b hb hl
    · exact Classical.byContradiction fun hs => by have := hlt b hl hs; omega
  · exact (d.block b (hlt b hb hs) fun x => hs (h.1 b x hb)).trans (h.2 b hb hs)
theorem CallsT.low {f : FuncId} {vs : Array Value} {n : Nat} {S : Bag} {w : World} {Post : Bag → Value → World → Prop} (h : CallsT P main (RH Low Shr Lv) (DH Low Shr) f vs n S w Post) (hJ : LowAt Low Shr o S w) :
    CallsT P main (RH Low Shr Lv) (DH Low Shr) f vs n S w (fun S' v w' => Post S' v w' ∧ LowAt Low Shr o S' w') :=
  CallsT.frame (J := fun S w => LowAt Low Shr o S w) (fun _ _ _ r => LowAt.rely r) (fun _ _ _ _ h d => h.done d) h hJ
end
end Go.Proofs.YtmphfdibijbjeaaDoor
