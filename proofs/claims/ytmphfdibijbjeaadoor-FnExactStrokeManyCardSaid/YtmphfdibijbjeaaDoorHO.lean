/- Workers that make memory: a worker's situations; what holds of machine and trace at every moment; the two master laws. Nothing of one program. -/
import Derived.Test.YtmphfdibijbjeaaDoorHN
namespace Go.Proofs.YtmphfdibijbjeaaDoor
open Go.Conc Go.ConcN
open Go.ConcR (KK wgBlock WgAt stA smA rd wr mk Payload Aside2 DC0 Bk g_of_ofEvents again_blocked loc_of_ofEvent)
set_option linter.unusedSimpArgs false
set_option linter.unusedVariables false
set_option maxRecDepth 100000
set_option linter.unusedSectionVars false
theorem Trek.cases {P : Program} {main : Bool} {R : Bag → World → World → Prop} {D : Bag → World → World → Array Event → Prop} {Stop : Bag → Goroutine → World → Prop} {n : Nat} {S : Bag} {g : Goroutine} {w : World}
    (h : Trek P main R D Stop n S g w) : (∀ w₁, R S w w₁ → Stop S g w₁) ∨ ∃ n', n = n' + 1 ∧ ∀ w₁, R S w w₁ → ∃ g' w' es, stepG P main g w₁ = .go g' w' es ∧ D S w₁ w' es ∧ Trek P main R D Stop n' (_root_.Go.Proofs.YtmphfdibijbjeaaDoor.more S w₁ w') g' w' := by
  cases n with
  | zero => exact .inl h
  | succ n =>
    rcases h with h | ⟨_, h⟩
    · exact .inl h
    · refine .inr ⟨n, rfl, fun w₁ h₁ => ?_⟩
      have h2 := h w₁ h₁
      revert h2
      cases hs : stepG P main g w₁ <;> simp only [GStep.goes, false_implies]
      exact fun x => ⟨_, _, _, rfl, x.1, x.2⟩
theorem Trek.running {P : Program} {main : Bool} {R : Bag → World → World → Prop} {D : Bag → World → World → Array Event → Prop} {Stop : Bag → Goroutine → World → Prop} {n : Nat} {S : Bag} {g : Goroutine} {w : World}
    (hst : ∀ S g w, Stop S g w → g.status = .running) (hr : R S w w) (h : Trek P main R D Stop n S g w) : g.status = .running := by
  cases n with
  | zero => exact hst _ _ _ (h w hr)
  | succ n => exact h.elim (fun x => hst _ _ _ (x w hr)) fun x => x.1
abbrev noN : Nat → Loc → Prop := fun _ _ => False
/-- the stop at the send -/
def AtSnd (P : Program) (C : Nat) (v : Value) (Next : Bag → Goroutine → World → Prop) (S : Bag) (g : Goroutine) (w : World) : Prop :=
  g.status = .running ∧ ∃ g₂ z, stepG P false g w = .comm g₂ #[scase C v z] true .send w #[] ∧ Next S (Go.Conc.served g₂ undef) w
section
variable [Payload] (P : Program) (ty : TypeId) (Wg Ch n Low0 M : Nat)
/-- behind its send: within M steps at its release -/
def NextT (u : Value) (bd : Nat) (_ : Bag) (g : Goroutine) (w : World) : Prop :=
  Has bd 0 u w ∧ ∀ w₁, WgLive ty Wg w₁ → Has bd 0 u w₁ → ∃ m, m ≤ M ∧ Goes P false (RW ty Wg bd 1 0 (1 - 1)) (DWs Wg noN noN bd 1 1) (AtR0 P ty Wg bd 1 0 1 u) m g w₁
/-- a worker: on its way to the send; or as the kit has it -/
inductive KSit (x : GW) (v u : Value) : Nat → Nat → Nat → Goroutine → World → Prop
  | pre {m : Nat} {g : Goroutine} {w : World} : x.sent = false → Trek P false (RH x.lw x.sh NoLv) (DH x.lw x.sh) (AtSnd P Ch v (NextT P ty Wg M u x.bd)) m x.bag g w → KSit x v u 7 (m + M + 1) 0 g w
  | tail {s m d : Nat} {g : Goroutine} {w : World} : x.sent = true → WSit P ty Wg x.bd 1 noN noN 0 1 u s m d g w → KSit x v u s m d g w
/-- the worker's release, and nothing but the group's cells behind it -/
def Rel2 (t : Trace) (k : Nat) : Prop := ∃ r, RelBy (stA Wg) t k r ∧ ∀ i a, r < i → t.g? i = some k → touchAt t i = some a → ShN Wg a.loc
def sentN (j : Nat) (X : Nat → GW) : Nat := sumTo j fun i => if (X i).sent then 1 else 0
def sentV (val : Nat → Nat) (j : Nat) (X : Nat → GW) : Nat := sumTo j fun i => if (X i).sent then val i else 0
/-- the channel: so many values, of such a sum -/
def ChanHas (N sum : Nat) (w : World) : Prop := ∃ (l : List Nat) (s : Nat), w.heap[Ch]? = some (.chan n (l.map fun x => Value.int .i64 (x : Nat)).toArray false s 0 false) ∧ l.length = N ∧ l.sum = sum
variable (val : Nat → Nat) (box : Nat → Value)
structure KCom (j : Nat) (gs : Array Goroutine) (w : World) (t : Trace) (D : Nat → WD) (X : Nat → GW) (S0 : Bag) (d0 : Nat) : Prop where
  size : gs.size = j + 1
  wk : ∀ i, i < j → ∃ g, gs[i + 1]? = some g ∧ KSit P ty Wg Ch M (X i) (.int .i64 (val i : Nat)) (box i) (D i).stage (D i).fuel (D i).deaf g w
  fam : Fam Wg Ch Low0 j X S0 w.heap.size
  ct : CT (ShN Wg) (OwnX X j) (RdX X j) t j
  seen : Seen w.heap.size t
  norel : NoRelease (stA Wg) t
  deaf0 : Deaf t 0 = d0
  deafW : ∀ i, i < j → Deaf t (i + 1) = (D i).deaf
  rel : ∀ i, i < j → (D i).stage ≤ 6 → Rel2 Wg t (i + 1)
  chan : ChanHas Ch n (sentN j X) (sentV val j X) w
end
section
variable [Payload] {P : Program} {ty : TypeId} {Wg Ch n Low0 M : Nat} {val : Nat → Nat} {box : Nat → Value} {x : GW} {v u : Value} {s m d : Nat} {g : Goroutine} {w w' : World}
theorem KSit.rely (h : KSit P ty Wg Ch M x v u s m d g w) (h1 : RH x.lw x.sh NoLv x.bag w w') (h2 : RW ty Wg x.bd 1 0 0 w w') : KSit P ty Wg Ch M x v u s m d g w' := by
  cases h with
  | pre hs h => exact .pre hs (h.rely fairH h1)
  | tail hs h => exact .tail hs (h.rely h2)
theorem rh_refl (Low : Nat) (Shr : Nat → Prop) (Lv : World → Prop) (S : Bag) (w : World) : RH Low Shr Lv S w w := ⟨Nat.le_refl _, fun _ _ _ => rfl, fun _ _ => rfl, id⟩
theorem rh_at (Low : Nat) (Shr : Nat → Prop) (S : Bag) (w : World) (d : Nat) : RH Low Shr NoLv S w (w.at d) := ⟨Nat.le_refl _, fun _ _ _ => rfl, fun _ _ => rfl, id⟩
theorem KSit.at (h : KSit P ty Wg Ch M x v u s m d g w) (d' : Nat) : KSit P ty Wg Ch M x v u s m d g (w.at d') := h.rely (rh_at _ _ _ _ _) (RW.at w d')
theorem KSit.status (h : KSit P ty Wg Ch M x v u s m d g w) : g.status = .running ∨ g.status = .finished := by
  cases h with
  | pre hs h => exact .inl (Trek.running (fun _ _ _ x => x.1) (rh_refl _ _ _ _ _) h)
  | tail hs h => exact h.status
theorem KSit.running_of (h : KSit P ty Wg Ch M x v u s m d g w) (hs : s ≠ 1) : g.status = .running := by
  cases h with
  | pre _ h => exact Trek.running (fun _ _ _ x => x.1) (rh_refl _ _ _ _ _) h
  | tail _ h => exact h.running_of hs
theorem KSit.sent_of (h : KSit P ty Wg Ch M x v u s m d g w) (hs : s ≤ 6) : x.sent = true := by
  cases h with
  | pre hs' h => omega
  | tail hs' h => exact hs'
theorem KSit.quits (h : KSit P ty Wg Ch M x v u s m d g w) (hs : s = 1) : QuitsD P m d g := by
  cases h with
  | pre hs' h => omega
  | tail hs' h => exact WSit.quits h hs
theorem ChanHas.eff {N sum : Nat} (h : ChanHas Ch n N sum w) (hc : w'.heap[Ch]? = w.heap[Ch]?) : ChanHas Ch n N sum w' := by
  obtain ⟨l, s, h1, h2, h3⟩ := h
  exact ⟨l, s, hc.trans h1, h2, h3⟩
theorem Rel2.other {t u : Trace} {k g : Nat} (h : Rel2 Wg t k) (hu : ∀ op ∈ u, op.g = g) (hg : g ≠ k) : Rel2 Wg (t ++ u) k := by
  obtain ⟨r, hr, ht⟩ := h
  refine ⟨r, hr.appOther hu hg, fun i a hi hgi ha => ?_⟩
  obtain ⟨op, ho, hog⟩ := Option.map_eq_some_iff.1 hgi
  rcases getElem?_append_cases ho with ⟨hlt, ho'⟩ | ⟨_, hou⟩
  · exact ht i a hi (by rw [← g?_old (u := u) hlt]; exact hgi) (by rw [← touchAt_old (u := u) hlt]; exact ha)
  · rw [hu op hou] at hog; exact absurd hog hg
theorem Rel2.not {t u : Trace} {k : Nat} (h : Rel2 Wg t k) (hu : ∀ op ∈ u, op.g ≠ k) : Rel2 Wg (t ++ u) k := by
  obtain ⟨r, hr, ht⟩ := h
  refine ⟨r, hr.appNot hu, fun i a hi hgi ha => ?_⟩
  obtain ⟨op, ho, hog⟩ := Option.map_eq_some_iff.1 hgi
  rcases getElem?_append_cases ho with ⟨hlt, ho'⟩ | ⟨_, hou⟩
  · exact ht i a hi (by rw [← g?_old (u := u) hlt]; exact hgi) (by rw [← touchAt_old (u := u) hlt]; exact ha)
  · exact absurd hog (hu op hou)
theorem touch_bk {e : Event} (h : Bk Wg e) {x : Touch} (hx : (MemAct.ofEvent e).touch? = some x) : ShN Wg x.loc := by
  rcases h with h1 | h1 | ⟨a, wr, rfl, ha⟩
  · simp only [Go.ConcR.ofEvent_loc_mark h1] at hx; cases hx
  · simp only [Go.ConcR.ofEvent_loc_mark h1] at hx; cases hx
  · simp only [Go.ConcR.ofEvent_cell, MemAct.touch?, Option.some.injEq] at hx
    subst hx
    exact ⟨a, rfl, ha⟩
theorem seen_bk {es : Array Event} (h : ∀ e ∈ es, Bk Wg e) {B : Nat} (hB : Wg < B) {g : Nat} {fn : FuncId} {pos : String} : Seen B (MemOp.ofEvents g fn pos es) := by
  intro op hop x hx a ha
  rw [ofEvents_eq] at hop
  obtain ⟨e, he, rfl⟩ := Array.mem_map.1 hop
  obtain ⟨a', e1, e2⟩ := touch_bk (h e he) hx
  rw [ha] at e1
  cases e1
  omega
theorem Rel2.book {t : Trace} {k d : Nat} (h : Rel2 Wg t k) (hdk : Deaf t k = d) (fn : FuncId) (pos : String) {es : Array Event} (hes : ∀ e ∈ es, Bk Wg e)
    (hd : ∀ j e, es[j]? = some e → (MemAct.ofEvent e).touch? = none ∨ 0 < deafBehind d (es.extract 0 j)) : Rel2 Wg (t ++ MemOp.ofEvents k fn pos es) k := by
  obtain ⟨r, hr, ht⟩ := h
  refine ⟨r, hr.book hdk fn pos hes hd, fun i a hi hgi ha => ?_⟩
  obtain ⟨op, ho, hoa⟩ := touch_of ha
  rcases getElem?_append_cases ho with ⟨hlt, ho'⟩ | ⟨_, hou⟩
  · exact ht i a hi (by rw [← g?_old hlt]; exact hgi) (by rw [← touchAt_old hlt]; exact ha)
  · rw [ofEvents_eq] at hou
    obtain ⟨e, he, rfl⟩ := Array.mem_map.1 hou
    exact touch_bk (hes e he) hoa
theorem Rel2.new {t : Trace} {k : Nat} (hd : Deaf t k = 0) (fn : FuncId) (pos : String) : Rel2 Wg (t ++ MemOp.ofEvents k fn pos #[mk (.releaseMerge (stA Wg))]) k := by
  refine ⟨t.size, RelBy.new hd fn pos, fun i a hi hgi ha => ?_⟩
  obtain ⟨op, ho, hoa⟩ := touch_of ha
  rcases getElem?_append_cases ho with ⟨hlt, ho'⟩ | ⟨_, hou⟩
  · omega
  · rw [ofEvents_eq] at hou
    obtain ⟨e, he, rfl⟩ := Array.mem_map.1 hou
    simp only [List.mem_toArray, List.mem_cons, List.not_mem_nil, or_false] at he
    subst he
    simp [Go.ConcR.ofEvent_mk, MemAct.touch?] at hoa
end
section
variable [Payload] {P : Program} {ty : TypeId} {Wg Ch n Low0 M : Nat} {val : Nat → Nat} {box : Nat → Value} {j : Nat} {gs gs' : Array Goroutine} {w w' : World} {t u : Trace} {D : Nat → WD} {X : Nat → GW} {S0 : Bag} {d0 : Nat}
theorem KCom.at (h : KCom P ty Wg Ch n Low0 M val box j gs w t D X S0 d0) (d : Nat) : KCom P ty Wg Ch n Low0 M val box j gs (w.at d) t D X S0 d0 :=
  ⟨h.size, fun i hi => let ⟨g, hg, hs⟩ := h.wk i hi; ⟨g, hg, hs.at d⟩, h.fam, h.ct, h.seen, h.norel, h.deaf0, h.deafW, h.rel, h.chan⟩
theorem sumTo_sent (φ : Nat → GW → Nat) {X : Nat → GW} {i : Nat} {x' : GW} : ∀ {j : Nat}, i < j → sumTo j (fun a => φ a (upd X i x' a)) + φ i (X i) = sumTo j (fun a => φ a (X a)) + φ i x'
  | j + 1, h => by
    rcases Nat.lt_or_ge i j with hlt | hge
    · have := sumTo_sent φ (X := X) (x' := x') hlt
      simp only [sumTo, upd_ne X x' (show j ≠ i by omega)]
      omega
    · obtain rfl : i = j := by omega
      simp only [sumTo, upd_same]
      rw [sumTo_congr (g := fun a => φ a (X a)) (fun a ha => by rw [upd_ne X x' (by omega)])]
      omega
theorem sent_same {i : Nat} {x' : GW} (hi : i < j) (e : x'.sent = (X i).sent) : sentN j (upd X i x') = sentN j X ∧ sentV val j (upd X i x') = sentV val j X := by
  have h1 := sumTo_sent (fun _ y => if y.sent then 1 else 0) (X := X) (x' := x') hi
  have h2 := sumTo_sent (fun a y => if y.sent then val a else 0) (X := X) (x' := x') hi
  simp only [e] at h1 h2
  exact ⟨by unfold sentN; omega, by unfold sentV; omega⟩
theorem sent_more {i : Nat} {x' : GW} (hi : i < j) (e : x'.sent = true) (e0 : (X i).sent = false) : sentN j (upd X i x') = sentN j X + 1 ∧ sentV val j (upd X i x') = sentV val j X + val i := by
  have h1 := sumTo_sent (fun _ y => if y.sent then 1 else 0) (X := X) (x' := x') hi
  have h2 := sumTo_sent (fun a y => if y.sent then val a else 0) (X := X) (x' := x') hi
  simp only [e, e0, if_true, Bool.false_eq_true, if_false] at h1 h2
  exact ⟨by unfold sentN; omega, by unfold sentV; omega⟩
/-- a step of worker number i -/
theorem KCom.stepW (h : KCom P ty Wg Ch n Low0 M val box j gs w t D X S0 d0) {i : Nat} (hi : i < j) {g' : Goroutine} {x' : GW} {s' m' dd' : Nat}
    (hsz : gs'.size = gs.size) (hg' : gs'[i + 1]? = some g') (hoth : ∀ (k : Nat) (y : Goroutine), k ≠ 0 → k ≠ i + 1 → (y.status = .running ∨ y.status = .finished) → gs[k]? = some y → gs'[k]? = some y)
    (he : Eff (Part Wg Ch X S0 (some i)) w w') (hl : WgLive ty Wg w')
    (e1 : x'.lw = (X i).lw) (e2 : x'.sh = (X i).sh) (e3 : x'.bd = (X i).bd) (e4 : x'.bag = more (X i).bag w w')
    (hs' : KSit P ty Wg Ch M x' (.int .i64 (val i : Nat)) (box i) s' m' dd' g' w')
    (hu : ∀ op ∈ u, OkW (ShN Wg) (OwnX X j) (RdX X j) (i + 1) op) (hnr : ∀ op ∈ u, op.act ≠ .mark (.release (stA Wg))) (hlow : Seen w.heap.size u)
    (hdeaf : Deaf (t ++ u) (i + 1) = dd') (hrel : s' ≤ 6 → Rel2 Wg (t ++ u) (i + 1))
    (hch : ChanHas Ch n (sentN j (upd X i x')) (sentV val j (upd X i x')) w') :
    KCom P ty Wg Ch n Low0 M val box j gs' w' (t ++ u) (upd D i ⟨s', m', dd'⟩) (upd X i x') S0 d0 := by
  have hwho : ∀ k, some i = some k → k < j := fun k e => by cases e; exact hi
  have hug : ∀ op ∈ u, op.g = i + 1 := fun op hop => (hu op hop).1
  have hseen : Seen w.heap.size (t ++ u) := h.seen.app hlow
  have hct := h.ct.appW h.fam.apartX (by omega) (show i + 1 ≤ j by omega) hu
  refine ⟨by rw [hsz, h.size], fun i' hi' => ?_, h.fam.work he.size hi e1 e2 e3 e4, ?_, hseen.mono he.size, h.norel.app hnr, by rw [Deaf_other t (by omega) _ hug, h.deaf0], fun i' hi' => ?_, fun i' hi' hst => ?_, hch⟩
  · by_cases e : i' = i
    · subst e
      exact ⟨g', hg', by rw [upd_same, upd_same]; exact hs'⟩
    · obtain ⟨y, hy, hsy⟩ := h.wk i' hi'
      refine ⟨y, hoth _ y (by omega) (by omega) hsy.status hy, ?_⟩
      rw [upd_ne D _ e, upd_ne X _ e]
      exact hsy.rely (h.fam.pre hwho he hi' (by simp; omega)) (h.fam.tail hwho he hl hi' (by simp; omega))
  · refine CT.fam hct (fun k l k1 kj => ?_) (fun k l k1 kj => ?_) (fun k l k1 kj => ?_)
    · rintro ⟨i', a, hi', rfl, rfl, hb⟩
      by_cases e : i' = i
      · subst e
        rw [upd_same, e4] at hb
        rcases hb with hb | ⟨hb, _⟩
        · exact .inl ⟨i', a, hi', rfl, rfl, hb⟩
        · exact .inr fun p b hb' e' => by have := hseen.low hb' e'; omega
      · rw [upd_ne X _ e] at hb
        exact .inl ⟨i', a, hi', rfl, rfl, hb⟩
    · rintro ⟨i', a, hi', rfl, rfl, hb⟩
      refine ⟨i', a, hi', rfl, rfl, ?_⟩
      by_cases e : i' = i
      · subst e; rw [upd_same, e4]; exact .inl hb
      · rw [upd_ne X _ e]; exact hb
    · constructor
      · rintro ⟨i', a, hi', rfl, rfl, hb, hs⟩
        refine ⟨i', a, hi', rfl, rfl, ?_⟩
        by_cases e : i' = i
        · subst e; rw [upd_same, e1] at hb; rw [upd_same, e2] at hs; exact ⟨hb, hs⟩
        · rw [upd_ne X _ e] at hb hs; exact ⟨hb, hs⟩
      · rintro ⟨i', a, hi', rfl, rfl, hb, hs⟩
        refine ⟨i', a, hi', rfl, rfl, ?_⟩
        by_cases e : i' = i
        · subst e; rw [upd_same, e1, e2]; exact ⟨hb, hs⟩
        · rw [upd_ne X _ e]; exact ⟨hb, hs⟩
  · by_cases e : i' = i
    · subst e; rw [upd_same]; exact hdeaf
    · rw [Deaf_other t (by omega) _ hug, h.deafW i' hi', upd_ne D _ e]
  · by_cases e : i' = i
    · subst e; rw [upd_same] at hst; exact hrel hst
    · rw [upd_ne D _ e] at hst
      exact (h.rel i' hi' hst).other hug (by omega)
/-- a step of the starter -/
theorem KCom.step0 (h : KCom P ty Wg Ch n Low0 M val box j gs w t D X S0 d0) {d' : Nat}
    (hsz : gs'.size = gs.size) (hoth : ∀ (k : Nat) (y : Goroutine), k ≠ 0 → (y.status = .running ∨ y.status = .finished) → gs[k]? = some y → gs'[k]? = some y)
    (he : Eff (Part Wg Ch X S0 none) w w') (hl : WgLive ty Wg w') (hc : w'.heap[Ch]? = w.heap[Ch]?)
    (hu : ∀ op ∈ u, Ok0 (ShN Wg) (OwnX X j) (RdX X j) j op) (hnr : ∀ op ∈ u, op.act ≠ .mark (.release (stA Wg))) (hlow : Seen w.heap.size u) (hdeaf : Deaf (t ++ u) 0 = d') :
    KCom P ty Wg Ch n Low0 M val box j gs' w' (t ++ u) D X (more S0 w w') d' := by
  have hwho : ∀ k, (none : Option Nat) = some k → k < j := fun k e => by cases e
  have hug : ∀ op ∈ u, op.g = 0 := fun op hop => (hu op hop).1
  have hseen : Seen w.heap.size (t ++ u) := h.seen.app hlow
  refine ⟨by rw [hsz, h.size], fun i hi => ?_, h.fam.own he.size, h.ct.app0 h.fam.apartX hu, hseen.mono he.size, h.norel.app hnr, hdeaf, fun i hi => by rw [Deaf_other t (by omega) _ hug, h.deafW i hi], fun i hi hst => (h.rel i hi hst).other hug (by omega), h.chan.eff hc⟩
  obtain ⟨y, hy, hsy⟩ := h.wk i hi
  exact ⟨y, hoth _ y (by omega) hsy.status hy, hsy.rely (h.fam.pre hwho he hi (by simp)) (h.fam.tail hwho he hl hi (by simp))⟩
/-- the go statement -/
theorem KCom.spawn (h : KCom P ty Wg Ch n Low0 M val box j gs w t D X S0 0) {a' child : Goroutine} {x y : MemOp} {m bd : Nat} (hx : x.g = 0 ∧ x.act = .go (j + 1)) (hy : y.g = j + 1 ∧ y.act = .start) (hbd : S0 bd)
    (hc : Trek P false (RH w.heap.size (shN Wg Ch j X) NoLv) (DH w.heap.size (shN Wg Ch j X)) (AtSnd P Ch (.int .i64 (val j : Nat)) (NextT P ty Wg M (box j) bd)) m (fun _ => False) child w) :
    KCom P ty Wg Ch n Low0 M val box (j + 1) ((gs.setIfInBounds 0 a').push child) w (t ++ #[x, y]) (upd D j ⟨7, m + M + 1, 0⟩) (upd X j (gwN Wg Ch j X w.heap.size bd)) (fun _ => False) 0 := by
  have hm : ∀ op ∈ #[x, y], op = x ∨ op = y := by intro op hop; simpa using hop
  have hst : ∀ op ∈ #[x, y], op.act ≠ .mark .disable ∧ op.act ≠ .mark .enable := by
    intro op hop
    rcases hm op hop with rfl | rfl
    · rw [hx.2]; exact ⟨by simp, by simp⟩
    · rw [hy.2]; exact ⟨by simp, by simp⟩
  have old : ∀ i, i < j → upd X j (gwN Wg Ch j X w.heap.size bd) i = X i := fun i hi => upd_ne X _ (by omega)
  have hF := h.fam.fork hbd
  have hc2 : CT (ShN Wg) (OwnX (upd X j (gwN Wg Ch j X w.heap.size bd)) (j + 1)) (RdX (upd X j (gwN Wg Ch j X w.heap.size bd)) (j + 1)) t j := by
    refine CT.fam h.ct (fun k l k1 kj => ?_) (fun k l k1 kj => ?_) (fun k l k1 kj => ?_)
    · rintro ⟨i, a, hi, rfl, rfl, hb⟩
      rw [old i (by omega)] at hb
      exact .inl ⟨i, a, by omega, rfl, rfl, hb⟩
    · rintro ⟨i, a, hi, rfl, rfl, hb⟩
      exact ⟨i, a, by omega, rfl, rfl, by rw [old i hi]; exact hb⟩
    · constructor
      · rintro ⟨i, a, hi, rfl, rfl, hb⟩
        rw [old i (by omega)] at hb
        exact ⟨i, a, by omega, rfl, rfl, hb⟩
      · rintro ⟨i, a, hi, rfl, rfl, hb⟩
        exact ⟨i, a, by omega, rfl, rfl, by rw [old i hi]; exact hb⟩
  have es1 : sentN (j + 1) (upd X j (gwN Wg Ch j X w.heap.size bd)) = sentN j X := by
    simp only [sentN, sumTo, upd_same]
    rw [sumTo_congr (g := fun i => if (X i).sent then 1 else 0) fun i hi => by rw [old i hi]]
    simp [gwN]
  have es2 : sentV val (j + 1) (upd X j (gwN Wg Ch j X w.heap.size bd)) = sentV val j X := by
    simp only [sentV, sumTo, upd_same]
    rw [sumTo_congr (g := fun i => if (X i).sent then val i else 0) fun i hi => by rw [old i hi]]
    simp [gwN]
  refine ⟨by simp [h.size], fun i hi => ?_, hF, hc2.fork hF.apartX hx hy h.deaf0, h.seen.app (Seen.none fun op hop => ?_), h.norel.app fun op hop => ?_, by rw [Deaf_still t 0 _ hst, h.deaf0], fun i hi => ?_, fun i hi hs => ?_, by rw [es1, es2]; exact h.chan⟩
  · rcases Nat.lt_or_ge i j with hlt | hge
    · obtain ⟨g, hg, hsg⟩ := h.wk i hlt
      refine ⟨g, ?_, by rw [upd_ne D _ (by omega), upd_ne X _ (by omega)]; exact hsg⟩
      rw [Array.getElem?_push_lt (by simp [h.size]; omega), ← Array.getElem?_eq_getElem, Array.getElem?_setIfInBounds_ne (by omega)]
      exact hg
    · obtain rfl : i = j := by omega
      refine ⟨child, ?_, by rw [upd_same, upd_same]; exact .pre rfl hc⟩
      have : ((gs.setIfInBounds 0 a').push child).size = i + 1 + 1 := by simp [h.size]
      rw [show i + 1 = (gs.setIfInBounds 0 a').size by simp [h.size], Array.getElem?_push_size]
  · rcases hm op hop with rfl | rfl
    · rw [hx.2]; rfl
    · rw [hy.2]; rfl
  · rcases hm op hop with rfl | rfl
    · rw [hx.2]; simp
    · rw [hy.2]; simp
  · rw [Deaf_still t _ _ hst]
    rcases Nat.lt_or_ge i j with hlt | hge
    · rw [h.deafW i hlt, upd_ne D _ (by omega)]
    · obtain rfl : i = j := by omega
      rw [upd_same]
      exact Deaf_absent fun a op ha e => by have := h.ct.gs a op ha; omega
  · rcases Nat.lt_or_ge i j with hlt | hge
    · rw [upd_ne D _ (by omega)] at hs
      refine (h.rel i hlt hs).not fun op hop => ?_
      rcases hm op hop with rfl | rfl
      · rw [hx.1]; omega
      · rw [hy.1]; omega
    · obtain rfl : i = j := by omega
      rw [upd_same] at hs
      simp at hs
end
end Go.Proofs.YtmphfdibijbjeaaDoor
