/- Behind the join: goroutine 0 walks on beside others that only leave; it may receive from its channel; to the return. Nothing of one program. -/
import Derived.Test.YtmphfdibijbjeaaDoorHR
namespace Go.Proofs.YtmphfdibijbjeaaDoor
open Go.Conc Go.ConcN
open Go.ConcR (KK wgBlock WgAt stA smA rd wr mk Payload Aside2 DC0 Bk g_of_ofEvents)
set_option linter.unusedSimpArgs false
set_option linter.unusedVariables false
set_option maxRecDepth 100000
set_option linter.unusedSectionVars false
/-- what goroutine 0 may list behind the join -/
def EvP (Wg : Nat) (e : Event) : Prop := (∀ x, (MemAct.ofEvent e).touch? = some x → ShN Wg x.loc → x.kind ≠ .plain) ∧ e.loc ≠ .mark .disable ∧ e.loc ≠ .mark .enable
section
variable {Wg : Nat} {t u : Trace}
theorem PastG.app0 (h : PastG Wg t) (hu : ∀ op ∈ u, op.g = 0) (hs : ∀ op ∈ u, ∀ b, op.act.touch? = some b → ShN Wg b.loc → b.kind ≠ .plain) (hd : Deaf (t ++ u) 0 = Deaf t 0) : PastG Wg (t ++ u) := by
  refine ⟨fun said => noRace_append (h.clean said) hu fun i a ha op hop b hb hc => ?_, fun i a ha hm => ?_, handedOver_app h.over fun op hop => .inl (hu op hop), hd.trans h.hears⟩
  · rcases h.known i a ha hc.2.1 with hk | ⟨hsa, hka⟩
    · exact hk
    · have hkb := hs op hop b hb (hc.1 ▸ hsa)
      obtain ⟨_, _, _, hcase⟩ := hc
      rw [hka] at hcase
      rcases hcase with x | x | ⟨_, x, _⟩
      · cases x
      · exact absurd x hkb
      · cases x
  · obtain ⟨x, hx, hxa⟩ := touch_of ha
    rcases getElem?_append_cases hx with ⟨_, hx'⟩ | ⟨_, hxu⟩
    · exact (h.known i a (by rw [touchAt_of hx']; exact hxa) hm).imp (·.app u) id
    · have := knows_own hx
      rw [hu x hxu] at this
      exact .inl this
theorem PastG.appMute {g : Nat} (h : PastG Wg t) (hg : g ≠ 0) (hu : ∀ op ∈ u, op.g = g) (hn : ∀ op ∈ u, op.act.touch? = none) : PastG Wg (t ++ u) := by
  refine ⟨fun said => noRace_append (h.clean said) hu fun i a _ op hop b hb _ => (by rw [hn op hop] at hb; cases hb), fun i a ha hm => ?_, handedOver_app h.over fun op hop => .inr (hn op hop), (Deaf_other t hg u hu).trans h.hears⟩
  obtain ⟨x, hx, hxa⟩ := touch_of ha
  rcases getElem?_append_cases hx with ⟨_, hx'⟩ | ⟨_, hxu⟩
  · exact (h.known i a (by rw [touchAt_of hx']; exact hxa) hm).imp (·.app u) id
  · rw [hn x hxu] at hxa; cases hxa
theorem PastG.own (h : PastG Wg t) {fn : FuncId} {pos : String} {es : Array Event} (hes : ∀ e ∈ es, EvP Wg e) : PastG Wg (t ++ MemOp.ofEvents 0 fn pos es) := by
  refine h.app0 (fun op hop => by obtain ⟨e, _, rfl⟩ := Go.Conc.mem_ofEvents hop; rfl) (fun op hop b hb => by obtain ⟨e, he, rfl⟩ := Go.Conc.mem_ofEvents hop; exact (hes e he).1 b hb) ?_
  rw [Deaf_own]
  exact deafBehind_still (fun e he => ⟨(hes e he).2.1, (hes e he).2.2⟩) _
theorem PastG.mute (h : PastG Wg t) {g : Nat} (hg : g ≠ 0) {fn : FuncId} {pos : String} {es : Array Event} (hm : ∀ e ∈ es, e.mute = true) : PastG Wg (t ++ MemOp.ofEvents g fn pos es) :=
  h.appMute hg (fun op hop => by obtain ⟨e, _, rfl⟩ := Go.Conc.mem_ofEvents hop; rfl) (fun op hop => by obtain ⟨e, he, rfl⟩ := Go.Conc.mem_ofEvents hop; exact touch_mute (hm e he))
/-- a communication's words -/
theorem PastG.said (h : PastG Wg t) (hu : ∀ op ∈ u, op.g = 0) (hn : ∀ op ∈ u, op.act.touch? = none) (hm : ∀ op ∈ u, op.act ≠ .mark .disable ∧ op.act ≠ .mark .enable) : PastG Wg (t ++ u) :=
  h.app0 hu (fun op hop b hb => by rw [hn op hop] at hb; cases hb) (Deaf_still t 0 u hm)
end
section
variable (P : Program) (Wg : Nat) (Post : Value → World → Prop)
/-- within n steps of its own goroutine 0 returns -/
def FinG : Nat → Goroutine → World → Prop
  | 0, _, _ => False
  | n + 1, g, w => g.status = .running ∧ ∀ d,
      (∃ v es, stepG P true g (w.at d) = .ended (.done v) (w.at d) es ∧ (∀ e ∈ es, EvP Wg e) ∧ Post v (w.at d)) ∨
      (∃ g' w' es, stepG P true g (w.at d) = .go g' w' es ∧ (∀ e ∈ es, EvP Wg e) ∧ FinG n g' w') ∨
      (∃ g₂ c z f cap v buf s r, stepG P true g (w.at d) = .comm g₂ #[rcase c z] true (.recv f) (w.at d) #[] ∧ w.heap[c]? = some (.chan cap ((v :: buf : List Value).toArray) true s r false) ∧
        FinG n (Go.Conc.served g₂ (recvd f v true)) ((w.at d).setChan c cap buf.toArray true s (r + 1) false)) ∨
      (∃ g₂ c z f cap s r, stepG P true g (w.at d) = .comm g₂ #[rcase c z] true (.recv f) (w.at d) #[] ∧ w.heap[c]? = some (.chan cap #[] true s r false) ∧ FinG n (Go.Conc.served g₂ (recvd f z false)) (w.at d))
def PInv (μ : Nat) (m : Machine) (t : Trace) : Prop :=
  ∃ (gs : Array Goroutine) (a : Goroutine) (w : World) (sl : Option (Nat × Nat)) (q : Nat → Nat) (n : Nat),
    m = crowd gs w sl ∧ gs[0]? = some a ∧ Leavers P t gs q ∧ PastG Wg t ∧ FinG P Wg Post n a w ∧ μ = n + sumTo gs.size q
end
section
variable {P : Program} {Wg : Nat} {Post : Value → World → Prop}
theorem FinG.at {n : Nat} {g : Goroutine} {w : World} (h : FinG P Wg Post n g w) (d : Nat) : FinG P Wg Post n g (w.at d) := by
  cases n with
  | zero => exact h
  | succ n => exact ⟨h.1, fun d' => h.2 d'⟩
theorem FinG.more : ∀ {n : Nat} {g : Goroutine} {w : World}, FinG P Wg Post n g w → FinG P Wg Post (n + 1) g w
  | 0, g, w, h => h.elim
  | n + 1, g, w, h => by
    refine ⟨h.1, fun d => ?_⟩
    rcases h.2 d with x | ⟨g', w', es, h1, h2, h3⟩ | ⟨g₂, c, z, f, cap, v, buf, s, r, h1, h2, h3⟩ | ⟨g₂, c, z, f, cap, s, r, h1, h2, h3⟩
    · exact .inl x
    · exact .inr (.inl ⟨g', w', es, h1, h2, FinG.more h3⟩)
    · exact .inr (.inr (.inl ⟨g₂, c, z, f, cap, v, buf, s, r, h1, h2, FinG.more h3⟩))
    · exact .inr (.inr (.inr ⟨g₂, c, z, f, cap, s, r, h1, h2, FinG.more h3⟩))
theorem FinG.mono {n n' : Nat} {g : Goroutine} {w : World} (h : FinG P Wg Post n g w) (hn : n ≤ n') : FinG P Wg Post n' g w := by
  induction hn with
  | refl => exact h
  | step _ ih => exact ih.more
/-- a walk whose stop goes on so -/
theorem FinG.goes {R : World → World → Prop} {D : World → World → Array Event → Prop} {Stop : Goroutine → World → Prop} {m : Nat} (hR : ∀ w d, R w (w.at d)) (hD : ∀ w w' es, D w w' es → ∀ e ∈ es, EvP Wg e) (hS : ∀ g w, Stop g w → FinG P Wg Post m g w) :
    ∀ {n : Nat} {g : Goroutine} {w : World}, Goes P true R D Stop n g w → FinG P Wg Post (m + n) g w
  | 0, g, w, h => hS _ _ (h w (hR w w.drawn))
  | n + 1, g, w, h => by
    rcases h with h | ⟨hs, h⟩
    · exact (hS _ _ (h w (hR w w.drawn))).mono (by omega)
    · refine ⟨hs, fun d => ?_⟩
      have h2 := h (w.at d) (hR w d)
      revert h2
      cases hg : stepG P true g (w.at d) <;> simp only [GStep.goes, false_implies]
      rintro ⟨hd, hk⟩
      exact .inr (.inl ⟨_, _, _, rfl, hD _ _ _ hd, FinG.goes hR hD hS hk⟩)
theorem FinG.goesJ {R : World → World → Prop} {D : World → World → Array Event → Prop} {Stop : Goroutine → World → Prop} {J : World → Prop} {m : Nat} (hJ : ∀ w d, J w → J (w.at d)) (hDJ : ∀ w w' es, D w w' es → J w → J w') (hR : ∀ w d, R w (w.at d)) (hD : ∀ w w' es, D w w' es → ∀ e ∈ es, EvP Wg e) (hS : ∀ g w, Stop g w → J w → FinG P Wg Post m g w) :
    ∀ {n : Nat} {g : Goroutine} {w : World}, Goes P true R D Stop n g w → J w → FinG P Wg Post (m + n) g w
  | 0, g, w, h, hj => hS _ _ (h w (hR w w.drawn)) hj
  | n + 1, g, w, h, hj => by
    rcases h with h | ⟨hs, h⟩
    · exact (hS _ _ (h w (hR w w.drawn)) hj).mono (by omega)
    · refine ⟨hs, fun d => ?_⟩
      have h2 := h (w.at d) (hR w d)
      revert h2
      cases hg : stepG P true g (w.at d) <;> simp only [GStep.goes, false_implies]
      rintro ⟨hd, hk⟩
      exact .inr (.inl ⟨_, _, _, rfl, hD _ _ _ hd, FinG.goesJ hJ hDJ hR hD hS hk (hDJ _ _ _ hd (hJ w d hj))⟩)
theorem FinG.trek {R : Bag → World → World → Prop} {D : Bag → World → World → Array Event → Prop} {Stop : Bag → Goroutine → World → Prop} {m : Nat} (hR : ∀ S w d, R S w (w.at d)) (hD : ∀ S w w' es, D S w w' es → ∀ e ∈ es, EvP Wg e) (hS : ∀ S g w, Stop S g w → FinG P Wg Post m g w) :
    ∀ {n : Nat} {S : Bag} {g : Goroutine} {w : World}, Trek P true R D Stop n S g w → FinG P Wg Post (m + n) g w
  | 0, S, g, w, h => hS _ _ _ (h w (hR S w w.drawn))
  | n + 1, S, g, w, h => by
    rcases h with h | ⟨hs, h⟩
    · exact (hS _ _ _ (h w (hR S w w.drawn))).mono (by omega)
    · refine ⟨hs, fun d => ?_⟩
      have h2 := h (w.at d) (hR S w d)
      revert h2
      cases hg : stepG P true g (w.at d) <;> simp only [GStep.goes, false_implies]
      rintro ⟨hd, hk⟩
      exact .inr (.inl ⟨_, _, _, rfl, hD _ _ _ _ hd, FinG.trek hR hD hS hk⟩)
theorem Leavers.keep {gs gs' : Array Goroutine} {t u : Trace} {q : Nat → Nat} (hL : Leavers P t gs q) (h0 : 0 < gs.size) (hsz : gs'.size = gs.size) (hoth : ∀ (k : Nat) (y : Goroutine), k ≠ 0 → (y.status = .running ∨ y.status = .finished) → gs[k]? = some y → gs'[k]? = some y) (hu : ∀ op ∈ u, op.g = 0) : Leavers P (t ++ u) gs' q := by
  refine ⟨fun j x hj hx => ?_, fun j hj => ?_⟩
  · have hlt : j < gs.size := by have := (Array.getElem?_eq_some_iff.1 hx).1; omega
    have hq := hL.old j _ hj (Array.getElem?_eq_getElem hlt)
    have hy := hoth j _ (by omega) hq.status (Array.getElem?_eq_getElem hlt)
    rw [hy] at hx
    cases hx
    rw [Deaf_other t (g' := 0) (by omega) _ hu]
    exact hq
  · rw [Deaf_other t (g' := 0) (by omega) _ hu]
    exact hL.above j (by omega)
theorem p_step (μ : Nat) (m : Machine) (t : Trace) (h : PInv P Wg Post μ m t) :
    (∃ o w ops, stepT P m = (.ended o w, ops) ∧ Good P Post m o w (t ++ ops)) ∨ (∃ m' ops μ', stepT P m = (.next m', ops) ∧ μ' < μ ∧ PInv P Wg Post μ' m' (t ++ ops)) := by
  obtain ⟨gs, a, w, sl, q, n, rfl, h0, hL, hP, hG, rfl⟩ := h
  obtain ⟨n, rfl⟩ : ∃ k, n = k + 1 := by cases n with
    | zero => exact hG.elim
    | succ k => exact ⟨k, rfl⟩
  have hrun : a.status = .running := hG.1
  have hpos : 0 < gs.size := (Array.getElem?_eq_some_iff.1 h0).1
  have haw : ∀ g ∈ gs, awake g := by
    intro g hg
    obtain ⟨i, hi, rfl⟩ := Array.mem_iff_getElem.1 hg
    rcases Nat.eq_zero_or_pos i with rfl | hpos
    · have : gs[0] = a := by simpa [Array.getElem?_eq_getElem hi] using h0
      rw [this]; exact awake_of (.inl hrun)
    · exact awake_of ((hL.old i _ hpos (Array.getElem?_eq_getElem hi)).status.elim .inl fun x => .inr (.inr x))
  have nobody : ∀ c, partners (gs.setIfInBounds 0 ph) c true = [] := fun c => by
    refine partners_nil fun k y hy => ?_
    rcases getElem?_stand gs 0 k y hy with ⟨_, rfl⟩ | ⟨hk, hy'⟩
    · rfl
    · rcases (hL.old k y (by omega) hy').status with h1 | h1
      · exact offersAt_of_not_blocked (by rw [h1]; simp) _ _
      · exact offersAt_of_not_blocked (by rw [h1]; simp) _ _
  obtain ⟨i, g, d, sl', hi, hg, hst⟩ := crowd_pick (P := P) (w := w) (sl := sl) haw ⟨0, a, h0, hrun⟩
  rcases Nat.eq_zero_or_pos i with rfl | hpi
  · obtain rfl : g = a := by rw [h0] at hi; exact (Option.some.inj hi).symm
    rcases hG.2 d with ⟨v, es, hend, hes, hpost⟩ | ⟨g', w', es, hgo, hes, hk⟩ | ⟨g₂, c, z, f, cap, v, buf, s, r, hgo, hch, hk⟩ | ⟨g₂, c, z, f, cap, s, r, hgo, hch, hk⟩
    · -- the return
      have hrunT := runT_many_ended (P := P) (sl := sl') (i := 0) hi (show stepG P (0 == 0) g (w.at d) = _ from hend)
      have hP' := hP.own (fn := g.frame.fn) (pos := g.frame.place) hes
      refine .inl ⟨_, _, _, hst.trans hrunT, v, rfl, hpost, hP'.clean, hP'.over, ⟨fun x hx => ?_, rfl⟩, fun j x hx hj => ?_⟩
      · obtain ⟨j, hj⟩ := List.mem_iff_getElem?.1 hx
        rw [List.getElem?_drop] at hj
        exact ⟨_, (hL.old (1 + j) x (by omega) (by simpa [crowd] using hj)).leaves⟩
      · have hq := hL.old j x (by omega) hx
        refine ⟨q j, ?_⟩
        have e : (t ++ MemOp.ofEvents 0 g.frame.fn g.frame.place es).deaf j (t ++ MemOp.ofEvents 0 g.frame.fn g.frame.place es).size = Deaf t j :=
          Deaf_other t (g := j) (g' := 0) (by omega) _ (fun op hop => by obtain ⟨e, _, rfl⟩ := Go.Conc.mem_ofEvents hop; rfl)
        rw [e]
        exact hq.hears _
    · have hrunT := runT_crowd_go (P := P) (sl := sl') (i := 0) hi (show stepG P (0 == 0) g (w.at d) = _ from hgo)
      refine .inr ⟨_, _, n + sumTo gs.size q, hst.trans hrunT, by omega, _, g', w', sl', q, n, rfl, by simp [hpos], ?_, hP.own hes, hk, by simp⟩
      exact Leavers.keep hL hpos (by simp) (map_keeps fun y hy => woken_keeps _ _ _ y hy) (fun op hop => by obtain ⟨e, _, rfl⟩ := Go.Conc.mem_ofEvents hop; rfl)
    · have hrunT := crowd_recv_buf (P := P) (sl := sl') (i := 0) (w := w.at d) (w₁ := w.at d) hi (show stepG P (0 == 0) g (w.at d) = _ from hgo) (show (w.at d).heap[c]? = _ from hch) (by simp) (nobody c)
      rw [finishComm_recv] at hrunT
      have e1 : ((v :: buf : List Value).toArray).getD 0 undef = v := by simp
      have e2 : ((v :: buf : List Value).toArray).extract 1 ((v :: buf : List Value).toArray).size = buf.toArray := by simp
      rw [e1, e2] at hrunT
      generalize hu : (MemOp.ofEvents 0 g.frame.fn g.frame.place #[] ++ #[{ g := 0, fn := g₂.frame.fn, pos := g₂.frame.place, act := MemAct.recv c r cap }, { g := 0, fn := g₂.frame.fn, pos := g₂.frame.place, act := MemAct.recvDone c r }] : Trace) = u at hrunT
      have hu2 : ∀ op ∈ u, op.g = 0 ∧ (op.act = .recv c r cap ∨ op.act = .recvDone c r) := by
        intro op hop
        rw [← hu, ofEvents_eq] at hop
        simp at hop
        rcases hop with rfl | rfl
        · exact ⟨rfl, .inl rfl⟩
        · exact ⟨rfl, .inr rfl⟩
      refine .inr ⟨_, _, n + sumTo gs.size q, hst.trans hrunT, by omega, _, _, _, sl', q, n, rfl, by simp [hpos], ?_, hP.said (fun op hop => (hu2 op hop).1) (fun op hop => by rcases (hu2 op hop).2 with e | e <;> rw [e] <;> rfl) (fun op hop => by rcases (hu2 op hop).2 with e | e <;> rw [e] <;> simp), hk, by simp⟩
      exact Leavers.keep hL hpos (by simp) (fun k y hk _ hy => by rw [Array.getElem?_setIfInBounds_ne (Ne.symm hk)]; exact hy) (fun op hop => (hu2 op hop).1)
    · have hrunT := crowd_recv_closed (P := P) (sl := sl') (i := 0) (w := w.at d) (w₁ := w.at d) hi (show stepG P (0 == 0) g (w.at d) = _ from hgo) (show (w.at d).heap[c]? = _ from hch) (nobody c)
      rw [finishComm_recv] at hrunT
      generalize hu : (MemOp.ofEvents 0 g.frame.fn g.frame.place #[] ++ #[{ g := 0, fn := g₂.frame.fn, pos := g₂.frame.place, act := MemAct.recvClosed c }] : Trace) = u at hrunT
      have hu2 : ∀ op ∈ u, op.g = 0 ∧ op.act = .recvClosed c := by
        intro op hop
        rw [← hu, ofEvents_eq] at hop
        simp at hop
        subst hop
        exact ⟨rfl, rfl⟩
      refine .inr ⟨_, _, n + sumTo gs.size q, hst.trans hrunT, by omega, _, _, _, sl', q, n, rfl, by simp [hpos], ?_, hP.said (fun op hop => (hu2 op hop).1) (fun op hop => by rw [(hu2 op hop).2]; rfl) (fun op hop => by rw [(hu2 op hop).2]; simp), hk, by simp⟩
      exact Leavers.keep hL hpos (by simp) (fun k y hk _ hy => by rw [Array.getElem?_setIfInBounds_ne (Ne.symm hk)]; exact hy) (fun op hop => (hu2 op hop).1)
  · -- one that leaves
    have hq := hL.old i g hpi hi
    have hi0 : (i == 0) = false := by simp; omega
    have hlt : i < gs.size := (Array.getElem?_eq_some_iff.1 hi).1
    cases hqi : q i with
    | zero => rw [hqi] at hq; rw [hq.1] at hg; cases hg
    | succ k =>
      rw [hqi] at hq
      rcases hq with ⟨hf, _⟩ | ⟨_, g', es, hm, hstp, hq'⟩
      · rw [hf] at hg; cases hg
      have hrunT := runT_crowd_go (P := P) (sl := sl') (i := i) hi (by rw [hi0]; exact hstp (w.at d))
      have hsz : ((gs.map (woken P g g' (w.at d))).setIfInBounds i g').size = gs.size := by simp
      have hsum : sumTo gs.size (upd q i k) + (k + 1) = sumTo gs.size q + k := by
        have := sumTo_upd q k id hlt
        simpa [hqi] using this
      refine .inr ⟨_, _, (n + 1) + sumTo gs.size (upd q i k), hst.trans hrunT, by omega, _, a, w.at d, sl', upd q i k, n + 1, rfl, ?_, ⟨fun j x hj hx => ?_, fun j hj => by
        rw [Deaf_other t (g' := i) (by simp at hj; omega) _ (fun op hop => by obtain ⟨e, _, rfl⟩ := Go.Conc.mem_ofEvents hop; rfl)]
        exact hL.above j (by simpa using hj)⟩, hP.mute (by omega) hm, hG.at d, by rw [hsz]⟩
      · have hne : i ≠ 0 := by omega
        rw [Array.getElem?_setIfInBounds_ne hne, Array.getElem?_map, h0]
        simp [woken_run hrun]
      · by_cases hji : i = j
        · subst hji
          rw [Array.getElem?_setIfInBounds_self_of_lt (by simpa using hlt)] at hx
          obtain rfl := Option.some.inj hx
          rw [upd_same, Deaf_own]
          exact hq'
        · rw [Array.getElem?_setIfInBounds_ne hji, Array.getElem?_map] at hx
          obtain ⟨y, hy, rfl⟩ := Option.map_eq_some_iff.1 hx
          have hqj := hL.old j y hj hy
          rw [woken_quitsD hqj, upd_ne q k (Ne.symm hji), Deaf_other t hji _ (fun op hop => by obtain ⟨e, _, rfl⟩ := Go.Conc.mem_ofEvents hop; rfl)]
          exact hqj
/-- the run ends, and all is well -/
theorem p_ends {gs : Array Goroutine} {a : Goroutine} {w : World} {sl : Option (Nat × Nat)} {t : Trace} {q : Nat → Nat} {n : Nat} (h0 : gs[0]? = some a) (hL : Leavers P t gs q) (hP : PastG Wg t) (hG : FinG P Wg Post n a w) :
    ∃ N last o w' t', runNT P (N + 1) (crowd gs w sl) t = (.ended o w', t') ∧ runN P N (crowd gs w sl) = .next last ∧ step P last = .ended o w' ∧ Good P Post last o w' t' :=
  run_of_inv Nat.lt_wfRel.wf (PInv P Wg Post) (Good P Post) p_step _ _ _ ⟨gs, a, w, sl, q, n, rfl, h0, hL, hP, hG, rfl⟩
end
end Go.Proofs.YtmphfdibijbjeaaDoor
