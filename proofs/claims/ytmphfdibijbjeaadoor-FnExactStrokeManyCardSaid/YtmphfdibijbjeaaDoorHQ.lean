/- Workers that make memory: a worker's step keeps the invariant and lowers the measure. Nothing of one program. -/
import Derived.Test.YtmphfdibijbjeaaDoorHP
namespace Go.Proofs.YtmphfdibijbjeaaDoor
open Go.Conc Go.ConcN
open Go.ConcR (KK wgBlock WgAt stA smA rd wr mk Payload Aside2 DC0 Bk g_of_ofEvents again_blocked loc_of_ofEvent bk_of_mute ofEvent_loc_mark)
set_option linter.unusedSimpArgs false
set_option linter.unusedVariables false
set_option maxRecDepth 100000
set_option linter.unusedSectionVars false
theorem map_keeps {gs : Array Goroutine} {f : Goroutine → Goroutine} {g' : Goroutine} {i : Nat} (hf : ∀ y, (y.status = .running ∨ y.status = .finished) → f y = y) :
    ∀ (k : Nat) (y : Goroutine), k ≠ i → (y.status = .running ∨ y.status = .finished) → gs[k]? = some y → ((gs.map f).setIfInBounds i g')[k]? = some y := by
  intro k y hk hy hg
  rw [get_map_set _ _ _ _ (Ne.symm hk), hg, Option.map_some, hf y hy]
theorem woken_keeps {P : Program} (g g' : Goroutine) (w : World) (y : Goroutine) (hy : y.status = .running ∨ y.status = .finished) : woken P g g' w y = y := by
  unfold Go.Conc.woken
  split
  · exact again_running _ hy
  · rfl
section
variable [Payload] (P : Program) (ty : TypeId) (Wg Ch n Low0 M : Nat) (val : Nat → Nat) (box : Nat → Value) (Anch Post : Bag → Goroutine → World → Prop)
def KInv (μ : Nat × Nat) (m : Machine) (t : Trace) : Prop :=
  ∃ (gs : Array Goroutine) (w : World) (sl : Option (Nat × Nat)) (j : Nat) (D : Nat → WD) (X : Nat → GW) (S0 : Bag) (tag : CTag) (f0 : Nat) (a : Goroutine) (st sm : Int),
    m = crowd gs w sl ∧ gs[0]? = some a ∧ TSit P ty Wg Ch n Low0 M val box Anch Post tag j f0 S0 a w ∧ KCom P ty Wg Ch n Low0 M val box j gs w t D X S0 (deafOf tag) ∧ WgAt ty Wg w st sm ∧ Go.ConcN.Mode j D tag st sm ∧
    μ = (phi n (Vc j D) tag + Ssum j D, f0 + 2 * Fsum j D)
end
section
variable [Payload] {P : Program} {ty : TypeId} {Wg Ch n Low0 M : Nat} {val : Nat → Nat} {box : Nat → Value} {Anch Post : Bag → Goroutine → World → Prop}
  {gs : Array Goroutine} {w w' : World} {sl : Option (Nat × Nat)} {j : Nat} {D : Nat → WD} {X : Nat → GW} {S0 : Bag} {tag : CTag} {f0 : Nat} {a : Goroutine} {t : Trace} {st sm : Int}
theorem lt_measure {p q a b a' b' : Nat} (h : a' < a ∨ (a' = a ∧ b' < b)) : Lt2 (a', b') (a, b) := by
  rcases h with h | ⟨rfl, h⟩
  · exact Prod.Lex.left _ _ h
  · exact Prod.Lex.right _ h
theorem chan_at (w : World) {c cap s r : Nat} {buf : Array Value} {cl tm : Bool} (h : c < w.heap.size) : (w.setChan c cap buf cl s r tm).heap[c]? = some (.chan cap buf cl s r tm) := by simp [World.setChan, h]
/-- whatever ordinary step of worker number i -/
theorem kGo (hAr : ∀ S g w, Anch S g w → g.status = .running) (ha : gs[0]? = some a) (hcs : TSit P ty Wg Ch n Low0 M val box Anch Post tag j f0 S0 a w)
    (hcom : KCom P ty Wg Ch n Low0 M val box j gs w t D X S0 (deafOf tag)) {i : Nat} (hi : i < j) {g g' : Goroutine} {es : Array Event} {s' m' dd' : Nat} {st' sm' : Int} {x' : GW} (hg : gs[i + 1]? = some g) (hgo : stepG P false g w = .go g' w' es)
    (he : Eff (Part Wg Ch X S0 (some i)) w w') (hc : w'.heap[Ch]? = w.heap[Ch]?)
    (e1 : x'.lw = (X i).lw) (e2 : x'.sh = (X i).sh) (e3 : x'.bd = (X i).bd) (e4 : x'.bag = more (X i).bag w w') (e5 : x'.sent = (X i).sent)
    (hs' : KSit P ty Wg Ch M x' (.int .i64 (val i : Nat)) (box i) s' m' dd' g' w')
    (hok : ∀ op ∈ MemOp.ofEvents (i + 1) g.frame.fn g.frame.place es, OkW (ShN Wg) (OwnX X j) (RdX X j) (i + 1) op) (hnr : ∀ op ∈ MemOp.ofEvents (i + 1) g.frame.fn g.frame.place es, op.act ≠ .mark (.release (stA Wg)))
    (hlow : Seen w.heap.size (MemOp.ofEvents (i + 1) g.frame.fn g.frame.place es)) (hdeaf : deafBehind (D i).deaf es = dd')
    (hrel : s' ≤ 6 → Rel2 Wg (t ++ MemOp.ofEvents (i + 1) g.frame.fn g.frame.place es) (i + 1)) (hwg : WgAt ty Wg w' st' sm')
    (hmode : ∀ tag', (tag' = tag ∨ (tag = .blk ∧ tag' = .w3)) → (mayWake P g = true → g'.status = .running → tag' ≠ .blk) → Go.ConcN.Mode j (upd D i ⟨s', m', dd'⟩) tag' st' sm')
    (hlt : (s' < (D i).stage ∧ cnt ⟨s', m', dd'⟩ ≤ cnt (D i)) ∨ (s' = (D i).stage ∧ m' < (D i).fuel)) :
    ∃ m₁ ops μ', runT P (crowd gs w sl) (i + 1) = (.next m₁, ops) ∧ Lt2 μ' (phi n (Vc j D) tag + Ssum j D, f0 + 2 * Fsum j D) ∧ KInv P ty Wg Ch n Low0 M val box Anch Post μ' m₁ (t ++ ops) := by
  have hl : WgLive ty Wg w' := ⟨_, _, hwg⟩
  have hrs : RSt ty Wg Ch Low0 S0 w w' := ⟨hcom.fam.start hi he hl, he.os, he.tape, he.output⟩
  obtain ⟨tag', f', hcs', hf', htag, hwk⟩ := hcs.wokenBy hAr hrs g g'
  have hrun := runT_crowd_go (P := P) (sl := sl) (i := i + 1) hg (by simpa using hgo)
  have q1 := sumTo_upd D (⟨s', m', dd'⟩ : WD) cnt hi
  have q2 := sumTo_upd D (⟨s', m', dd'⟩ : WD) WD.stage hi
  have q3 := sumTo_upd D (⟨s', m', dd'⟩ : WD) WD.fuel hi
  obtain ⟨es1, es2⟩ := sent_same (val := val) (X := X) hi e5
  have edeaf : deafOf tag' = deafOf tag := by
    rcases htag with rfl | ⟨rfl, rfl⟩
    · rfl
    · rfl
  have hC := hcom.stepW (gs' := (gs.map (woken P g g' w')).setIfInBounds (i + 1) g') (u := MemOp.ofEvents (i + 1) g.frame.fn g.frame.place es) hi (by simp) (get_map_set_same _ _ _ (by rw [hcom.size]; omega))
    (fun k y _ hk => map_keeps (fun y hy => woken_keeps _ _ _ y hy) k y hk) he hl e1 e2 e3 e4 hs' hok hnr hlow (by rw [Deaf_own, hcom.deafW i hi]; exact hdeaf) hrel (by rw [es1, es2]; exact hcom.chan.eff hc)
  rw [← edeaf] at hC
  refine ⟨_, _, (phi n (Vc j (upd D i ⟨s', m', dd'⟩)) tag' + Ssum j (upd D i ⟨s', m', dd'⟩), f' + 2 * Fsum j (upd D i ⟨s', m', dd'⟩)), hrun, ?_,
    _, w', sl, j, upd D i ⟨s', m', dd'⟩, upd X i x', S0, tag', f', woken P g g' w' a, st', sm', rfl, by rw [get_map_set _ _ _ _ (by omega), ha]; rfl, hcs', hC, hwg, hmode tag' htag hwk, rfl⟩
  rw [phi_retag n _ htag]
  refine lt_measure (p := 0) (q := 0) ?_
  simp only [Vc, Ssum, Fsum] at *
  rcases hlt with ⟨h1, h2⟩ | ⟨h1, h2⟩
  · have := phi_mono n (v' := sumTo j fun a => cnt (upd D i ⟨s', m', dd'⟩ a)) (v := sumTo j fun a => cnt (D a)) (by omega) tag
    exact .inl (by omega)
  · have ec : cnt (⟨s', m', dd'⟩ : WD) = cnt (D i) := by simp only [cnt, h1]
    have ev : (sumTo j fun a => cnt (upd D i ⟨s', m', dd'⟩ a)) = sumTo j fun a => cnt (D a) := by omega
    have es' : (sumTo j fun a => (upd D i ⟨s', m', dd'⟩ a).stage) = sumTo j fun a => (D a).stage := by omega
    rw [ev, es']
    exact .inr ⟨rfl, by omega⟩
/-- it sends -/
theorem kSend (hAr : ∀ S g w, Anch S g w → g.status = .running) (hjn : j ≤ n) (ha : gs[0]? = some a) (hcs : TSit P ty Wg Ch n Low0 M val box Anch Post tag j f0 S0 a w)
    (hcom : KCom P ty Wg Ch n Low0 M val box j gs w t D X S0 (deafOf tag)) (hwg : WgAt ty Wg w st sm) (hmode : Go.ConcN.Mode j D tag st sm) {i : Nat} (hi : i < j) {g : Goroutine} (hg : gs[i + 1]? = some g)
    (hd : D i = ⟨7, (D i).fuel, 0⟩) (hf : M < (D i).fuel) (hs0 : (X i).sent = false)
    (hst : AtSnd P Ch (.int .i64 (val i : Nat)) (NextT P ty Wg M (box i) (X i).bd) (X i).bag g w) :
    ∃ m₁ ops μ', runT P (crowd gs w sl) (i + 1) = (.next m₁, ops) ∧ Lt2 μ' (phi n (Vc j D) tag + Ssum j D, f0 + 2 * Fsum j D) ∧ KInv P ty Wg Ch n Low0 M val box Anch Post μ' m₁ (t ++ ops) := by
  obtain ⟨_, g₂, z, hgo, hhas, hnext⟩ := hst
  obtain ⟨l, s, hch, hlen, hsum⟩ := hcom.chan
  -- there is room
  have hroom : (l.map fun x => Value.int .i64 (x : Nat)).toArray.size < n := by
    have h0 : sentN j X < j := by
      have h1 : sentN j (upd X i { (X i) with sent := true }) = sentN j X + 1 := (sent_more (val := val) (x' := { (X i) with sent := true }) hi rfl hs0).1
      have h2 : sentN j (upd X i { (X i) with sent := true }) ≤ 1 * j := sumTo_le fun k _ => by split <;> omega
      omega
    simp [hlen]; omega
  -- nobody waits for it
  have hp : partners (gs.setIfInBounds (i + 1) ph) Ch false = [] := by
    refine partners_nil fun k y hy => ?_
    rcases getElem?_stand gs (i + 1) k y hy with ⟨_, rfl⟩ | ⟨_, hy'⟩
    · rfl
    · cases k with
      | zero =>
        rw [ha] at hy'
        cases hy'
        rcases hcs.status hAr with ⟨h1, _⟩ | ⟨h1, _, h2⟩
        · exact offersAt_of_not_blocked (by rw [h1]; simp) _ _
        · unfold offersAt; rw [h1, h2]
      | succ k =>
        have hk : k < j := by have := (Array.getElem?_eq_some_iff.1 hy').1; rw [hcom.size] at this; omega
        obtain ⟨y', hy2, hsy⟩ := hcom.wk k hk
        rw [hy'] at hy2
        cases hy2
        rcases hsy.status with h1 | h1
        · exact offersAt_of_not_blocked (by rw [h1]; simp) _ _
        · exact offersAt_of_not_blocked (by rw [h1]; simp) _ _
  have hCh : Ch < w.heap.size := (Array.getElem?_eq_some_iff.1 hch).1
  have hrun := crowd_send_room (P := P) (sl := sl) (i := i + 1) (blocking := true) (shape := .send) hg (by simpa using hgo) hch hroom hp
  rw [finishComm_send] at hrun
  generalize hw' : w.setChan Ch n ((l.map fun x => Value.int .i64 (x : Nat)).toArray.push (.int .i64 (val i : Nat))) false (s + 1) 0 false = w' at hrun
  have hblk : ∀ b, b ≠ Ch → w'.heap[b]? = w.heap[b]? := fun b hb => by
    rw [← hw']
    simp only [World.setChan]
    rw [Array.getElem?_setIfInBounds_ne (Ne.symm hb)]
  have hsz : w'.heap.size = w.heap.size := by rw [← hw']; simp [World.setChan]
  have he : Eff (Part Wg Ch X S0 (some i)) w w' := ⟨by omega, by rw [← hw']; rfl, by rw [← hw']; rfl, by rw [← hw']; rfl, fun b _ hn => hblk b fun e => hn (.inr (.inl e))⟩
  have hwg' : WgAt ty Wg w' st sm := (hblk Wg (Ne.symm hcom.fam.hCW)).trans hwg
  have hl : WgLive ty Wg w' := ⟨_, _, hwg'⟩
  have hbd := hcom.fam.bd i hi
  have hbne : (X i).bd ≠ Ch := by have := hcom.fam.hC; omega
  have hhas' : Has (X i).bd 0 (box i) w' := (cell_of_block (hblk _ hbne) 0).trans hhas
  obtain ⟨m, hm, hk⟩ := hnext w' hl hhas'
  have hrs : RSt ty Wg Ch Low0 S0 w w' := ⟨hcom.fam.start hi he hl, he.os, he.tape, he.output⟩
  have hcs' := hcs.rely hrs
  generalize hx : ({ (X i) with bag := more (X i).bag w w', sent := true } : GW) = x'
  have e1 : x'.lw = (X i).lw := by rw [← hx]
  have e2 : x'.sh = (X i).sh := by rw [← hx]
  have e3 : x'.bd = (X i).bd := by rw [← hx]
  have e4 : x'.bag = more (X i).bag w w' := by rw [← hx]
  have e5 : x'.sent = true := by rw [← hx]
  have hstage : (D i).stage = 7 := by rw [hd]
  have hdeaf : (D i).deaf = 0 := by rw [hd]
  have hsit : KSit P ty Wg Ch M x' (.int .i64 (val i : Nat)) (box i) 7 m 0 (Go.Conc.served g₂ undef) w' := by
    refine .tail e5 ?_
    rw [e3]
    exact .r0 hk
  generalize hu : (MemOp.ofEvents (i + 1) g.frame.fn g.frame.place #[] ++ #[{ g := i + 1, fn := g₂.frame.fn, pos := g₂.frame.place, act := MemAct.send Ch s }, { g := i + 1, fn := g₂.frame.fn, pos := g₂.frame.place, act := MemAct.sendDone Ch s }] : Trace) = u at hrun
  have hu2 : ∀ op ∈ u, op.g = i + 1 ∧ (op.act = .send Ch s ∨ op.act = .sendDone Ch s) := by
    intro op hop
    rw [← hu, ofEvents_eq] at hop
    simp at hop
    rcases hop with rfl | rfl
    · exact ⟨rfl, .inl rfl⟩
    · exact ⟨rfl, .inr rfl⟩
  have hnt : ∀ op ∈ u, op.act.touch? = none := fun op hop => by
    rcases (hu2 op hop).2 with e | e <;> rw [e] <;> rfl
  obtain ⟨es1, es2⟩ := sent_more (val := val) (x' := x') hi e5 hs0
  have hC := hcom.stepW (gs' := gs.setIfInBounds (i + 1) (Go.Conc.served g₂ undef)) (u := u) (dd' := 0) (m' := m) (s' := 7) hi (by simp) (by rw [Array.getElem?_setIfInBounds_self_of_lt]; rw [hcom.size]; omega)
    (fun k y _ hk _ hy => by rw [Array.getElem?_setIfInBounds_ne (Ne.symm hk)]; exact hy) he hl e1 e2 e3 e4 hsit
    (fun op hop => ⟨(hu2 op hop).1, fun x hx => by rw [hnt op hop] at hx; cases hx⟩) (fun op hop => by rcases (hu2 op hop).2 with e | e <;> rw [e] <;> simp) (Seen.none hnt)
    (by rw [Deaf_still t _ u fun op hop => by rcases (hu2 op hop).2 with e | e <;> rw [e] <;> simp]; rw [hcom.deafW i hi, hdeaf]) (fun h => by omega)
    (by
      rw [es1, es2]
      refine ⟨l ++ [val i], s + 1, ?_, by simp [hlen], by simp [hsum]⟩
      rw [← hw', chan_at _ hCh]
      simp)
  have hmode' : Go.ConcN.Mode j (upd D i ⟨7, m, 0⟩) tag st sm := by
    have := hmode.same (i := i) m 0
    rwa [hstage] at this
  have q1 := sumTo_upd D (⟨7, m, 0⟩ : WD) cnt hi
  have q2 := sumTo_upd D (⟨7, m, 0⟩ : WD) WD.stage hi
  have q3 := sumTo_upd D (⟨7, m, 0⟩ : WD) WD.fuel hi
  have ec : cnt (⟨7, m, 0⟩ : WD) = cnt (D i) := by simp only [cnt, hstage]
  refine ⟨_, _, (phi n (Vc j (upd D i ⟨7, m, 0⟩)) tag + Ssum j (upd D i ⟨7, m, 0⟩), f0 + 2 * Fsum j (upd D i ⟨7, m, 0⟩)), hrun, ?_,
    _, w', sl, j, upd D i ⟨7, m, 0⟩, upd X i x', S0, tag, f0, a, st, sm, rfl, by rw [Array.getElem?_setIfInBounds_ne (by omega)]; exact ha, hcs', hC, hwg', hmode', rfl⟩
  refine lt_measure (p := 0) (q := 0) (.inr ?_)
  simp only [Vc, Ssum, Fsum] at *
  have ev : (sumTo j fun a => cnt (upd D i ⟨7, m, 0⟩ a)) = sumTo j fun a => cnt (D a) := by omega
  have es' : (sumTo j fun a => (upd D i ⟨7, m, 0⟩ a).stage) = sumTo j fun a => (D a).stage := by omega
  rw [ev, es']
  exact ⟨rfl, by omega⟩
set_option maxHeartbeats 1600000 in
theorem kWorker (hAr : ∀ S g w, Anch S g w → g.status = .running) (hn : n < 2147483648) (ha : gs[0]? = some a) (hcs : TSit P ty Wg Ch n Low0 M val box Anch Post tag j f0 S0 a w)
    (hcom : KCom P ty Wg Ch n Low0 M val box j gs w t D X S0 (deafOf tag)) (hwg : WgAt ty Wg w st sm) (hmode : Go.ConcN.Mode j D tag st sm) {i : Nat} (hi : i < j) {g : Goroutine} (hg : gs[i + 1]? = some g) (hrun : g.status = .running) :
    ∃ m₁ ops μ', runT P (crowd gs w sl) (i + 1) = (.next m₁, ops) ∧ Lt2 μ' (phi n (Vc j D) tag + Ssum j D, f0 + 2 * Fsum j D) ∧ KInv P ty Wg Ch n Low0 M val box Anch Post μ' m₁ (t ++ ops) := by
  obtain ⟨g₁, hg₁, hs⟩ := hcom.wk i hi
  obtain rfl : g = g₁ := by rw [hg] at hg₁; exact Option.some.inj hg₁
  have hb := hcs.bound
  have hVj := Vc_le j D
  have hfam := hcom.fam
  have hWz : Wg < w.heap.size := by have := hfam.hW; have := hfam.hz; omega
  generalize hst : (D i).stage = s at hs
  generalize hfu : (D i).fuel = m at hs
  generalize hde : (D i).deaf = dd at hs
  have hdk : Deaf t (i + 1) = dd := by rw [hcom.deafW i hi, hde]
  cases hs with
  | pre hs0 h =>
    rename_i m
    rcases Trek.cases h with hstop | ⟨m', rfl, hstep⟩
    · exact kSend hAr (by omega) ha hcs hcom hwg hmode hi hg (by cases hD : D i; simp only [hD] at hst hfu hde ⊢; simp [hst, hde]) (by omega) hs0 (hstop w (rh_refl _ _ _ _ _))
    · obtain ⟨g', w', es, hgo, hD, hg'⟩ := hstep w (rh_refl _ _ _ _ _)
      obtain ⟨o1, o2, o3, o4⟩ := okW_st hfam hi (fn := g.frame.fn) (pos := g.frame.place) hD.evs
      have hnb : ∀ b, b < Low0 → ¬ (X i).bag b := fun b hb hx => by have := (hfam.bag i hi b hx).1; have := (hfam.lw i hi).1; omega
      have hcz : w'.heap[Ch]? = w.heap[Ch]? := hD.block Ch (by have := hfam.hC; have := hfam.hz; omega) (hnb _ hfam.hC)
      have hwz : w'.heap[Wg]? = w.heap[Wg]? := hD.block Wg hWz (hnb _ hfam.hW)
      exact kGo (x' := { (X i) with bag := more (X i).bag w w' }) (s' := 7) (m' := m' + M + 1) hAr ha hcs hcom hi hg hgo ⟨hD.size, hD.os, hD.tape, hD.output, fun b hb hn => hD.block b hb fun x => hn (.inr (.inr (.inl x)))⟩ hcz rfl rfl rfl rfl rfl (.pre hs0 hg')
        o1 o2 o3 (by rw [hde]; exact deafBehind_idle o4 0) (fun h => by omega) (hwz.trans hwg)
        (fun _ ht _ => Go.ConcN.Mode.retag (by have := hmode.same (i := i) (m' + M + 1) 0; rwa [hst] at this) ht) (.inr ⟨by rw [hst], by rw [hfu]; omega⟩)
  | tail hs0 h =>
    -- a step that leaves the heap's size
    have go1 : ∀ {g' : Goroutine} {w' : World} {es : Array Event} {s' m' dd' : Nat} {st' sm' : Int}, stepG P false g w = .go g' w' es → w'.heap.size = w.heap.size → Eff (fun b => b = Wg ∨ b = (X i).bd) w w' → WgAt ty Wg w' st' sm' →
        (∀ e ∈ es, ∀ fn pos, OkW (ShN Wg) noN noN 1 { g := 1, fn, pos, act := .ofEvent e }) → (∀ e ∈ es, e.loc ≠ .mark (.release (stA Wg))) →
        WSit P ty Wg (X i).bd 1 noN noN 0 1 (box i) s' m' dd' g' w' → deafBehind dd es = dd' → (s' ≤ 6 → Rel2 Wg (t ++ MemOp.ofEvents (i + 1) g.frame.fn g.frame.place es) (i + 1)) →
        (∀ tag', (tag' = tag ∨ (tag = .blk ∧ tag' = .w3)) → (mayWake P g = true → g'.status = .running → tag' ≠ .blk) → Go.ConcN.Mode j (upd D i ⟨s', m', dd'⟩) tag' st' sm') → ((s' < s ∧ cnt ⟨s', m', dd'⟩ ≤ cnt (D i)) ∨ (s' = s ∧ m' < m)) →
        ∃ m₁ ops μ', runT P (crowd gs w sl) (i + 1) = (.next m₁, ops) ∧ Lt2 μ' (phi n (Vc j D) tag + Ssum j D, f0 + 2 * Fsum j D) ∧ KInv P ty Wg Ch n Low0 M val box Anch Post μ' m₁ (t ++ ops) := by
      intro g' w' es s' m' dd' st' sm' hgo hz hE hwg' hok hnr hs' hdd hrel hmode' hlt
      have hbd := hfam.bd i hi
      have okAll : ∀ op ∈ MemOp.ofEvents (i + 1) g.frame.fn g.frame.place es, op.g = i + 1 ∧ ∀ x, op.act.touch? = some x → ShN Wg x.loc ∧ x.kind ≠ .plain ∧ x.kind ≠ .said := by
        intro op hop
        rw [ofEvents_eq] at hop
        obtain ⟨e, he, rfl⟩ := Array.mem_map.1 hop
        refine ⟨rfl, fun x hx => ?_⟩
        rcases ((hok e he 0 "").2 x hx) with h1 | h1 | ⟨h1, _⟩
        · exact h1
        · exact h1.elim
        · exact h1.elim
      refine kGo (x' := { (X i) with bag := more (X i).bag w w' }) hAr ha hcs hcom hi hg hgo (hE.mono fun b hb => hb.elim .inl fun e => .inr (.inr (.inr e))) (hE.block Ch (by have := hfam.hC; have := hfam.hz; omega) (by rintro (e | e); exact hfam.hCW e; have := hfam.hC; omega)) rfl rfl rfl rfl rfl (.tail hs0 hs')
        (fun op hop => ⟨(okAll op hop).1, fun x hx => .inl ((okAll op hop).2 x hx)⟩) (norel_of hnr) (fun op hop x hx ad had => ?_) (by rw [hde]; exact hdd) hrel hwg' hmode' (by rw [hst, hfu]; exact hlt)
      obtain ⟨⟨a', e1, e2⟩, _⟩ := (okAll op hop).2 x hx
      rw [had] at e1
      cases e1
      omega
    have okBk : ∀ {es : Array Event}, (∀ e ∈ es, Bk Wg e) → ∀ e ∈ es, ∀ fn pos, OkW (ShN Wg) noN noN 1 { g := 1, fn, pos, act := .ofEvent e } := by
      intro es hes e he fn pos
      refine ⟨rfl, fun x hx => .inl ⟨touch_bk (hes e he) hx, ?_, ?_⟩⟩
      · rcases hes e he with h1 | h1 | ⟨a, wr, rfl, _⟩
        · simp only [ofEvent_loc_mark h1] at hx; cases hx
        · simp only [ofEvent_loc_mark h1] at hx; cases hx
        · simp only [Go.ConcR.ofEvent_cell, MemAct.touch?, Option.some.injEq] at hx; subst hx; simp
      · rcases hes e he with h1 | h1 | ⟨a, wr, rfl, _⟩
        · simp only [ofEvent_loc_mark h1] at hx; cases hx
        · simp only [ofEvent_loc_mark h1] at hx; cases hx
        · simp only [Go.ConcR.ofEvent_cell, MemAct.touch?, Option.some.injEq] at hx; subst hx; simp
    have okNone : ∀ {es : Array Event}, (∀ e ∈ es, (MemAct.ofEvent e).touch? = none) → ∀ e ∈ es, ∀ fn pos, OkW (ShN Wg) noN noN 1 { g := 1, fn, pos, act := .ofEvent e } :=
      fun hes e he fn pos => ⟨rfl, fun x hx => by rw [show ({ g := 1, fn, pos, act := MemAct.ofEvent e } : MemOp).act = MemAct.ofEvent e from rfl, hes e he] at hx; cases hx⟩
    -- the library's bookkeeping: at most the group's block turns
    have bookG : ∀ {g' : Goroutine} {w' : World} {es : Array Event} {s' m' dd' : Nat} {st' sm' : Int}, stepG P false g w = .go g' w' es → Aside Wg w w' → WgAt ty Wg w' st' sm' → (∀ e ∈ es, Bk Wg e) →
        (∀ jx e, es[jx]? = some e → (MemAct.ofEvent e).touch? = none ∨ 0 < deafBehind dd (es.extract 0 jx)) → WSit P ty Wg (X i).bd 1 noN noN 0 1 (box i) s' m' dd' g' w' → deafBehind dd es = dd' → s ≤ 6 →
        (∀ tag', (tag' = tag ∨ (tag = .blk ∧ tag' = .w3)) → (mayWake P g = true → g'.status = .running → tag' ≠ .blk) → Go.ConcN.Mode j (upd D i ⟨s', m', dd'⟩) tag' st' sm') → ((s' < s ∧ cnt ⟨s', m', dd'⟩ ≤ cnt (D i)) ∨ (s' = s ∧ m' < m)) →
        ∃ m₁ ops μ', runT P (crowd gs w sl) (i + 1) = (.next m₁, ops) ∧ Lt2 μ' (phi n (Vc j D) tag + Ssum j D, f0 + 2 * Fsum j D) ∧ KInv P ty Wg Ch n Low0 M val box Anch Post μ' m₁ (t ++ ops) := by
      intro g' w' es s' m' dd' st' sm' hgo hAs hwg' hbk hd hs' hdd h6 hmode' hlt
      exact go1 hgo hAs.size ⟨Nat.le_of_eq hAs.size.symm, hAs.os, hAs.tape, hAs.output, fun b _ hn => hAs.block b fun e => hn (.inl e)⟩ hwg' (okBk hbk) (norel_of_Bk hbk) hs' hdd (fun _ => (hcom.rel i hi (by omega)).book hdk _ _ hbk hd) hmode' hlt
    have book : ∀ {g' : Goroutine} {w' : World} {es : Array Event} {s' m' dd' : Nat} {st' sm' : Int}, stepG P false g w = .go g' w' es → Aside Wg w w' → WgAt ty Wg w' st' sm' → (∀ e ∈ es, Bk Wg e) →
        (∀ jx e, es[jx]? = some e → (MemAct.ofEvent e).touch? = none ∨ 0 < deafBehind dd (es.extract 0 jx)) → WSit P ty Wg (X i).bd 1 noN noN 0 1 (box i) s' m' dd' g' w' → deafBehind dd es = dd' → s ≤ 6 →
        Go.ConcN.Mode j (upd D i ⟨s', m', dd'⟩) tag st' sm' → ((s' < s ∧ cnt ⟨s', m', dd'⟩ ≤ cnt (D i)) ∨ (s' = s ∧ m' < m)) →
        ∃ m₁ ops μ', runT P (crowd gs w sl) (i + 1) = (.next m₁, ops) ∧ Lt2 μ' (phi n (Vc j D) tag + Ssum j D, f0 + 2 * Fsum j D) ∧ KInv P ty Wg Ch n Low0 M val box Anch Post μ' m₁ (t ++ ops) :=
      fun hgo hAs hwg' hbk hd hs' hdd h6 hmode' hlt => bookG hgo hAs hwg' hbk hd hs' hdd h6 (fun _ ht _ => hmode'.retag ht) hlt
    have idle : ∀ {g' : Goroutine} {m' : Nat}, stepG P false g w = .go g' w #[] → WSit P ty Wg (X i).bd 1 noN noN 0 1 (box i) s m' dd g' w → m' < m → s ≤ 6 →
        ∃ m₁ ops μ', runT P (crowd gs w sl) (i + 1) = (.next m₁, ops) ∧ Lt2 μ' (phi n (Vc j D) tag + Ssum j D, f0 + 2 * Fsum j D) ∧ KInv P ty Wg Ch n Low0 M val box Anch Post μ' m₁ (t ++ ops) := by
      intro g' m' hgo hs' hm h6
      exact book hgo (.refl Wg w) hwg (by simp) (by simp) hs' rfl h6 (by have := hmode.same (i := i) m' dd; rwa [hst] at this) (.inr ⟨rfl, hm⟩)
    cases h with
    | r0 h =>
      rcases Goes.cases h with hstop | ⟨m', rfl, hstep⟩
      · obtain ⟨_, hhas, g', hgo, m₂, hk⟩ := hstop w (RW.refl w)
        exact go1 hgo rfl (Eff.refl _ w) hwg (okNone (by intro e he; simp at he; subst he; rfl)) (by intro e he; simp at he; subst he; simp [mk]) (.k1 hk) rfl
          (fun _ => Rel2.new hdk _ _) (fun _ ht _ => (hmode.counted hi (by omega) (.inl rfl) _ _).retag ht) (.inl ⟨by omega, by simp [cnt, hst]⟩)
      · obtain ⟨g', w', es, hgo, ⟨hac, hev⟩, hg'⟩ := hstep w (RW.refl w)
        have hbd := hfam.bd i hi
        exact go1 hgo hac.size ⟨Nat.le_of_eq hac.size.symm, hac.os, hac.tape, hac.output, fun b _ hn => hac.block b fun e => hn (.inr e)⟩ ((hac.block Wg (by have := hfam.hW; omega)).trans hwg) (fun e he fn pos => (hev e he).1 fn pos) (fun e he => (hev e he).2.2.2) (.r0 hg')
          (deafBehind_idle (fun e he => ⟨(hev e he).2.1, (hev e he).2.2.1⟩) 0) (fun h => by omega) (fun _ ht _ => Go.ConcN.Mode.retag (by have := hmode.same (i := i) m' 0; rwa [hst] at this) ht) (.inr ⟨rfl, by omega⟩)
    | k1 h =>
      rcases Goes.cases h with hstop | ⟨m', rfl, hstep⟩
      · obtain ⟨_, g', hgo, m₂, hk⟩ := hstop w (RW.refl w)
        exact book hgo (.refl Wg w) hwg (by intro e he; simp at he; subst he; exact .inl rfl) (by intro jx e he; exact .inl (by have := Array.mem_of_getElem? he; simp at this; subst this; rfl)) (.d1 hk) rfl (by omega)
          (hmode.counted hi (by omega) (.inr rfl) _ _) (.inl ⟨by omega, by simp [cnt, hst]⟩)
      · obtain ⟨g', w', es, hgo, ⟨rfl, rfl⟩, hg'⟩ := hstep w (RW.refl w)
        exact idle hgo (.k1 hg') (by omega) (by omega)
    | d1 h =>
      rcases Goes.cases h with hstop | ⟨m', rfl, hstep⟩
      · obtain ⟨_, hall⟩ := hstop w (RW.refl w)
        have hc1 : cnt (D i) = 1 := by simp [cnt, hst]
        have hV1 : 1 ≤ Vc j D := by have := le_sumTo (f := fun x => cnt (D x)) hi; simp only [Vc]; omega
        have bk2 : ∀ e ∈ #[rd (stA Wg), wr (stA Wg)], Bk Wg e := bk_rw
        have df2 : ∀ jx e, (#[rd (stA Wg), wr (stA Wg)] : Array Event)[jx]? = some e → (MemAct.ofEvent e).touch? = none ∨ 0 < deafBehind 1 ((#[rd (stA Wg), wr (stA Wg)] : Array Event).extract 0 jx) := by
          intro jx e he
          match jx, he with
          | 0, _ => exact .inr (by simp [deafBehind])
          | 1, _ => exact .inr (by simp [deafBehind, rd])
          | jx + 2, he => simp at he
        have hq0 : ∀ q, cnt (⟨1, q, 1⟩ : WD) = 0 := fun _ => rfl
        have opq : ∀ q, OpenSt j D → OpenSt j (upd D i ⟨1, q, 1⟩) := fun q h a ha => by
          by_cases e : a = i
          · subst e; rw [upd_same]; simp
          · rw [upd_ne D _ e]; exact h a ha
        cases hmode with
        | opn h1 h2 h3 =>
          obtain ⟨v, hv⟩ : ∃ v, Vc j D + pend tag = v + 1 := ⟨Vc j D + pend tag - 1, by omega⟩
          rw [hv] at hwg
          have hw1 : WgAt ty Wg w (((v : Nat) + 1) * KK + ((0 : Nat) : Int)) 0 := by simpa using hwg
          obtain ⟨g', hgo, _, hq⟩ := hall v 0 (by omega) (by omega) hw1
          obtain ⟨q, hq⟩ := hq (by omega)
          have hv' : Vc j (upd D i ⟨1, q, 1⟩) + pend tag = v := by have := Vc_upd D (⟨1, q, 1⟩ : WD) hi; have := hq0 q; omega
          refine book hgo (aside_setCell w (stA Wg) _) (hwg.setSt _) bk2 df2 (.quit hq) rfl (by omega) ?_ (.inl ⟨by omega, by simp [cnt]⟩)
          have e : ((v : Nat) : Int) * KK + ((0 : Nat) : Int) = ((Vc j (upd D i ⟨1, q, 1⟩) + pend tag : Nat) : Int) * KK := by rw [hv']; simp
          rw [e]
          exact .opn h1 (opq q h2) (fun vs ev => by have := h3 vs ev; omega)
        | reg h1 h2 h3 =>
          obtain ⟨v, hv⟩ : ∃ v, Vc j D = v + 1 := ⟨Vc j D - 1, by omega⟩
          rw [hv] at hwg
          have hp : pend tag = 0 := by cases tag <;> first | rfl | exact h1.elim
          have hw1 : WgAt ty Wg w (((v : Nat) + 1) * KK + ((1 : Nat) : Int)) 0 := by simpa using hwg
          obtain ⟨g', hgo, hl, hq⟩ := hall v 1 (by omega) (by omega) hw1
          by_cases hv0 : v = 0
          · subst hv0
            obtain ⟨m₂, hk⟩ := hl ⟨rfl, rfl⟩
            refine book hgo (aside_setCell w (stA Wg) _) (hwg.setSt _) bk2 df2 (.d2 hk) rfl (by omega) ?_ (.inl ⟨by omega, by simp [cnt]⟩)
            have hoth : ∀ a, a < j → a ≠ i → (D a).stage = 1 := fun a ha e => by
              have c0 := others_uncounted hi hv hc1 a ha e
              have := h2 a ha
              simp only [cnt] at c0
              split at c0 <;> omega
            have := Go.ConcN.Mode.last (j := j) (D := upd D i ⟨4, m₂, 1⟩) (tag := tag) i h1 hi (by rw [upd_same]; simp) (fun a ha e => by rw [upd_ne D _ e]; exact hoth a ha e)
            rw [upd_same] at this
            simpa using this
          · obtain ⟨q, hq⟩ := hq (by omega)
            have hv' : Vc j (upd D i ⟨1, q, 1⟩) = v := by have := Vc_upd D (⟨1, q, 1⟩ : WD) hi; have := hq0 q; omega
            refine book hgo (aside_setCell w (stA Wg) _) (hwg.setSt _) bk2 df2 (.quit hq) rfl (by omega) ?_ (.inl ⟨by omega, by simp [cnt]⟩)
            have e : ((v : Nat) : Int) * KK + ((1 : Nat) : Int) = ((Vc j (upd D i ⟨1, q, 1⟩) : Nat) : Int) * KK + 1 := by rw [hv']; simp
            rw [e]
            exact .reg h1 (opq q h2) (by omega)
        | last L _ h2 h3 h4 =>
          by_cases e : i = L
          · subst e; omega
          · have := h4 i hi e; omega
        | sema h2 => have := h2 i hi; omega
        | fin _ h2 => have := h2 i hi; omega
      · obtain ⟨g', w', es, hgo, ⟨rfl, rfl⟩, hg'⟩ := hstep w (RW.refl w)
        exact idle hgo (.d1 hg') (by omega) (by omega)
    | d2 h =>
      rcases Goes.cases h with hstop | ⟨m', rfl, hstep⟩
      · obtain ⟨_, hx⟩ := hstop w (RW.refl w)
        obtain ⟨hW3, hoth, rfl, rfl⟩ := hmode.isLast hi (by omega)
        simp only [hst] at hwg
        obtain ⟨g', hgo, m₂, hk⟩ := hx (by simpa using hwg)
        refine book hgo (.refl Wg w) hwg bk_rd (by intro jx e he; match jx, he with | 0, _ => exact .inr (by simp [deafBehind]) | jx + 1, he => simp at he) (.d3 hk) rfl (by omega) ?_ (.inl ⟨by omega, by simp [cnt]⟩)
        have := Go.ConcN.Mode.last (j := j) (D := upd D i ⟨3, m₂, 1⟩) (tag := tag) i hW3 hi (by rw [upd_same]; simp) (fun a ha e => by rw [upd_ne D _ e]; exact hoth a ha e)
        rw [upd_same] at this
        simpa using this
      · obtain ⟨g', w', es, hgo, ⟨rfl, rfl⟩, hg'⟩ := hstep w (RW.refl w)
        exact idle hgo (.d2 hg') (by omega) (by omega)
    | d3 h =>
      rcases Goes.cases h with hstop | ⟨m', rfl, hstep⟩
      · obtain ⟨_, hx⟩ := hstop w (RW.refl w)
        obtain ⟨hW3, hoth, rfl, rfl⟩ := hmode.isLast hi (by omega)
        simp only [hst] at hwg
        obtain ⟨g', hgo, m₂, hk⟩ := hx (by simpa using hwg)
        refine book hgo (aside_setCell w (stA Wg) _) (hwg.setSt 0) (by intro e he; simp at he; subst he; exact bk_cell _ _ rfl) (by intro jx e he; match jx, he with | 0, _ => exact .inr (by simp [deafBehind]) | jx + 1, he => simp at he) (.d4 hk) rfl (by omega) ?_ (.inl ⟨by omega, by simp [cnt]⟩)
        have := Go.ConcN.Mode.last (j := j) (D := upd D i ⟨2, m₂, 1⟩) (tag := tag) i hW3 hi (by rw [upd_same]; simp) (fun a ha e => by rw [upd_ne D _ e]; exact hoth a ha e)
        rw [upd_same] at this
        simpa using this
      · obtain ⟨g', w', es, hgo, ⟨rfl, rfl⟩, hg'⟩ := hstep w (RW.refl w)
        exact idle hgo (.d3 hg') (by omega) (by omega)
    | d4 h =>
      rcases Goes.cases h with hstop | ⟨m', rfl, hstep⟩
      · obtain ⟨_, hmw, hx⟩ := hstop w (RW.refl w)
        obtain ⟨hW3, hoth, rfl, rfl⟩ := hmode.isLast hi (by omega)
        simp only [hst] at hwg
        obtain ⟨g', hgo, q, hq⟩ := hx (by simpa using hwg)
        have hrun' : g'.status = .running := by
          cases q with
          | zero => exact absurd hq.2 (by decide)
          | succ q => exact hq.elim (fun x => absurd x.2 (by decide)) (fun x => x.1)
        refine bookG hgo (aside_setCell w (smA Wg) _) (hwg.setSm 1) (es := semEvents (smA Wg)) bk_sem ?_ (.quit hq) (by simp [deafBehind, semEvents]) (by omega) ?_ (.inl ⟨by omega, by simp [cnt]⟩)
        · intro jx e he
          match jx, he with
          | 0, he => simp [semEvents] at he; subst he; exact .inl rfl
          | 1, _ => exact .inr (by simp [deafBehind, semEvents])
          | 2, _ => exact .inr (by simp [deafBehind, semEvents])
          | 3, he => simp [semEvents] at he; subst he; exact .inl rfl
          | jx + 4, he => simp [semEvents] at he
        · intro tag' ht hw
          have hnb := hw hmw hrun'
          have e3 : tag' = .w3 := by
            rcases ht with rfl | ⟨_, rfl⟩
            · cases tag' <;> first | rfl | exact hW3.elim | exact absurd rfl hnb
            · rfl
          subst e3
          simp only [if_true]
          exact .sema fun a ha => by
            by_cases e : a = i
            · subst e; rw [upd_same]
            · rw [upd_ne D _ e]; exact hoth a ha e
      · obtain ⟨g', w', es, hgo, ⟨rfl, rfl⟩, hg'⟩ := hstep w (RW.refl w)
        exact idle hgo (.d4 hg') (by omega) (by omega)
    | quit h =>
      cases m with
      | zero => rw [h.1] at hrun; cases hrun
      | succ q =>
        rcases h with ⟨hf, _⟩ | ⟨_, g', es, hmute, hstep, hq⟩
        · rw [hf] at hrun; cases hrun
        · have hbk : ∀ e ∈ es, Bk Wg e := fun e he => bk_of_mute (hmute e he)
          have hno : ∀ jx e, es[jx]? = some e → (MemAct.ofEvent e).touch? = none ∨ 0 < deafBehind dd (es.extract 0 jx) := fun jx e he => .inl (touch_mute (hmute e (Array.mem_of_getElem? he)))
          exact book (hstep w) (.refl Wg w) hwg hbk hno (.quit hq) rfl (by omega) (by have := hmode.same (i := i) q (deafBehind dd es); rwa [hst] at this) (.inr ⟨rfl, by omega⟩)
end
end Go.Proofs.YtmphfdibijbjeaaDoor
