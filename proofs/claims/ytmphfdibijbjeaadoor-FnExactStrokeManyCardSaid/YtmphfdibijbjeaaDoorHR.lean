/- Workers that make memory: the starter's step; the run to 'acquired'. Nothing of one program. -/
import Derived.Test.YtmphfdibijbjeaaDoorHQ
namespace Go.Proofs.YtmphfdibijbjeaaDoor
open Go.Conc Go.ConcN
open Go.ConcR (KK wgBlock WgAt stA smA rd wr mk Payload Aside2 DC0 Bk g_of_ofEvents again_blocked loc_of_ofEvent bk_of_mute ofEvent_loc_mark)
set_option linter.unusedSimpArgs false
set_option linter.unusedVariables false
set_option maxRecDepth 100000
set_option linter.unusedSectionVars false
/-- what is held of the trace behind the join: no race; the starter knows every touch but atomic ones of the group; all is handed over; it hears -/
structure PastG (Wg : Nat) (t : Trace) : Prop where
  clean : ∀ said, ¬ Race said t
  known : ∀ i a, touchAt t i = some a → a.loc.isMemory = true → Knows t 0 i ∨ (ShN Wg a.loc ∧ a.kind = .atomic)
  over : t.HandedOver
  hears : Deaf t 0 = 0
section
variable [Payload] (P : Program) (ty : TypeId) (Wg Ch n : Nat) (val : Nat → Nat) (Post : Bag → Goroutine → World → Prop)
/-- all is acquired -/
def KDone (m : Machine) (t : Trace) : Prop :=
  ∃ (gs : Array Goroutine) (w : World) (sl : Option (Nat × Nat)) (a : Goroutine) (S : Bag) (q : Nat → Nat),
    m = crowd gs w sl ∧ gs[0]? = some a ∧ Post S a w ∧ Leavers P t gs q ∧ PastG Wg t ∧ ChanHas Ch n n (sumTo n val) w
end
section
variable [Payload] {P : Program} {ty : TypeId} {Wg Ch n Low0 M : Nat} {val : Nat → Nat} {box : Nat → Value} {Anch Post : Bag → Goroutine → World → Prop}
  {gs : Array Goroutine} {w w' : World} {sl : Option (Nat × Nat)} {j : Nat} {D : Nat → WD} {X : Nat → GW} {S0 : Bag} {tag tag' : CTag} {f0 f' : Nat} {a a' : Goroutine} {t : Trace} {st sm st' sm' : Int} {es : Array Event}
theorem sumTo_one : ∀ j, sumTo j (fun _ => 1) = j
  | 0 => rfl
  | j + 1 => by simp only [sumTo, sumTo_one j]
/-- whatever step of the starter that is no go statement -/
theorem kStart (ha : gs[0]? = some a) (hcom : KCom P ty Wg Ch n Low0 M val box j gs w t D X S0 (deafOf tag)) (hgo : stepG P true a w = .go a' w' es)
    (he : Eff (Part Wg Ch X S0 none) w w') (hc : w'.heap[Ch]? = w.heap[Ch]?)
    (hok : ∀ op ∈ MemOp.ofEvents 0 a.frame.fn a.frame.place es, Ok0 (ShN Wg) (OwnX X j) (RdX X j) j op) (hnr : ∀ op ∈ MemOp.ofEvents 0 a.frame.fn a.frame.place es, op.act ≠ .mark (.release (stA Wg)))
    (hlow : Seen w.heap.size (MemOp.ofEvents 0 a.frame.fn a.frame.place es)) (hdeaf : deafBehind (deafOf tag) es = deafOf tag')
    (hcs' : TSit P ty Wg Ch n Low0 M val box Anch Post tag' j f' (more S0 w w') a' w') (hwg : WgAt ty Wg w' st' sm') (hmode : Go.ConcN.Mode j D tag' st' sm')
    (hlt : phi n (Vc j D) tag' < phi n (Vc j D) tag ∨ (phi n (Vc j D) tag' = phi n (Vc j D) tag ∧ f' < f0)) :
    ∃ m₁ ops μ', runT P (crowd gs w sl) 0 = (.next m₁, ops) ∧ Lt2 μ' (phi n (Vc j D) tag + Ssum j D, f0 + 2 * Fsum j D) ∧ KInv P ty Wg Ch n Low0 M val box Anch Post μ' m₁ (t ++ ops) := by
  have hrun := runT_crowd_go (P := P) (sl := sl) (i := 0) ha (by simpa using hgo)
  have hC := hcom.step0 (gs' := (gs.map (woken P a a' w')).setIfInBounds 0 a') (u := MemOp.ofEvents 0 a.frame.fn a.frame.place es) (d' := deafOf tag') (by simp) (map_keeps fun y hy => woken_keeps _ _ _ y hy) he ⟨_, _, hwg⟩ hc hok hnr hlow (by rw [Deaf_own, hcom.deaf0]; exact hdeaf)
  refine ⟨_, _, (phi n (Vc j D) tag' + Ssum j D, f' + 2 * Fsum j D), hrun, lt_measure (p := 0) (q := 0) ?_, _, w', sl, j, D, X, _, tag', f', a', st', sm', rfl, get_map_set_same _ _ _ (by rw [hcom.size]; omega), hcs', hC, hwg, hmode, rfl⟩
  rcases hlt with h | ⟨h1, h2⟩
  · exact .inl (by omega)
  · exact .inr ⟨by rw [h1], by omega⟩
/-- the library's bookkeeping by the starter -/
theorem kBook (ha : gs[0]? = some a) (hcom : KCom P ty Wg Ch n Low0 M val box j gs w t D X S0 (deafOf tag)) (hgo : stepG P true a w = .go a' w' es)
    (hAs : Aside Wg w w') (hwg : WgAt ty Wg w' st' sm') (hbk : ∀ e ∈ es, Bk Wg e) (hdeaf : deafBehind (deafOf tag) es = deafOf tag') (hcs' : TSit P ty Wg Ch n Low0 M val box Anch Post tag' j f' S0 a' w') (hmode : Go.ConcN.Mode j D tag' st' sm')
    (hlt : phi n (Vc j D) tag' < phi n (Vc j D) tag ∨ (phi n (Vc j D) tag' = phi n (Vc j D) tag ∧ f' < f0)) :
    ∃ m₁ ops μ', runT P (crowd gs w sl) 0 = (.next m₁, ops) ∧ Lt2 μ' (phi n (Vc j D) tag + Ssum j D, f0 + 2 * Fsum j D) ∧ KInv P ty Wg Ch n Low0 M val box Anch Post μ' m₁ (t ++ ops) := by
  have hF := hcom.fam
  exact kStart ha hcom hgo ⟨Nat.le_of_eq hAs.size.symm, hAs.os, hAs.tape, hAs.output, fun b _ hn => hAs.block b fun e => hn (.inl e)⟩ (hAs.block Ch hF.hCW) (ok0_of_Bk hbk) (norel_of (norel_of_Bk hbk)) (seen_bk hbk (by have := hF.hW; have := hF.hz; omega)) hdeaf
    (by rw [more_same (Nat.le_of_eq hAs.size)]; exact hcs') hwg hmode hlt
theorem kIdle (ha : gs[0]? = some a) (hcom : KCom P ty Wg Ch n Low0 M val box j gs w t D X S0 (deafOf tag)) (hwg : WgAt ty Wg w st sm) (hmode : Go.ConcN.Mode j D tag st sm) (hgo : stepG P true a w = .go a' w' es)
    (hD : DSt Wg Ch Low0 S0 w w' es) (hcs' : TSit P ty Wg Ch n Low0 M val box Anch Post tag j f' (more S0 w w') a' w') (hf : f' < f0) :
    ∃ m₁ ops μ', runT P (crowd gs w sl) 0 = (.next m₁, ops) ∧ Lt2 μ' (phi n (Vc j D) tag + Ssum j D, f0 + 2 * Fsum j D) ∧ KInv P ty Wg Ch n Low0 M val box Anch Post μ' m₁ (t ++ ops) := by
  have hF := hcom.fam
  obtain ⟨o1, o2, o3, o4⟩ := ok0_st hF (fn := a.frame.fn) (pos := a.frame.place) hD.evs
  have hnb : ∀ b, b < Low0 → ¬ S0 b := fun b hb hx => by have := (hF.mine b hx).1; omega
  have hWz : Wg < w.heap.size := by have := hF.hW; have := hF.hz; omega
  have hCz : Ch < w.heap.size := by have := hF.hC; have := hF.hz; omega
  exact kStart ha hcom hgo (hD.eff.mono fun b hb => .inr (.inr hb)) (hD.eff.block Ch hCz (hnb _ hF.hC)) o1 o2 o3 (deafBehind_idle o4 _) hcs' ((hD.eff.block Wg hWz (hnb _ hF.hW)).trans hwg) hmode (.inr ⟨rfl, hf⟩)
/-- the load in Wait -/
theorem kW1 (hn : n < 2147483648) (ha : gs[0]? = some a) (hcom : KCom P ty Wg Ch n Low0 M val box n gs w t D X S0 1) (hwg : WgAt ty Wg w st sm) (hmode : Go.ConcN.Mode n D .w1 st sm) {m : Nat}
    (h : TrS P ty Wg Ch Low0 (W1T P ty Wg Ch Low0 Anch Post) m S0 a w) :
    ∃ m₁ ops μ', runT P (crowd gs w sl) 0 = (.next m₁, ops) ∧ Lt2 μ' (phi n (Vc n D) .w1 + Ssum n D, (m + 1) + 2 * Fsum n D) ∧ KInv P ty Wg Ch n Low0 M val box Anch Post μ' m₁ (t ++ ops) := by
  rcases Trek.cases h with hstop | ⟨m', rfl, hstep⟩
  · obtain ⟨_, hall⟩ := hstop w (RSt.refl _ _)
    obtain ⟨ho, rfl, rfl, _⟩ := hmode.open_inv trivial
    have hV := Vc_le n D
    obtain ⟨a', hgo, h0, hne⟩ := hall (Vc n D) (by omega) (by simpa [pend] using hwg)
    by_cases hv : Vc n D = 0
    · obtain ⟨m₂, hk⟩ := h0 hv
      refine kBook (tag := .w1) (tag' := .ke) ha hcom hgo (.refl Wg w) hwg bk_rd rfl (.walk rfl hk) ?_ (.inl (by simp only [phi]; omega))
      have e : ((Vc n D + pend .w1 : Nat) : Int) * KK = 0 := by rw [hv]; simp [pend]
      rw [e]
      exact .fin trivial (allQuit_of ho hv)
    · obtain ⟨m₂, hk⟩ := hne hv
      exact kBook (tag := .w1) (tag' := .w2 (Vc n D)) ha hcom hgo (.refl Wg w) hwg bk_rd rfl (.walk rfl hk) (hmode.reopen trivial trivial rfl (fun vs e => by cases e; omega)) (.inl (by simp only [phi]; omega))
  · obtain ⟨a', w', es, hgo, hD, hg'⟩ := hstep w (RSt.refl _ _)
    exact kIdle (tag := .w1) ha hcom hwg hmode hgo hD (.walk rfl hg') (by omega)
set_option maxHeartbeats 1600000 in
theorem kCaller (hn : n < 2147483648) (hAn : ∀ S g w, Anch S g w → GT P ty Wg Ch Low0 (W1T P ty Wg Ch Low0 Anch Post) S g w)
    (ha : gs[0]? = some a) (hcs : TSit P ty Wg Ch n Low0 M val box Anch Post tag j f0 S0 a w) (hcom : KCom P ty Wg Ch n Low0 M val box j gs w t D X S0 (deafOf tag)) (hwg : WgAt ty Wg w st sm) (hmode : Go.ConcN.Mode j D tag st sm) (hrun : a.status = .running) :
    (∃ m₁ ops, runT P (crowd gs w sl) 0 = (.next m₁, ops) ∧ KDone P Wg Ch n val Post m₁ (t ++ ops)) ∨
    (∃ m₁ ops μ', runT P (crowd gs w sl) 0 = (.next m₁, ops) ∧ Lt2 μ' (phi n (Vc j D) tag + Ssum j D, f0 + 2 * Fsum j D) ∧ KInv P ty Wg Ch n Low0 M val box Anch Post μ' m₁ (t ++ ops)) := by
  have hVj := Vc_le j D
  have hb := hcs.bound
  cases hcs with
  | blk h => simp at hrun
  | walk hj h =>
    rename_i m
    rcases Trek.cases h with hstop | ⟨m', rfl, hstep⟩
    rotate_left
    · obtain ⟨a', w', es, hgo, hD, hg'⟩ := hstep w (RSt.refl _ _)
      exact .inr (kIdle ha hcom hwg hmode hgo hD (.walk hj hg') (by omega))
    have hs := hstop w (RSt.refl _ _)
    unfold stopOf at hs
    split at hs
    · -- disable
      rename_i r
      obtain ⟨_, a', hgo, m₂, hk⟩ := hs
      exact .inr (kBook (tag' := .sp r 4) ha hcom hgo (.refl Wg w) hwg bk_dis rfl (.walk hj hk) (hmode.reopen trivial trivial rfl (by simp)) (.inl (by simp only [phi]; omega)))
    · -- the atomic add
      rename_i r
      obtain ⟨_, hall⟩ := hs
      obtain ⟨ho, rfl, rfl, _⟩ := hmode.open_inv trivial
      have hjn : j < n := by obtain ⟨h1, h2⟩ : r < n ∧ j = n - (r + 1) := hj; omega
      obtain ⟨a', hgo, m₂, hk⟩ := hall (Vc j D) (by omega) (by simpa [pend] using hwg)
      refine .inr (kBook (tag' := .sp r 3) ha hcom hgo (aside_setCell w (stA Wg) _) (hwg.setSt _) bk_rw rfl (.walk hj hk) ?_ (.inl (by simp only [phi]; omega)))
      have e : (((Vc j D : Nat) : Int) + 1) * KK = ((Vc j D + pend (.sp r 3) : Nat) : Int) * KK := by simp [pend]
      rw [e]
      exact .opn trivial ho (by simp)
    · -- enable
      rename_i r
      obtain ⟨_, a', hgo, m₂, hk⟩ := hs
      exact .inr (kBook (tag' := .sp r 2) ha hcom hgo (.refl Wg w) hwg bk_en rfl (.walk hj hk) (hmode.reopen trivial trivial rfl (by simp)) (.inl (by simp only [phi]; omega)))
    · -- the go statement
      rename_i r
      obtain ⟨hr, rfl⟩ := hj
      obtain ⟨_, a', child, bd, hsp, hbd, hchild, hnext⟩ := hs
      have hfam := hcom.fam
      obtain ⟨n1, n2⟩ := hfam.shNot hbd
      obtain ⟨m₂, hwk⟩ := hchild (shN Wg Ch (n - (r + 1)) X) (.inl rfl) (.inr (.inl rfl)) n1 n2
      obtain ⟨ho, rfl, rfl, _⟩ := hmode.open_inv trivial
      have hrun' := runT_crowd_spawn (P := P) (sl := sl) (i := 0) ha (by simpa using hsp)
      rw [hcom.size] at hrun'
      have hcom' := KCom.spawn (S0 := S0) hcom (a' := a') (x := { g := 0, fn := a.frame.fn, pos := a.frame.place, act := .go (n - (r + 1) + 1) }) (y := { g := n - (r + 1) + 1, fn := child.frame.fn, pos := a.frame.place, act := .start }) ⟨rfl, rfl⟩ ⟨rfl, rfl⟩ hbd hwk
      generalize hx : (⟨7, m₂ + M + 1, 0⟩ : WD) = dn at hcom'
      have dn1 : dn.stage = 7 := by rw [← hx]
      have eV : Vc (n - (r + 1) + 1) (upd D (n - (r + 1)) dn) = Vc (n - (r + 1)) D + 1 := by
        simp only [Vc, sumTo, upd_same]
        rw [sumTo_upd_out D _ cnt (Nat.le_refl _)]
        simp [cnt, dn1]
      have eS : Ssum (n - (r + 1) + 1) (upd D (n - (r + 1)) dn) = Ssum (n - (r + 1)) D + 7 := by
        simp only [Ssum, sumTo, upd_same]
        rw [sumTo_upd_out D _ WD.stage (Nat.le_refl _), dn1]
      have ho' : OpenSt (n - (r + 1) + 1) (upd D (n - (r + 1)) dn) := fun i hi => by
        by_cases e : i = n - (r + 1)
        · subst e; rw [upd_same]; simp [dn1]
        · rw [upd_ne D _ e]; exact ho i (by omega)
      have ha' : ((gs.setIfInBounds 0 a').push child)[0]? = some a' := by
        rw [Array.getElem?_push_lt (by simp [hcom.size]), ← Array.getElem?_eq_getElem]
        simp [hcom.size]
      have ej : n - (r + 1) + 1 = n - r := by omega
      rw [ej] at hrun' hcom' eV eS ho'
      have est : ∀ tag', pend tag' = 0 → ((Vc (n - (r + 1)) D + pend (.sp r 2) : Nat) : Int) * KK = ((Vc (n - r) (upd D (n - (r + 1)) dn) + pend tag' : Nat) : Int) * KK := fun tag' hp => by rw [eV, hp]; simp [pend]
      cases r with
      | zero =>
        obtain ⟨m₃, hk⟩ := hnext
        simp only [Nat.sub_zero] at hrun' hcom' eV eS ho' est
        refine .inr ⟨_, _, (phi n (Vc n (upd D (n - (0 + 1)) dn)) .kd + Ssum n (upd D (n - (0 + 1)) dn), (m₃ + 1) + 2 * Fsum n (upd D (n - (0 + 1)) dn)), hrun', Prod.Lex.left _ _ (by simp only [phi]; omega),
          _, w, sl, n, _, _, _, .kd, m₃ + 1, a', _, _, rfl, ha', .walk rfl hk, hcom', hwg, ?_, rfl⟩
        rw [est .kd rfl]
        exact .opn trivial ho' (by simp)
      | succ r' =>
        obtain ⟨m₃, hk⟩ := hnext
        refine .inr ⟨_, _, (phi n (Vc (n - (r' + 1)) (upd D (n - (r' + 1 + 1)) dn)) (.sp r' 5) + Ssum (n - (r' + 1)) (upd D (n - (r' + 1 + 1)) dn), (m₃ + 1) + 2 * Fsum (n - (r' + 1)) (upd D (n - (r' + 1 + 1)) dn)), hrun', Prod.Lex.left _ _ (by simp only [phi]; omega),
          _, w, sl, n - (r' + 1), _, _, _, .sp r' 5, m₃ + 1, a', _, _, rfl, ha', .walk ⟨by omega, rfl⟩ hk, hcom', hwg, ?_, rfl⟩
        rw [est (.sp r' 5) rfl]
        exact .opn trivial ho' (by simp)
    · exact hs.elim
    · -- Wait's disable
      obtain ⟨_, a', hgo, m₂, hk⟩ := hs
      exact .inr (kBook (tag' := .anch) ha hcom hgo (.refl Wg w) hwg bk_dis rfl (.walk hj hk) (hmode.reopen trivial trivial rfl (by simp)) (.inl (by simp only [phi]; cases hj; omega)))
    · -- the loop's head
      obtain ⟨m₂, hk⟩ := hAn S0 a w hs
      have hj : j = n := hj
      subst hj
      obtain ⟨m₁, ops, μ', h1, h2, h3⟩ := kW1 (sl := sl) hn ha hcom hwg (hmode.reopen trivial trivial rfl (by simp)) hk
      exact .inr ⟨m₁, ops, μ', h1, lt2_trans h2 (Prod.Lex.left _ _ (by simp only [phi]; omega)), h3⟩
    · have hj : j = n := hj
      subst hj
      exact .inr (kW1 hn ha hcom hwg hmode h)
    · -- the CompareAndSwap
      rename_i vs
      have hj : j = n := hj
      subst hj
      obtain ⟨_, hall⟩ := hs
      obtain ⟨ho, rfl, rfl, hw2⟩ := hmode.open_inv trivial
      obtain ⟨hle, h1⟩ := hw2 vs rfl
      obtain ⟨hhit, hmiss⟩ := hall (Vc j D) (by omega) (by simpa [pend] using hwg)
      by_cases e : Vc j D = vs
      · obtain ⟨a', hgo, m₂, hk⟩ := hhit e
        exact .inr (kBook (tag' := .w3) ha hcom hgo (aside_setCell w (stA Wg) _) (hwg.setSt _) bk_rw rfl (.walk rfl hk) (.reg trivial ho (by omega)) (.inl (by simp only [phi]; omega)))
      · obtain ⟨a', hgo, m₂, hk⟩ := hmiss e
        exact .inr (kBook (tag' := .anch) ha hcom hgo (.refl Wg w) hwg bk_rd rfl (.walk rfl hk) (hmode.reopen trivial trivial rfl (by simp)) (.inl (by simp only [phi]; omega)))
    · -- the semaphore
      have hj : j = n := hj
      subst hj
      obtain ⟨_, hoff, hblk, htake⟩ := hs
      cases hmode with
      | opn h1 _ _ => exact h1.elim
      | reg h1 h2 h3 => exact .inr (kBook (tag' := .blk) ha hcom (hblk ⟨_, hwg⟩) (.refl Wg w) hwg (by simp) rfl (.blk hstop) (.reg trivial h2 h3) (.inr ⟨rfl, by omega⟩))
      | last L h1 h2 h3 h4 => exact .inr (kBook (tag' := .blk) ha hcom (hblk ⟨_, hwg⟩) (.refl Wg w) hwg (by simp) rfl (.blk hstop) (.last L trivial h2 h3 h4) (.inr ⟨rfl, by omega⟩))
      | sema h2 =>
        obtain ⟨a', hgo, m₂, hk⟩ := htake hwg
        exact .inr (kBook (tag' := .w4) ha hcom hgo (aside_setCell w (smA Wg) _) (hwg.setSm 0) bk_sem (by simp [deafBehind, semEvents, deafOf]) (.walk rfl hk) (.fin trivial h2) (.inl (by simp only [phi]; omega)))
      | fin h1 _ => exact h1.elim
    · exact hs.elim
    · obtain ⟨_, hx⟩ := hs
      obtain ⟨hq, rfl, rfl⟩ := hmode.fin_inv trivial
      obtain ⟨a', hgo, m₂, hk⟩ := hx hwg
      exact .inr (kBook (tag' := .ke) ha hcom hgo (.refl Wg w) hwg bk_rd rfl (.walk hj hk) (.fin trivial hq) (.inl (by simp only [phi]; omega)))
    · obtain ⟨_, a', hgo, m₂, hk⟩ := hs
      obtain ⟨hq, rfl, rfl⟩ := hmode.fin_inv trivial
      exact .inr (kBook (tag' := .acq) ha hcom hgo (.refl Wg w) hwg bk_en rfl (.walk hj hk) (.fin trivial hq) (.inl (by simp only [phi]; omega)))
    · -- acquire: all is known
      have hj : j = n := hj
      subst hj
      obtain ⟨_, a', hgo, hpost⟩ := hs
      obtain ⟨hq, rfl, rfl⟩ := hmode.fin_inv trivial
      have hrun' := runT_crowd_go (P := P) (sl := sl) (i := 0) ha (by simpa using hgo)
      have e1 : MemOp.ofEvents 0 a.frame.fn a.frame.place #[mk (.acquire (stA Wg))] = #[{ g := 0, fn := a.frame.fn, pos := a.frame.place, act := .mark (.acquire (stA Wg)) }] := by rw [ofEvents_eq]; simp [Go.ConcR.ofEvent_mk]
      have hy : (t ++ #[({ g := 0, fn := a.frame.fn, pos := a.frame.place, act := .mark (.acquire (stA Wg)) } : MemOp)])[t.size]? = some { g := 0, fn := a.frame.fn, pos := a.frame.place, act := .mark (.acquire (stA Wg)) } := by simp
      have hC := hcom.step0 (gs' := (gs.map (woken P a a' w)).setIfInBounds 0 a') (u := MemOp.ofEvents 0 a.frame.fn a.frame.place #[mk (.acquire (stA Wg))]) (d' := 0) (by simp) (map_keeps fun y hy => woken_keeps _ _ _ y hy) (Eff.refl _ w) ⟨_, _, hwg⟩ rfl
        (ok0_none (by intro e he; simp at he; subst he; rfl)) (norel_of (by intro e he; simp at he; subst he; simp [mk])) (Seen.none (by rw [e1]; intro op hop; simp at hop; subst hop; rfl)) (by rw [Deaf_own, hcom.deaf0]; rfl)
      rw [e1] at hrun' hC
      refine .inl ⟨_, _, hrun', _, w, sl, a', S0, fun i => (D (i - 1)).fuel, rfl, get_map_set_same _ _ _ (by rw [hcom.size]; omega), hpost, ⟨fun i g hi hg => ?_, fun k hk => ?_⟩, ⟨hC.ct.nr, fun i b hb hm => ?_, ?_, hC.deaf0⟩, ?_⟩
      · obtain ⟨i', rfl⟩ : ∃ i', i = i' + 1 := ⟨i - 1, by omega⟩
        have hlt : i' < j := by have := (Array.getElem?_eq_some_iff.1 hg).1; rw [hC.size] at this; omega
        obtain ⟨g', hg', hs'⟩ := hC.wk i' hlt
        rw [hg] at hg'
        cases hg'
        rw [hC.deafW i' hlt]
        exact hs'.quits (hq i' hlt)
      · exact Deaf_absent fun p op hp e => by have := hC.ct.gs p op hp; rw [hC.size] at hk; omega
      · obtain ⟨x, hx, hxa⟩ := touch_of hb
        by_cases h0 : x.g = 0
        · have := knows_own hx
          rw [h0] at this
          exact .inl this
        · have hle := hC.ct.gs i x hx
          obtain ⟨r, hr, hrt⟩ := hC.rel (x.g - 1) (by omega) (by rw [hq _ (by omega)]; omega)
          rw [show x.g - 1 + 1 = x.g by omega] at hr hrt
          have hgi : (t ++ #[({ g := 0, fn := a.frame.fn, pos := a.frame.place, act := .mark (.acquire (stA Wg)) } : MemOp)]).g? i = some x.g := Option.map_eq_some_iff.2 ⟨x, hx, rfl⟩
          rcases Nat.lt_or_ge r i with hlt | hge
          · refine .inr ⟨hrt i b hlt hgi hb, ?_⟩
            have hnc := hr.after i hlt hgi
            by_cases hk : b.kind = .atomic
            · exact hk
            · exact absurd ⟨b, hb, hm, .inl hk⟩ hnc
          · obtain ⟨r', hr', _⟩ := hcom.rel (x.g - 1) (by omega) (by rw [hq _ (by omega)]; omega)
            have hrlt : r < t.size := by
              have h1 := lt_of_act? hr.act
              simp at h1
              rcases Nat.lt_or_ge r t.size with h2 | h2
              · exact h2
              · obtain rfl : r = t.size := by omega
                have := hr.act
                rw [act?_of hy] at this
                simp at this
            have hdz : (t ++ #[({ g := 0, fn := a.frame.fn, pos := a.frame.place, act := .mark (.acquire (stA Wg)) } : MemOp)]).heard t.size := ⟨0, by simp [Trace.g?], by rw [deaf_old (Nat.le_refl _)]; exact hcom.deaf0⟩
            have edge : HappensBefore (t ++ #[({ g := 0, fn := a.frame.fn, pos := a.frame.place, act := .mark (.acquire (stA Wg)) } : MemOp)]) r t.size :=
              .single (.inr ⟨.marked hrlt (.inr hr.act) (by rw [act?_of hy]) (fun k _ _ => hC.norel k), hr.heard, hdz⟩)
            refine .inl ⟨t.size, _, hy, rfl, .inr ?_⟩
            rcases Nat.lt_or_ge i r with hlt | hge'
            · exact .trans (.single (.inl ⟨hlt, x.g, hgi, hr.g⟩)) edge
            · obtain rfl : i = r := by omega
              exact edge
      · refine handedOver_all (a := stA Wg) (q := t.size) (fun i g hgi hne => ?_) hC.norel (by rw [act?_of hy]) (by simp [Trace.g?]) ⟨0, by simp [Trace.g?], by rw [deaf_old (Nat.le_refl _)]; exact hcom.deaf0⟩
        obtain ⟨op, ho, rfl⟩ := Option.map_eq_some_iff.1 hgi
        have hle := hC.ct.gs i op ho
        obtain ⟨r, hr, _⟩ := hcom.rel (op.g - 1) (by omega) (by rw [hq _ (by omega)]; omega)
        rw [show op.g - 1 + 1 = op.g by omega] at hr
        exact ⟨r, hr.appNot (by intro op' hop'; simp at hop'; subst hop'; exact Ne.symm hne), lt_of_act? hr.act⟩
      · have hsent : ∀ i, i < j → (X i).sent = true := fun i hi => by
          obtain ⟨g, _, hs⟩ := hcom.wk i hi
          exact hs.sent_of (by rw [hq i hi]; omega)
        have s1 : sentN j X = j := by
          unfold sentN
          rw [sumTo_congr (g := fun _ => 1) fun i hi => by rw [hsent i hi]; rfl]
          exact sumTo_one j
        have s2 : sentV val j X = sumTo j val := sumTo_congr fun i hi => by rw [hsent i hi]; rfl
        have := hcom.chan
        rwa [s1, s2] at this
    · exact hs.elim
/-- somebody runs -/
theorem k_someone (hAr : ∀ S g w, Anch S g w → g.status = .running) (ha : gs[0]? = some a) (hcs : TSit P ty Wg Ch n Low0 M val box Anch Post tag j f0 S0 a w) (hcom : KCom P ty Wg Ch n Low0 M val box j gs w t D X S0 (deafOf tag)) (hmode : Go.ConcN.Mode j D tag st sm) :
    ∃ (i : Nat) (g : Goroutine), gs[i]? = some g ∧ g.status = .running := by
  rcases hcs.status hAr with ⟨hs, _⟩ | ⟨_, rfl, _⟩
  · exact ⟨0, a, ha, hs⟩
  · cases hmode with
    | opn h1 _ _ => exact h1.elim
    | reg _ _ h3 =>
      obtain ⟨i, hi, h5⟩ := exists_counted h3
      obtain ⟨g, hg, hs⟩ := hcom.wk i hi
      exact ⟨i + 1, g, hg, hs.running_of (by omega)⟩
    | last L _ h2 h3 _ =>
      obtain ⟨g, hg, hs⟩ := hcom.wk L h2
      exact ⟨L + 1, g, hg, hs.running_of (by omega)⟩
    | fin h1 _ => exact h1.elim
theorem k_awake (hAr : ∀ S g w, Anch S g w → g.status = .running) (ha : gs[0]? = some a) (hcs : TSit P ty Wg Ch n Low0 M val box Anch Post tag j f0 S0 a w) (hcom : KCom P ty Wg Ch n Low0 M val box j gs w t D X S0 (deafOf tag)) : ∀ g ∈ gs, awake g := by
  intro g hg
  obtain ⟨i, hi⟩ := Array.mem_iff_getElem?.1 hg
  cases i with
  | zero =>
    rw [ha] at hi; cases hi
    rcases hcs.status hAr with ⟨hs, _⟩ | ⟨hs, _⟩
    · exact awake_of (.inl hs)
    · exact awake_of (.inr (.inl hs))
  | succ i =>
    have hlt : i < j := by have := (Array.getElem?_eq_some_iff.1 hi).1; rw [hcom.size] at this; omega
    obtain ⟨g', hg', hs⟩ := hcom.wk i hlt
    rw [hi] at hg'; cases hg'
    rcases hs.status with h | h
    · exact awake_of (.inl h)
    · exact awake_of (.inr (.inr h))
theorem k_step (hn : n < 2147483648) (hAr : ∀ S g w, Anch S g w → g.status = .running) (hAn : ∀ S g w, Anch S g w → GT P ty Wg Ch Low0 (W1T P ty Wg Ch Low0 Anch Post) S g w)
    (μ : Nat × Nat) (m : Machine) (t : Trace) (h : KInv P ty Wg Ch n Low0 M val box Anch Post μ m t) :
    (∃ m' ops, stepT P m = (.next m', ops) ∧ KDone P Wg Ch n val Post m' (t ++ ops)) ∨ (∃ m' ops μ', stepT P m = (.next m', ops) ∧ Lt2 μ' μ ∧ KInv P ty Wg Ch n Low0 M val box Anch Post μ' m' (t ++ ops)) := by
  obtain ⟨gs, w, sl, j, D, X, S0, tag, f0, a, st, sm, rfl, ha, hcs, hcom, hwg, hmode, rfl⟩ := h
  obtain ⟨i, g, d, sl', hg, hrun, hstep⟩ := crowd_pick (P := P) (w := w) (sl := sl) (k_awake hAr ha hcs hcom) (k_someone hAr ha hcs hcom hmode)
  rw [hstep]
  have hcs' := hcs.rely (RSt.at S0 w d)
  have hcom' := hcom.at d
  have hwg' : WgAt ty Wg (w.at d) st sm := hwg
  cases i with
  | zero =>
    rw [ha] at hg; cases hg
    exact kCaller (sl := sl') hn hAn ha hcs' hcom' hwg' hmode hrun
  | succ i =>
    have hi : i < j := by have := (Array.getElem?_eq_some_iff.1 hg).1; rw [hcom.size] at this; omega
    exact .inr (kWorker hAr hn ha hcs' hcom' hwg' hmode hi hg hrun)
theorem k_runs (hn : n < 2147483648) (hAr : ∀ S g w, Anch S g w → g.status = .running) (hAn : ∀ S g w, Anch S g w → GT P ty Wg Ch Low0 (W1T P ty Wg Ch Low0 Anch Post) S g w) :
    ∀ (μ : Nat × Nat) (m : Machine) (t : Trace), KInv P ty Wg Ch n Low0 M val box Anch Post μ m t → ∃ N m' t', runNT P N m t = (.next m', t') ∧ KDone P Wg Ch n val Post m' t' := by
  intro μ
  induction μ using (Prod.lex Nat.lt_wfRel Nat.lt_wfRel).wf.induction with
  | _ μ ih =>
    intro m t h
    rcases k_step hn hAr hAn μ m t h with ⟨m', ops, hs, hd⟩ | ⟨m', ops, μ', hs, hlt, hI⟩
    · exact ⟨1, m', t ++ ops, by simp [runNT, hs], hd⟩
    · obtain ⟨N, m'', t'', hr, hd⟩ := ih μ' hlt m' _ hI
      exact ⟨N + 1, m'', t'', by simp only [runNT, hs]; exact hr, hd⟩
/-- from a lone goroutine at the loop that starts the workers -/
theorem k_begin {t : Trace} (hW : Wg < Low0) (hC : Ch < Low0) (hCW : Ch ≠ Wg) (hz : Low0 ≤ w.heap.size) (h0 : ∀ op ∈ t, op.g = 0) (hq : ∀ op ∈ t, ∀ x, op.act.touch? = some x → ¬ ShN Wg x.loc) (hseen : Seen w.heap.size t)
    (hnr : ∀ op ∈ t, op.act ≠ .mark (.release (stA Wg))) (hd : Deaf t 0 = 0) (hwg : WgAt ty Wg w 0 0) (hch : w.heap[Ch]? = some (.chan n #[] false 0 0 false)) (hn0 : 0 < n)
    (h : SpT P ty Wg Ch n Low0 M val box Anch n (fun _ => False) a w) : ∃ μ, KInv P ty Wg Ch n Low0 M val box Anch Post μ (crowd #[a] w sl) t := by
  obtain ⟨r, rfl⟩ : ∃ r, n = r + 1 := ⟨n - 1, by omega⟩
  obtain ⟨m, hk⟩ := h
  have hct : CT (ShN Wg) (OwnX (fun _ => gwN Wg Ch 0 (fun _ => ⟨0, fun _ => False, fun _ => False, 0, false⟩) 0 0) 0) (RdX (fun _ => gwN Wg Ch 0 (fun _ => ⟨0, fun _ => False, fun _ => False, 0, false⟩) 0 0) 0) t 0 := CT.lone h0 hq
  refine ⟨_, #[a], w, sl, 0, fun _ => ⟨0, 0, 0⟩, fun _ => gwN Wg Ch 0 (fun _ => ⟨0, fun _ => False, fun _ => False, 0, false⟩) 0 0, fun _ => False, .sp r 5, m + 1, a, 0, 0, rfl, rfl, .walk ⟨Nat.lt_succ_self r, by omega⟩ hk, ?_, hwg, ?_, rfl⟩
  · refine ⟨rfl, fun i hi => by omega, ⟨hW, hC, hCW, hz, fun i hi => by omega, fun i hi => by omega, fun i hi => by omega, fun i _ hi => by omega, fun i _ hi => by omega, fun i _ hi => by omega, fun i hi => by omega, fun i _ hi => by omega, fun i _ hi => by omega, fun b hb => hb.elim⟩, hct, hseen, ?_, hd, fun i hi => by omega, fun i hi => by omega, ⟨[], 0, hch, rfl, rfl⟩⟩
    exact fun i hi => by
      obtain ⟨op, ho, hoa⟩ := Option.map_eq_some_iff.1 hi
      exact hnr op (Array.mem_of_getElem? ho) hoa
  · have := Go.ConcN.Mode.opn (j := 0) (D := fun _ => (⟨0, 0, 0⟩ : WD)) (tag := .sp r 5) trivial (fun i hi => by omega) (fun vs e => by cases e)
    simpa [Vc, sumTo, pend] using this
end
end Go.Proofs.YtmphfdibijbjeaaDoor
