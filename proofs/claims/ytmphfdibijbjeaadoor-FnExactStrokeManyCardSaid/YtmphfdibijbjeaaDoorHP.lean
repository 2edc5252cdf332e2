/- Workers that make memory: the starter's stops and situations. Nothing of one program. -/
import Derived.Test.YtmphfdibijbjeaaDoorHO
namespace Go.Proofs.YtmphfdibijbjeaaDoor
open Go.Conc Go.ConcN
open Go.ConcR (KK wgBlock WgAt stA smA rd wr mk Payload Aside2 DC0 Bk g_of_ofEvents again_blocked loc_of_ofEvent)
set_option linter.unusedSimpArgs false
set_option linter.unusedVariables false
set_option maxRecDepth 100000
set_option linter.unusedSectionVars false
section
variable [Payload] (P : Program) (ty : TypeId) (Wg Ch n Low0 M : Nat) (val : Nat → Nat) (box : Nat → Value)
/-- what the starter suffers -/
structure RSt (S : Bag) (w w₁ : World) : Prop where
  rh : RH Low0 (Shr0 Wg Ch) (WgLive ty Wg) S w w₁
  os : w₁.os = w.os
  tape : w₁.tape = w.tape
  output : w₁.output = w.output
/-- what it does between its stops -/
structure DSt (S : Bag) (w w' : World) (es : Array Event) : Prop where
  eff : Eff S w w'
  evs : ∀ e ∈ es, EvH Low0 (Shr0 Wg Ch) S w e ∨ EvG Wg e
abbrev TrS (Stop : Bag → Goroutine → World → Prop) : Nat → Bag → Goroutine → World → Prop := Trek P true (RSt ty Wg Ch Low0) (DSt Wg Ch Low0) Stop
def GT (Stop : Bag → Goroutine → World → Prop) (S : Bag) (g : Goroutine) (w : World) : Prop := ∃ m, TrS P ty Wg Ch Low0 Stop m S g w
variable (Anch Post : Bag → Goroutine → World → Prop)
def AcqT (S : Bag) (g : Goroutine) (w : World) : Prop := g.status = .running ∧ ∃ g', stepG P true g w = .go g' w #[mk (.acquire (stA Wg))] ∧ Post S g' w
def KeT (S : Bag) (g : Goroutine) (w : World) : Prop := g.status = .running ∧ ∃ g', stepG P true g w = .go g' w #[mk .enable] ∧ GT P ty Wg Ch Low0 (AcqT P Wg Post) S g' w
def W4T (S : Bag) (g : Goroutine) (w : World) : Prop := g.status = .running ∧ (WgAt ty Wg w 0 0 → ∃ g', stepG P true g w = .go g' w #[rd (stA Wg)] ∧ GT P ty Wg Ch Low0 (KeT P ty Wg Ch Low0 Post) S g' w)
def W3T (S : Bag) (g : Goroutine) (w : World) : Prop :=
  g.status = .running ∧ g.offers = none ∧ ((∃ st, WgAt ty Wg w st 0) → stepG P true g w = .go { g with status := .blocked } w #[]) ∧
    (WgAt ty Wg w 0 1 → ∃ g', stepG P true g w = .go g' (w.setCell (smA Wg) (.int .u32 0)) (semEvents (smA Wg)) ∧ GT P ty Wg Ch Low0 (W4T P ty Wg Ch Low0 Post) S g' (w.setCell (smA Wg) (.int .u32 0)))
def W2T (vs : Nat) (S : Bag) (g : Goroutine) (w : World) : Prop :=
  g.status = .running ∧ ∀ v : Nat, v < 2147483648 → WgAt ty Wg w (v * KK) 0 →
    (v = vs → ∃ g', stepG P true g w = .go g' (w.setCell (stA Wg) (.int .u64 (v * KK + 1))) #[rd (stA Wg), wr (stA Wg)] ∧ GT P ty Wg Ch Low0 (W3T P ty Wg Ch Low0 Post) S g' (w.setCell (stA Wg) (.int .u64 (v * KK + 1)))) ∧
    (v ≠ vs → ∃ g', stepG P true g w = .go g' w #[rd (stA Wg)] ∧ GT P ty Wg Ch Low0 Anch S g' w)
def W1T (S : Bag) (g : Goroutine) (w : World) : Prop :=
  g.status = .running ∧ ∀ v : Nat, v < 2147483648 → WgAt ty Wg w (v * KK) 0 → ∃ g', stepG P true g w = .go g' w #[rd (stA Wg)] ∧
    (v = 0 → GT P ty Wg Ch Low0 (KeT P ty Wg Ch Low0 Post) S g' w) ∧ (v ≠ 0 → GT P ty Wg Ch Low0 (W2T P ty Wg Ch Low0 Anch Post v) S g' w)
def KdT (S : Bag) (g : Goroutine) (w : World) : Prop := g.status = .running ∧ ∃ g', stepG P true g w = .go g' w #[mk .disable] ∧ GT P ty Wg Ch Low0 Anch S g' w
/-- the go statement that starts worker j -/
def GoT (j : Nat) (Next : Bag → Goroutine → World → Prop) (S : Bag) (g : Goroutine) (w : World) : Prop :=
  g.status = .running ∧ ∃ g' child bd, stepG P true g w = .spawn g' child w #[] ∧ S bd ∧
    (∀ sh : Nat → Prop, sh Wg → sh Ch → ¬ sh bd → (∀ b, b < Low0 → b ≠ Wg → b ≠ Ch → ¬ sh b) →
      ∃ m, Trek P false (RH w.heap.size sh NoLv) (DH w.heap.size sh) (AtSnd P Ch (.int .i64 (val j : Nat)) (NextT P ty Wg M (box j) bd)) m (fun _ => False) child w) ∧ Next (fun _ => False) g' w
def KeS (j : Nat) (Next : Bag → Goroutine → World → Prop) (S : Bag) (g : Goroutine) (w : World) : Prop :=
  g.status = .running ∧ ∃ g', stepG P true g w = .go g' w #[mk .enable] ∧ GT P ty Wg Ch Low0 (GoT P ty Wg Ch Low0 M val box j Next) S g' w
def A1S (j : Nat) (Next : Bag → Goroutine → World → Prop) (S : Bag) (g : Goroutine) (w : World) : Prop :=
  g.status = .running ∧ ∀ v : Nat, v < 2147483647 → WgAt ty Wg w (v * KK) 0 →
    ∃ g', stepG P true g w = .go g' (w.setCell (stA Wg) (.int .u64 ((v + 1) * KK))) #[rd (stA Wg), wr (stA Wg)] ∧ GT P ty Wg Ch Low0 (KeS P ty Wg Ch Low0 M val box j Next) S g' (w.setCell (stA Wg) (.int .u64 ((v + 1) * KK)))
def KdS (j : Nat) (Next : Bag → Goroutine → World → Prop) (S : Bag) (g : Goroutine) (w : World) : Prop :=
  g.status = .running ∧ ∃ g', stepG P true g w = .go g' w #[mk .disable] ∧ GT P ty Wg Ch Low0 (A1S P ty Wg Ch Low0 M val box j Next) S g' w
/-- r workers are still to be started -/
def SpT : Nat → Bag → Goroutine → World → Prop
  | 0 => GT P ty Wg Ch Low0 (KdT P ty Wg Ch Low0 Anch)
  | r + 1 => GT P ty Wg Ch Low0 (KdS P ty Wg Ch Low0 M val box (n - (r + 1)) (SpT r))
/-- the next stop -/
def stopOf : CTag → Bag → Goroutine → World → Prop
  | .sp r 5 => KdS P ty Wg Ch Low0 M val box (n - (r + 1)) (SpT P ty Wg Ch n Low0 M val box Anch r)
  | .sp r 4 => A1S P ty Wg Ch Low0 M val box (n - (r + 1)) (SpT P ty Wg Ch n Low0 M val box Anch r)
  | .sp r 3 => KeS P ty Wg Ch Low0 M val box (n - (r + 1)) (SpT P ty Wg Ch n Low0 M val box Anch r)
  | .sp r 2 => GoT P ty Wg Ch Low0 M val box (n - (r + 1)) (SpT P ty Wg Ch n Low0 M val box Anch r)
  | .sp _ _ => fun _ _ _ => False
  | .kd => KdT P ty Wg Ch Low0 Anch
  | .anch => Anch
  | .w1 => W1T P ty Wg Ch Low0 Anch Post
  | .w2 vs => W2T P ty Wg Ch Low0 Anch Post vs
  | .w3 => W3T P ty Wg Ch Low0 Post
  | .blk => fun _ _ _ => False
  | .w4 => W4T P ty Wg Ch Low0 Post
  | .ke => KeT P ty Wg Ch Low0 Post
  | .acq => AcqT P Wg Post
  | .ret => fun _ _ _ => False
/-- how many are started; how deaf it is -/
def jOf (n : Nat) : CTag → Nat → Prop
  | .sp r _, j => r < n ∧ j = n - (r + 1)
  | _, j => j = n
def deafOf : CTag → Nat
  | .sp _ s => if s = 5 ∨ s = 2 then 0 else 1
  | .kd => 0
  | .acq => 0
  | .ret => 0
  | _ => 1
inductive TSit : CTag → Nat → Nat → Bag → Goroutine → World → Prop
  | walk {tag : CTag} {j m : Nat} {S : Bag} {g : Goroutine} {w : World} : jOf n tag j → TrS P ty Wg Ch Low0 (stopOf P ty Wg Ch n Low0 M val box Anch Post tag) m S g w → TSit tag j (m + 1) S g w
  | blk {S : Bag} {g : Goroutine} {w : World} : (∀ w₁, RSt ty Wg Ch Low0 S w w₁ → W3T P ty Wg Ch Low0 Post S g w₁) → TSit .blk n 0 S { g with status := .blocked } w
end
section
variable [Payload] {P : Program} {ty : TypeId} {Wg Ch n Low0 M : Nat} {val : Nat → Nat} {box : Nat → Value} {Anch Post : Bag → Goroutine → World → Prop} {tag : CTag} {j f : Nat} {S : Bag} {a : Goroutine} {w w' : World}
theorem fairS : Fair2 (RSt ty Wg Ch Low0) (DSt Wg Ch Low0) :=
  ⟨fun S a b c h h' => ⟨fairH.trans S a b c h.rh h'.rh, h'.os.trans h.os, h'.tape.trans h.tape, h'.output.trans h.output⟩, fun S w => ⟨Eff.refl _ _, fun e he => by simp at he⟩⟩
theorem RSt.refl (S : Bag) (w : World) : RSt ty Wg Ch Low0 S w w := ⟨rh_refl _ _ _ _ _, rfl, rfl, rfl⟩
theorem RSt.at (S : Bag) (w : World) (d : Nat) : RSt ty Wg Ch Low0 S w (w.at d) := ⟨⟨Nat.le_refl _, fun _ _ _ => rfl, fun _ _ => rfl, id⟩, rfl, rfl, rfl⟩
theorem stopOf_running (hAr : ∀ S g w, Anch S g w → g.status = .running) (tag : CTag) : ∀ S g w, stopOf P ty Wg Ch n Low0 M val box Anch Post tag S g w → g.status = .running := by
  intro S g w h
  unfold stopOf at h
  split at h
  · exact h.1
  · exact h.1
  · exact h.1
  · exact h.1
  · exact h.elim
  · exact h.1
  · exact hAr _ _ _ h
  · exact h.1
  · exact h.1
  · exact h.1
  · exact h.elim
  · exact h.1
  · exact h.1
  · exact h.1
  · exact h.elim
theorem TSit.rely (h : TSit P ty Wg Ch n Low0 M val box Anch Post tag j f S a w) (hr : RSt ty Wg Ch Low0 S w w') : TSit P ty Wg Ch n Low0 M val box Anch Post tag j f S a w' := by
  cases h with
  | walk hj h => exact .walk hj (h.rely fairS hr)
  | blk h => exact .blk fun w₂ h₂ => h w₂ (fairS.trans _ _ _ _ hr h₂)
theorem TSit.status (hAr : ∀ S g w, Anch S g w → g.status = .running) (h : TSit P ty Wg Ch n Low0 M val box Anch Post tag j f S a w) : (a.status = .running ∧ tag ≠ .blk) ∨ (a.status = .blocked ∧ tag = .blk ∧ a.offers = none) := by
  cases h with
  | walk hj h =>
    refine .inl ⟨Trek.running (stopOf_running hAr tag) (RSt.refl _ _) h, fun e => ?_⟩
    subst e
    have : ∀ {m : Nat} {S : Bag} {g : Goroutine} {w : World}, TrS P ty Wg Ch Low0 (fun _ _ _ => False) m S g w → False := by
      intro m
      induction m with
      | zero => exact fun {S g w} h => h w (RSt.refl _ _)
      | succ m ih =>
        intro S g w h
        rcases Trek.cases h with h | ⟨n', e, h⟩
        · exact h w (RSt.refl _ _)
        · obtain rfl : m = n' := by omega
          obtain ⟨_, _, _, _, _, h⟩ := h w (RSt.refl _ _)
          exact ih h
    exact this h
  | blk h => exact .inr ⟨rfl, rfl, (h w (RSt.refl _ _)).2.1⟩
/-- under another's step -/
theorem TSit.wokenBy (hAr : ∀ S g w, Anch S g w → g.status = .running) (h : TSit P ty Wg Ch n Low0 M val box Anch Post tag j f S a w) (hr : RSt ty Wg Ch Low0 S w w') (g g' : Goroutine) :
    ∃ tag' f', TSit P ty Wg Ch n Low0 M val box Anch Post tag' j f' S (woken P g g' w' a) w' ∧ f' ≤ f + 1 ∧ (tag' = tag ∨ (tag = .blk ∧ tag' = .w3)) ∧ (mayWake P g = true → g'.status = .running → tag' ≠ .blk) := by
  have h' := h.rely hr
  unfold Go.Conc.woken
  split
  · rcases h'.status hAr with ⟨hs, hne⟩ | ⟨_, rfl, _⟩
    · exact ⟨tag, f, by rw [again_running _ (.inl hs)]; exact h', by omega, .inl rfl, fun _ _ => hne⟩
    · have hj : j = n := by cases h with
        | walk hj hw => exact hj
        | blk hb => rfl
      have h3 : ∃ g0, a = { g0 with status := .blocked } ∧ ∀ w₁, RSt ty Wg Ch Low0 S w' w₁ → W3T P ty Wg Ch Low0 Post S g0 w₁ := by
        cases h' with
        | walk hj hw => exact absurd ((TSit.walk hj hw).status hAr) (by simp [Trek.running (stopOf_running hAr .blk) (RSt.refl _ _) hw])
        | blk hb => exact ⟨_, rfl, hb⟩
      obtain ⟨g0, rfl, hb⟩ := h3
      have h4 := hb w' (RSt.refl _ _)
      refine ⟨.w3, 0 + 1, by rw [again_blocked h4.1 h4.2.1]; exact .walk hj (Trek.stop hb), by omega, .inr ⟨rfl, rfl⟩, fun _ _ => by simp⟩
  · rename_i hc
    exact ⟨tag, f, h', by omega, .inl rfl, fun h1 h2 => absurd (by simp [h1, h2]) hc⟩
theorem TSit.bound (h : TSit P ty Wg Ch n Low0 M val box Anch Post tag j f S a w) : j + pend tag ≤ n := by
  have key : jOf n tag j → j + pend tag ≤ n := fun hj => by
    cases tag <;> simp only [jOf] at hj <;> simp only [pend]
    · obtain ⟨h1, h2⟩ := hj
      split <;> omega
    all_goals omega
  cases h with
  | walk hj h => exact key hj
  | blk h => exact key rfl
/-- what goes on under the starter's own events -/
theorem ok0_st {j : Nat} {X : Nat → GW} (hF : Fam Wg Ch Low0 j X S w.heap.size) {es : Array Event} {fn : FuncId} {pos : String} (h : ∀ e ∈ es, EvH Low0 (Shr0 Wg Ch) S w e ∨ EvG Wg e) :
    (∀ op ∈ MemOp.ofEvents 0 fn pos es, Ok0 (ShN Wg) (OwnX X j) (RdX X j) j op) ∧ (∀ op ∈ MemOp.ofEvents 0 fn pos es, op.act ≠ .mark (.release (stA Wg))) ∧ Seen w.heap.size (MemOp.ofEvents 0 fn pos es) ∧
      ∀ e ∈ es, e.loc ≠ .mark .disable ∧ e.loc ≠ .mark .enable := by
  have cellCase : ∀ e a, EvH Low0 (Shr0 Wg Ch) S w e → e.loc = .cell a → (S a.block ∨ (a.block < Low0 ∧ ¬ Shr0 Wg Ch a.block ∧ e.write = false)) := by
    rintro e a (⟨a', h1, h2⟩ | ⟨m, rfl, _⟩) he
    · rw [h1] at he; cases he; exact h2
    · cases he
  have kinds : ∀ e, EvH Low0 (Shr0 Wg Ch) S w e → (∃ a wr sy, e = ⟨.cell a, wr, sy⟩) ∨ ∃ m, e = ⟨.mark m, false, true⟩ ∧ Neutral m := by
    rintro ⟨loc, wr, sy⟩ (⟨a, h1, _⟩ | h)
    · cases h1; exact .inl ⟨a, wr, sy, rfl⟩
    · exact .inr h
  refine ⟨fun op hop => ?_, fun op hop => ?_, fun op hop => ?_, fun e he => ?_⟩
  · rw [ofEvents_eq] at hop
    obtain ⟨e, he, rfl⟩ := Array.mem_map.1 hop
    refine ⟨rfl, fun x hx => ?_⟩
    rcases h e he with hh | hg
    · rcases kinds e hh with ⟨a, wr, sy, rfl⟩ | ⟨m, rfl, hm⟩
      · have hc := cellCase _ a hh rfl
        simp only [Go.ConcR.ofEvent_cell, MemAct.touch?, Option.some.injEq] at hx
        subst hx
        refine .inr ⟨?_, fun k k1 kj => ?_, fun hw k k1 kj => ?_⟩
        · rintro ⟨a', e1, e2⟩
          cases e1
          rcases hc with hs | ⟨_, hs, _⟩
          · have := (hF.mine _ hs).1; have := hF.hW; omega
          · exact hs (.inl e2)
        · rintro ⟨i, a', hi, rfl, e1, hb⟩
          cases e1
          rcases hc with hs | ⟨hl, _, _⟩
          · exact ((hF.mine _ hs).2.2 i hi).2 hb
          · have := (hF.bag i hi _ hb).1; have := (hF.lw i hi).1; omega
        · rintro ⟨i, a', hi, rfl, e1, hl, _⟩
          cases e1
          rcases hc with hs | ⟨_, _, hw'⟩
          · have := ((hF.mine _ hs).2.2 i hi).1; omega
          · have hw : wr = true := hw
            have hw' : wr = false := hw'
            rw [hw] at hw'; cases hw'
      · cases hm; simp [MemAct.ofEvent, MemAct.touch?] at hx
    · exact .inl (hg.1 x hx)
  · rw [ofEvents_eq] at hop
    obtain ⟨e, he, rfl⟩ := Array.mem_map.1 hop
    intro hc
    have hc := loc_of_ofEvent hc
    rcases h e he with hh | hg
    · rcases kinds e hh with ⟨a, wr, sy, rfl⟩ | ⟨m, rfl, hm⟩
      · cases hc
      · cases hm; cases hc
    · exact hg.2.2.2 hc
  · rw [ofEvents_eq] at hop
    obtain ⟨e, he, rfl⟩ := Array.mem_map.1 hop
    intro x hx ad had
    rcases h e he with hh | hg
    · rcases kinds e hh with ⟨a, wr, sy, rfl⟩ | ⟨m, rfl, hm⟩
      · have hc := cellCase _ a hh rfl
        simp only [Go.ConcR.ofEvent_cell, MemAct.touch?, Option.some.injEq] at hx
        subst hx
        cases had
        rcases hc with hs | ⟨hl, _, _⟩
        · exact (hF.mine _ hs).2.1
        · have := hF.hz; omega
      · cases hm; simp [MemAct.ofEvent, MemAct.touch?] at hx
    · obtain ⟨⟨a', e1, e2⟩, _⟩ := hg.1 x hx
      rw [had] at e1
      cases e1
      have := hF.hW; have := hF.hz; omega
  · rcases h e he with hh | hg
    · rcases kinds e hh with ⟨a, wr, sy, rfl⟩ | ⟨m, rfl, hm⟩
      · exact ⟨by simp, by simp⟩
      · cases hm; exact ⟨by simp, by simp⟩
    · exact ⟨hg.2.1, hg.2.2.1⟩
/-- .. and under a worker's -/
theorem okW_st {j i : Nat} {X : Nat → GW} {S0 : Bag} (hF : Fam Wg Ch Low0 j X S0 w.heap.size) (hi : i < j) {es : Array Event} {fn : FuncId} {pos : String} (h : ∀ e ∈ es, EvH (X i).lw (X i).sh (X i).bag w e) :
    (∀ op ∈ MemOp.ofEvents (i + 1) fn pos es, OkW (ShN Wg) (OwnX X j) (RdX X j) (i + 1) op) ∧ (∀ op ∈ MemOp.ofEvents (i + 1) fn pos es, op.act ≠ .mark (.release (stA Wg))) ∧ Seen w.heap.size (MemOp.ofEvents (i + 1) fn pos es) ∧
      ∀ e ∈ es, e.loc ≠ .mark .disable ∧ e.loc ≠ .mark .enable := by
  have cellCase : ∀ e a, EvH (X i).lw (X i).sh (X i).bag w e → e.loc = .cell a → ((X i).bag a.block ∨ (a.block < (X i).lw ∧ ¬ (X i).sh a.block ∧ e.write = false)) := by
    rintro e a (⟨a', h1, h2⟩ | ⟨m, rfl, _⟩) he
    · rw [h1] at he; cases he; exact h2
    · cases he
  have kinds : ∀ e, EvH (X i).lw (X i).sh (X i).bag w e → (∃ a wr sy, e = ⟨.cell a, wr, sy⟩) ∨ ∃ m, e = ⟨.mark m, false, true⟩ ∧ Neutral m := by
    rintro ⟨loc, wr, sy⟩ (⟨a, h1, _⟩ | h)
    · cases h1; exact .inl ⟨a, wr, sy, rfl⟩
    · exact .inr h
  refine ⟨fun op hop => ?_, fun op hop => ?_, fun op hop => ?_, fun e he => ?_⟩
  · rw [ofEvents_eq] at hop
    obtain ⟨e, he, rfl⟩ := Array.mem_map.1 hop
    refine ⟨rfl, fun x hx => ?_⟩
    rcases kinds e (h e he) with ⟨a, wr, sy, rfl⟩ | ⟨m, rfl, hm⟩
    · have hc := cellCase _ a (h _ he) rfl
      simp only [Go.ConcR.ofEvent_cell, MemAct.touch?, Option.some.injEq] at hx
      subst hx
      rcases hc with hs | ⟨h1, h2, h3⟩
      · exact .inr (.inl ⟨i, a, hi, rfl, rfl, hs⟩)
      · exact .inr (.inr ⟨⟨i, a, hi, rfl, rfl, h1, h2⟩, h3⟩)
    · cases hm; simp [MemAct.ofEvent, MemAct.touch?] at hx
  · rw [ofEvents_eq] at hop
    obtain ⟨e, he, rfl⟩ := Array.mem_map.1 hop
    intro hc
    have hc := loc_of_ofEvent hc
    rcases kinds e (h e he) with ⟨a, wr, sy, rfl⟩ | ⟨m, rfl, hm⟩
    · cases hc
    · cases hm; cases hc
  · rw [ofEvents_eq] at hop
    obtain ⟨e, he, rfl⟩ := Array.mem_map.1 hop
    intro x hx ad had
    rcases kinds e (h e he) with ⟨a, wr, sy, rfl⟩ | ⟨m, rfl, hm⟩
    · have hc := cellCase _ a (h _ he) rfl
      simp only [Go.ConcR.ofEvent_cell, MemAct.touch?, Option.some.injEq] at hx
      subst hx
      cases had
      rcases hc with hs | ⟨hl, _, _⟩
      · exact (hF.bag i hi _ hs).2
      · have := (hF.lw i hi).2; omega
    · cases hm; simp [MemAct.ofEvent, MemAct.touch?] at hx
  · rcases kinds e (h e he) with ⟨a, wr, sy, rfl⟩ | ⟨m, rfl, hm⟩
    · exact ⟨by simp, by simp⟩
    · cases hm; exact ⟨by simp, by simp⟩
end
end Go.Proofs.YtmphfdibijbjeaaDoor
