/- HN, HO, HP, HQ, HR, HS, HX in one text. No condition. -/
import Derived.Test.YtmphfdibijbjeaaDoorHE
import Derived.Conc.CrowdRun
import Derived.Conc.CrowdComm
import Derived.Conc.Beside
import Derived.Conc.EventLaws
/- Workers that make memory, each with a box and blocks of its own: the families of blocks, whoever turns what; the trace's law when a family grows. Nothing of one program. -/
namespace Go.Proofs.YtmphfdibijbjeaaDoor
open Go.Conc Go.ConcN
open Go.ConcR (KK wgBlock WgAt stA smA rd wr mk Payload Aside2 DC0 Bk g_of_ofEvents)
set_option linter.unusedSimpArgs false
set_option linter.unusedVariables false
set_option maxRecDepth 100000
/-- what is told of a worker beside its stage: the heap's size at its go statement; the low blocks that are not for it; what it made; its box; has it sent? -/
structure GW where
  lw : Nat
  sh : Nat → Prop
  bag : Bag
  bd : Nat
  sent : Bool
/-- where the blocks lie, the heap's size being z -/
structure Fam (Wg Ch Low0 j : Nat) (X : Nat → GW) (S0 : Bag) (z : Nat) : Prop where
  hW : Wg < Low0
  hC : Ch < Low0
  hCW : Ch ≠ Wg
  hz : Low0 ≤ z
  lw : ∀ i, i < j → Low0 ≤ (X i).lw ∧ (X i).lw ≤ z
  bd : ∀ i, i < j → Low0 ≤ (X i).bd ∧ (X i).bd < (X i).lw
  bag : ∀ i, i < j → ∀ b, (X i).bag b → (X i).lw ≤ b ∧ b < z
  apart : ∀ i i', i < j → i' < j → i ≠ i' → ∀ b, (X i).bag b → ¬ (X i').bag b
  box : ∀ i i', i < j → i' < j → ¬ (X i).bag (X i').bd
  box2 : ∀ i i', i < j → i' < j → i ≠ i' → (X i).bd ≠ (X i').bd
  shG : ∀ i, i < j → (X i).sh Wg ∧ (X i).sh Ch
  shBag : ∀ i i', i < j → i' < j → i ≠ i' → ∀ b, (X i').bag b → b < (X i).lw → (X i).sh b
  shBd : ∀ i i', i < j → i' < j → i ≠ i' → (X i').bd < (X i).lw → (X i).sh (X i').bd
  mine : ∀ b, S0 b → Low0 ≤ b ∧ b < z ∧ ∀ i, i < j → (X i).lw ≤ b ∧ ¬ (X i).bag b
/-- what whoever acts may turn: the group, the channel, what is its own -/
def Part (Wg Ch : Nat) (X : Nat → GW) (S0 : Bag) : Option Nat → Nat → Prop
  | none, b => b = Wg ∨ b = Ch ∨ S0 b
  | some i, b => b = Wg ∨ b = Ch ∨ (X i).bag b ∨ b = (X i).bd
/-- the world but for the blocks T, and the new ones -/
structure Eff (T : Nat → Prop) (w w' : World) : Prop where
  size : w.heap.size ≤ w'.heap.size
  os : w'.os = w.os
  tape : w'.tape = w.tape
  output : w'.output = w.output
  block : ∀ b, b < w.heap.size → ¬ T b → w'.heap[b]? = w.heap[b]?
theorem Eff.mono {T T' : Nat → Prop} {w w' : World} (h : Eff T w w') (ht : ∀ b, T b → T' b) : Eff T' w w' := ⟨h.size, h.os, h.tape, h.output, fun b hb hn => h.block b hb fun x => hn (ht b x)⟩
theorem Eff.refl (T : Nat → Prop) (w : World) : Eff T w w := ⟨Nat.le_refl _, rfl, rfl, rfl, fun _ _ _ => rfl⟩
theorem Eff.at (T : Nat → Prop) (w : World) (d : Nat) : Eff T w (w.at d) := ⟨Nat.le_refl _, rfl, rfl, rfl, fun _ _ _ => rfl⟩
/-- the starter's low blocks that others turn -/
def Shr0 (Wg Ch : Nat) (b : Nat) : Prop := b = Wg ∨ b = Ch
abbrev NoLv : World → Prop := fun _ => True
section
variable {Wg Ch Low0 j : Nat} {X : Nat → GW} {S0 : Bag} {w w' : World} {who : Option Nat}
theorem Fam.out (h : Fam Wg Ch Low0 j X S0 w.heap.size) (hwho : ∀ k, who = some k → k < j) {i : Nat} (hi : i < j) (hne : who ≠ some i) {b : Nat} (hp : Part Wg Ch X S0 who b) :
    (b < (X i).lw → (X i).sh b) ∧ ¬ (X i).bag b ∧ b ≠ (X i).bd := by
  have h1 := h.lw i hi
  have h2 := h.bd i hi
  have hWb : b = Wg → (b < (X i).lw → (X i).sh b) ∧ ¬ (X i).bag b ∧ b ≠ (X i).bd := fun e => by
    subst e
    exact ⟨fun _ => (h.shG i hi).1, fun hb => by have := (h.bag i hi _ hb).1; have := h.hW; omega, fun e => by have := h.hW; omega⟩
  have hCb : b = Ch → (b < (X i).lw → (X i).sh b) ∧ ¬ (X i).bag b ∧ b ≠ (X i).bd := fun e => by
    subst e
    exact ⟨fun _ => (h.shG i hi).2, fun hb => by have := (h.bag i hi _ hb).1; have := h.hC; omega, fun e => by have := h.hC; omega⟩
  cases who with
  | none =>
    rcases hp with e | e | hs
    · exact hWb e
    · exact hCb e
    · obtain ⟨_, _, h5⟩ := h.mine b hs
      obtain ⟨h6, h7⟩ := h5 i hi
      exact ⟨fun _ => by omega, h7, fun e => by omega⟩
  | some k =>
    have hk := hwho k rfl
    have hki : k ≠ i := fun e => hne (e ▸ rfl)
    rcases hp with e | e | hb | e
    · exact hWb e
    · exact hCb e
    · exact ⟨fun hl => h.shBag i k hi hk (Ne.symm hki) b hb hl, h.apart k i hk hi hki b hb, fun e => h.box k i hk hi (e ▸ hb)⟩
    · subst e
      exact ⟨fun hl => h.shBd i k hi hk (Ne.symm hki) hl, h.box i k hi hk, h.box2 k i hk hi hki⟩
/-- another worker suffers it, its reckoning under way .. -/
theorem Fam.pre (h : Fam Wg Ch Low0 j X S0 w.heap.size) (hwho : ∀ k, who = some k → k < j) (e : Eff (Part Wg Ch X S0 who) w w') {i : Nat} (hi : i < j) (hne : who ≠ some i) :
    RH (X i).lw (X i).sh NoLv (X i).bag w w' :=
  ⟨e.size, fun b hb hs => e.block b (by have := (h.lw i hi).2; omega) fun hp => hs ((h.out hwho hi hne hp).1 hb), fun b hb => e.block b (h.bag i hi b hb).2 fun hp => (h.out hwho hi hne hp).2.1 hb, fun _ => trivial⟩
theorem Fam.boxAt (h : Fam Wg Ch Low0 j X S0 w.heap.size) (hwho : ∀ k, who = some k → k < j) (e : Eff (Part Wg Ch X S0 who) w w') {i : Nat} (hi : i < j) (hne : who ≠ some i) :
    w'.heap[(X i).bd]? = w.heap[(X i).bd]? :=
  e.block _ (by have := h.bd i hi; have := (h.lw i hi).2; omega) fun hp => (h.out hwho hi hne hp).2.2 rfl
/-- .. or behind its send -/
theorem Fam.tail [Payload] {ty : TypeId} (h : Fam Wg Ch Low0 j X S0 w.heap.size) (hwho : ∀ k, who = some k → k < j) (e : Eff (Part Wg Ch X S0 who) w w') (hl : WgLive ty Wg w') {i : Nat} (hi : i < j) (hne : who ≠ some i) :
    RW ty Wg (X i).bd 1 0 0 w w' := by
  have hb := h.boxAt hwho e hi hne
  exact ⟨fun b hb => absurd hb (Nat.not_lt_zero _), fun _ => hl, fun ⟨cs, hc, hn⟩ => ⟨cs, hb.trans hc, hn⟩, cell_of_block hb 0⟩
/-- the starter suffers a worker's -/
theorem Fam.start {Lv : World → Prop} (h : Fam Wg Ch Low0 j X S0 w.heap.size) {k : Nat} (hk : k < j) (e : Eff (Part Wg Ch X S0 (some k)) w w') (hl : Lv w') :
    RH Low0 (Shr0 Wg Ch) Lv S0 w w' := by
  refine ⟨e.size, fun b hb hs => e.block b (by have := h.hz; omega) fun hp => ?_, fun b hb => e.block b (h.mine b hb).2.1 fun hp => ?_, fun _ => hl⟩
  · rcases hp with x | x | x | x
    · exact hs (.inl x)
    · exact hs (.inr x)
    · have := (h.bag k hk b x).1; have := (h.lw k hk).1; omega
    · have := (h.bd k hk).1; omega
  · obtain ⟨h1, h2, h3⟩ := h.mine b hb
    obtain ⟨h4, h5⟩ := h3 k hk
    rcases hp with x | x | x | x
    · have := h.hW; omega
    · have := h.hC; omega
    · exact h5 x
    · have := (h.bd k hk).2; omega
/-- a worker's step: what it makes is its own -/
theorem Fam.work (h : Fam Wg Ch Low0 j X S0 w.heap.size) (hz : w.heap.size ≤ w'.heap.size) {k : Nat} (hk : k < j) {x' : GW} (e1 : x'.lw = (X k).lw) (e2 : x'.sh = (X k).sh) (e3 : x'.bd = (X k).bd) (e4 : x'.bag = more (X k).bag w w') :
    Fam Wg Ch Low0 j (upd X k x') S0 w'.heap.size := by
  have u : ∀ i, upd X k x' i = if i = k then x' else X i := fun i => rfl
  have lwE : ∀ i, (upd X k x' i).lw = (X i).lw := fun i => by rw [u]; split <;> simp [*]
  have shE : ∀ i, (upd X k x' i).sh = (X i).sh := fun i => by rw [u]; split <;> simp [*]
  have bdE : ∀ i, (upd X k x' i).bd = (X i).bd := fun i => by rw [u]; split <;> simp [*]
  have bagE : ∀ i b, (upd X k x' i).bag b → (X i).bag b ∨ (i = k ∧ w.heap.size ≤ b ∧ b < w'.heap.size) := fun i b hb => by
    rw [u] at hb
    split at hb
    · rename_i e; subst e; rw [e4] at hb; exact hb.imp id fun y => ⟨rfl, y⟩
    · exact .inl hb
  refine ⟨h.hW, h.hC, h.hCW, Nat.le_trans h.hz hz, fun i hi => ?_, fun i hi => ?_, fun i hi b hb => ?_, fun i i' hi hi' hn b hb hb' => ?_, fun i i' hi hi' hb => ?_, fun i i' hi hi' hn => ?_, fun i hi => ?_, fun i i' hi hi' hn b hb hl => ?_, fun i i' hi hi' hn hl => ?_, fun b hb => ?_⟩
  · rw [lwE]; have := h.lw i hi; omega
  · rw [lwE, bdE]; exact h.bd i hi
  · rw [lwE]
    rcases bagE i b hb with x | ⟨_, x1, x2⟩
    · have := h.bag i hi b x; omega
    · have := h.lw i hi; omega
  · rcases bagE i b hb with x | ⟨rfl, x1, x2⟩ <;> rcases bagE i' b hb' with y | ⟨rfl, y1, y2⟩
    · exact h.apart i i' hi hi' hn b x y
    · have := (h.bag i hi b x).2; omega
    · have := (h.bag i' hi' b y).2; omega
    · exact hn rfl
  · rw [bdE] at hb
    rcases bagE i _ hb with x | ⟨rfl, x1, x2⟩
    · exact h.box i i' hi hi' x
    · have := h.bd i' hi'; have := h.lw i' hi'; omega
  · rw [bdE, bdE]; exact h.box2 i i' hi hi' hn
  · rw [shE]; exact h.shG i hi
  · rw [lwE] at hl
    rw [shE]
    rcases bagE i' b hb with x | ⟨rfl, x1, x2⟩
    · exact h.shBag i i' hi hi' hn b x hl
    · have := h.lw i hi; omega
  · rw [lwE, bdE] at hl
    rw [shE, bdE]
    exact h.shBd i i' hi hi' hn hl
  · obtain ⟨h1, h2, h3⟩ := h.mine b hb
    refine ⟨h1, by omega, fun i hi => ?_⟩
    rw [lwE]
    obtain ⟨h4, h5⟩ := h3 i hi
    refine ⟨h4, fun hb' => ?_⟩
    rcases bagE i b hb' with x | ⟨rfl, x1, x2⟩
    · exact h5 x
    · omega
/-- the starter's step -/
theorem Fam.own (h : Fam Wg Ch Low0 j X S0 w.heap.size) (hz : w.heap.size ≤ w'.heap.size) : Fam Wg Ch Low0 j X (more S0 w w') w'.heap.size := by
  refine ⟨h.hW, h.hC, h.hCW, Nat.le_trans h.hz hz, fun i hi => ?_, h.bd, fun i hi b hb => ?_, h.apart, h.box, h.box2, h.shG, h.shBag, h.shBd, fun b hb => ?_⟩
  · have := h.lw i hi; omega
  · have := h.bag i hi b hb; omega
  · rcases hb with x | ⟨x1, x2⟩
    · obtain ⟨h1, h2, h3⟩ := h.mine b x
      exact ⟨h1, by omega, h3⟩
    · refine ⟨by have := h.hz; omega, x2, fun i hi => ?_⟩
      have h1 := h.lw i hi
      exact ⟨by omega, fun hb => by have := (h.bag i hi b hb).2; omega⟩
/-- what a new worker must leave alone of the low blocks -/
def shN (Wg Ch j : Nat) (X : Nat → GW) (b : Nat) : Prop := b = Wg ∨ b = Ch ∨ ∃ i, i < j ∧ ((X i).bag b ∨ b = (X i).bd)
def gwN (Wg Ch j : Nat) (X : Nat → GW) (z bd : Nat) : GW := ⟨z, shN Wg Ch j X, fun _ => False, bd, false⟩
theorem Fam.fork (h : Fam Wg Ch Low0 j X S0 w.heap.size) {bd : Nat} (hbd : S0 bd) : Fam Wg Ch Low0 (j + 1) (upd X j (gwN Wg Ch j X w.heap.size bd)) (fun _ => False) w.heap.size := by
  obtain ⟨m1, m2, m3⟩ := h.mine bd hbd
  have old : ∀ i, i < j → upd X j (gwN Wg Ch j X w.heap.size bd) i = X i := fun i hi => upd_ne X _ (by omega)
  have new : upd X j (gwN Wg Ch j X w.heap.size bd) j = gwN Wg Ch j X w.heap.size bd := upd_same X j _
  have two : ∀ i, i < j + 1 → i < j ∨ i = j := fun i hi => by omega
  refine ⟨h.hW, h.hC, h.hCW, h.hz, fun i hi => ?_, fun i hi => ?_, fun i hi b hb => ?_, fun i i' hi hi' hn b hb hb' => ?_, fun i i' hi hi' hb => ?_, fun i i' hi hi' hn => ?_, fun i hi => ?_, fun i i' hi hi' hn b hb hl => ?_, fun i i' hi hi' hn hl => ?_, fun b hb => hb.elim⟩
  · rcases two i hi with x | rfl
    · rw [old i x]; exact h.lw i x
    · rw [new]; exact ⟨h.hz, Nat.le_refl _⟩
  · rcases two i hi with x | rfl
    · rw [old i x]; exact h.bd i x
    · rw [new]; exact ⟨m1, m2⟩
  · rcases two i hi with x | rfl
    · rw [old i x] at hb ⊢; exact h.bag i x b hb
    · rw [new] at hb; exact hb.elim
  · rcases two i hi with x | rfl
    · rcases two i' hi' with y | rfl
      · rw [old i x] at hb; rw [old i' y] at hb'; exact h.apart i i' x y hn b hb hb'
      · rw [new] at hb'; exact hb'.elim
    · rw [new] at hb; exact hb.elim
  · rcases two i hi with x | rfl
    · rw [old i x] at hb
      rcases two i' hi' with y | rfl
      · rw [old i' y] at hb; exact h.box i i' x y hb
      · rw [new] at hb; exact (m3 i x).2 hb
    · rw [new] at hb; exact hb.elim
  · rcases two i hi with x | rfl
    · rcases two i' hi' with y | rfl
      · rw [old i x, old i' y]; exact h.box2 i i' x y hn
      · rw [old i x, new]; have := h.bd i x; have := (m3 i x).1; show (X i).bd ≠ bd; omega
    · rcases two i' hi' with y | rfl
      · rw [new, old i' y]; have := h.bd i' y; have := (m3 i' y).1; show bd ≠ (X i').bd; omega
      · exact absurd rfl hn
  · rcases two i hi with x | rfl
    · rw [old i x]; exact h.shG i x
    · rw [new]; exact ⟨.inl rfl, .inr (.inl rfl)⟩
  · rcases two i' hi' with y | rfl
    · rw [old i' y] at hb
      rcases two i hi with x | rfl
      · rw [old i x] at hl ⊢; exact h.shBag i i' x y hn b hb hl
      · rw [new]; exact .inr (.inr ⟨i', y, .inl hb⟩)
    · rw [new] at hb; exact hb.elim
  · rcases two i' hi' with y | rfl
    · rw [old i' y] at hl ⊢
      rcases two i hi with x | rfl
      · rw [old i x] at hl ⊢; exact h.shBd i i' x y hn hl
      · rw [new]; exact .inr (.inr ⟨i', y, .inr rfl⟩)
    · rw [new] at hl ⊢
      rcases two i hi with x | rfl
      · rw [old i x] at hl; have := (m3 i x).1; have hl : bd < (X i).lw := hl; omega
      · exact absurd rfl hn
/-- of a new worker's share: neither its box nor what is low for the starter -/
theorem Fam.shNot (h : Fam Wg Ch Low0 j X S0 w.heap.size) {bd : Nat} (hbd : S0 bd) : ¬ shN Wg Ch j X bd ∧ ∀ b, b < Low0 → b ≠ Wg → b ≠ Ch → ¬ shN Wg Ch j X b := by
  obtain ⟨m1, m2, m3⟩ := h.mine bd hbd
  refine ⟨?_, fun b hb hw hc => ?_⟩
  · rintro (e | e | ⟨i, hi, hx | hx⟩)
    · have := h.hW; omega
    · have := h.hC; omega
    · exact (m3 i hi).2 hx
    · have := (m3 i hi).1; have := (h.bd i hi).2; omega
  · rintro (e | e | ⟨i, hi, hx | hx⟩)
    · exact hw e
    · exact hc e
    · have := (h.bag i hi b hx).1; have := (h.lw i hi).1; omega
    · have := (h.bd i hi).1; omega
end
/-! ### the trace -/
/-- worker k alone touches them -/
def OwnX (X : Nat → GW) (j k : Nat) (l : Loc) : Prop := ∃ i a, i < j ∧ k = i + 1 ∧ l = .cell a ∧ (X i).bag a.block
/-- it may read them -/
def RdX (X : Nat → GW) (j k : Nat) (l : Loc) : Prop := ∃ i a, i < j ∧ k = i + 1 ∧ l = .cell a ∧ a.block < (X i).lw ∧ ¬ (X i).sh a.block
section
variable {Wg Ch Low0 j : Nat} {X : Nat → GW} {S0 : Bag} {z : Nat}
theorem Fam.apartX (h : Fam Wg Ch Low0 j X S0 z) : Apart (ShN Wg) (OwnX X j) (RdX X j) := by
  refine ⟨fun k k' l => ?_, fun k k' l => ?_, fun k l => ?_, fun k l => ?_⟩
  · rintro ⟨i, a, hi, rfl, rfl, hb⟩ ⟨i', a', hi', rfl, e, hb'⟩
    cases e
    by_cases e : i = i'
    · rw [e]
    · exact absurd hb' (h.apart i i' hi hi' e _ hb)
  · rintro ⟨i, a, hi, rfl, rfl, hb⟩ ⟨i', a', hi', rfl, e, hl, hs⟩
    cases e
    by_cases e : i' = i
    · subst e; have := (h.bag i' hi _ hb).1; omega
    · exact hs (h.shBag i' i hi' hi e _ hb hl)
  · rintro ⟨i, a, hi, rfl, rfl, hb⟩ ⟨a', e, he⟩
    cases e
    have := (h.bag i hi _ hb).1; have := (h.lw i hi).1; have := h.hW; omega
  · rintro ⟨i, a, hi, rfl, rfl, hl, hs⟩ ⟨a', e, he⟩
    cases e
    exact hs (he ▸ (h.shG i hi).1)
end
/-- a family that grows by what nobody has touched -/
theorem CT.fam {Sh : Loc → Prop} {Own Rd Own' Rd' : Nat → Loc → Prop} {t : Trace} {j : Nat} (h : CT Sh Own Rd t j)
    (h1 : ∀ k l, 1 ≤ k → k ≤ j → Own' k l → Own k l ∨ ∀ i a, touchAt t i = some a → a.loc ≠ l) (h2 : ∀ k l, 1 ≤ k → k ≤ j → Own k l → Own' k l) (h3 : ∀ k l, 1 ≤ k → k ≤ j → (Rd' k l ↔ Rd k l)) : CT Sh Own' Rd' t j := by
  refine ⟨h.quiet, fun k k1 kj l hl => ?_, fun k k1 kj l hl => h.rd k k1 kj l ((h3 k l k1 kj).1 hl), fun l hs hl => h.free l hs fun k k1 kj => ⟨fun x => (hl k k1 kj).1 (h2 k l k1 kj x), fun x => (hl k k1 kj).2 ((h3 k l k1 kj).2 x)⟩, fun l hs hl => h.mine l hs fun k k1 kj x => hl k k1 kj (h2 k l k1 kj x), h.nr, h.gs⟩
  rcases h1 k l k1 kj hl with x | x
  · exact h.own k k1 kj l x
  · exact fun i a ha e => absurd e (x i a ha)
/-- every cell that was touched lies below -/
def Seen (B : Nat) (t : Trace) : Prop := ∀ op ∈ t, ∀ x, op.act.touch? = some x → ∀ a, x.loc = .cell a → a.block < B
theorem Seen.mono {B B' : Nat} {t : Trace} (h : Seen B t) (hB : B ≤ B') : Seen B' t := fun op hop x hx a ha => Nat.lt_of_lt_of_le (h op hop x hx a ha) hB
theorem Seen.app {B : Nat} {t u : Trace} (h : Seen B t) (hu : Seen B u) : Seen B (t ++ u) := fun op hop => (Array.mem_append.1 hop).elim (h op) (hu op)
theorem Seen.none {B : Nat} {u : Trace} (h : ∀ op ∈ u, op.act.touch? = none) : Seen B u := fun op hop x hx => by rw [h op hop] at hx; cases hx
theorem Seen.low {t : Trace} {B : Nat} (h : Seen B t) {i : Nat} {a : Touch} (ha : touchAt t i = some a) {ad : Addr} (e : a.loc = .cell ad) : ad.block < B := by
  obtain ⟨op, ho, hoa⟩ := touch_of ha
  exact h op (Array.mem_of_getElem? ho) a hoa ad e
end Go.Proofs.YtmphfdibijbjeaaDoor
/- Workers that make memory: a worker's situations; what holds of machine and trace at every moment; the two master laws. Nothing of one program. -/
namespace Go.Proofs.YtmphfdibijbjeaaDoor
open Go.Conc Go.ConcN
open Go.ConcR (KK wgBlock WgAt stA smA rd wr mk Payload Aside2 DC0 Bk g_of_ofEvents again_blocked loc_of_ofEvent)
set_option linter.unusedSimpArgs false
set_option linter.unusedVariables false
set_option maxRecDepth 100000
set_option linter.unusedSectionVars false
theorem Trek.cases {P : Program} {main : Bool} {R : Bag → World → World → Prop} {D : Bag → World → World → Array Event → Prop} {Stop : Bag → Goroutine → World → Prop} {n : Nat} {S : Bag} {g : Goroutine} {w : World}
    (h : Trek P main R D Stop n S g w) : (∀ w₁, R S w w₁ → Stop S g w₁) ∨ ∃ n', n = n' + 1 ∧ ∀ w₁, R S w w₁ → ∃ g' w' es, stepG P main g w₁ = .go g' w' es ∧ D S w₁ w' es ∧ Trek P main R D Stop n' (_root_.Go.Proofs.YtmphfdibijbjeaaDoor.more S w₁ w') g' w' := by
  cases n with
  | zero => exact .inl h
  | succ n =>
    rcases h with h | ⟨_, h⟩
    · exact .inl h
    · refine .inr ⟨n, rfl, fun w₁ h₁ => ?_⟩
      have h2 := h w₁ h₁
      revert h2
      cases hs : stepG P main g w₁ <;> simp only [GStep.goes, false_implies]
      exact fun x => ⟨_, _, _, rfl, x.1, x.2⟩
theorem Trek.running {P : Program} {main : Bool} {R : Bag → World → World → Prop} {D : Bag → World → World → Array Event → Prop} {Stop : Bag → Goroutine → World → Prop} {n : Nat} {S : Bag} {g : Goroutine} {w : World}
    (hst : ∀ S g w, Stop S g w → g.status = .running) (hr : R S w w) (h : Trek P main R D Stop n S g w) : g.status = .running := by
  cases n with
  | zero => exact hst _ _ _ (h w hr)
  | succ n => exact h.elim (fun x => hst _ _ _ (x w hr)) fun x => x.1
abbrev noN : Nat → Loc → Prop := fun _ _ => False
/-- the stop at the send -/
def AtSnd (P : Program) (C : Nat) (v : Value) (Next : Bag → Goroutine → World → Prop) (S : Bag) (g : Goroutine) (w : World) : Prop :=
  g.status = .running ∧ ∃ g₂ z, stepG P false g w = .comm g₂ #[scase C v z] true .send w #[] ∧ Next S (Go.Conc.served g₂ undef) w
section
variable [Payload] (P : Program) (ty : TypeId) (Wg Ch n Low0 M : Nat)
/-- behind its send: within M steps at its release -/
def NextT (u : Value) (bd : Nat) (_ : Bag) (g : Goroutine) (w : World) : Prop :=
  Has bd 0 u w ∧ ∀ w₁, WgLive ty Wg w₁ → Has bd 0 u w₁ → ∃ m, m ≤ M ∧ Goes P false (RW ty Wg bd 1 0 (1 - 1)) (DWs Wg noN noN bd 1 1) (AtR0 P ty Wg bd 1 0 1 u) m g w₁
/-- a worker: on its way to the send; or as the kit has it -/
inductive KSit (x : GW) (v u : Value) : Nat → Nat → Nat → Goroutine → World → Prop
  | pre {m : Nat} {g : Goroutine} {w : World} : x.sent = false → Trek P false (RH x.lw x.sh NoLv) (DH x.lw x.sh) (AtSnd P Ch v (NextT P ty Wg M u x.bd)) m x.bag g w → KSit x v u 7 (m + M + 1) 0 g w
  | tail {s m d : Nat} {g : Goroutine} {w : World} : x.sent = true → WSit P ty Wg x.bd 1 noN noN 0 1 u s m d g w → KSit x v u s m d g w
/-- the worker's release, and nothing but the group's cells behind it -/
def Rel2 (t : Trace) (k : Nat) : Prop := ∃ r, RelBy (stA Wg) t k r ∧ ∀ i a, r < i → t.g? i = some k → touchAt t i = some a → ShN Wg a.loc
def sentN (j : Nat) (X : Nat → GW) : Nat := sumTo j fun i => if (X i).sent then 1 else 0
def sentV (val : Nat → Nat) (j : Nat) (X : Nat → GW) : Nat := sumTo j fun i => if (X i).sent then val i else 0
/-- the channel: so many values, of such a sum -/
def ChanHas (N sum : Nat) (w : World) : Prop := ∃ (l : List Nat) (s : Nat), w.heap[Ch]? = some (.chan n (l.map fun x => Value.int .i64 (x : Nat)).toArray false s 0 false) ∧ l.length = N ∧ l.sum = sum
variable (val : Nat → Nat) (box : Nat → Value)
structure KCom (j : Nat) (gs : Array Goroutine) (w : World) (t : Trace) (D : Nat → WD) (X : Nat → GW) (S0 : Bag) (d0 : Nat) : Prop where
  size : gs.size = j + 1
  wk : ∀ i, i < j → ∃ g, gs[i + 1]? = some g ∧ KSit P ty Wg Ch M (X i) (.int .i64 (val i : Nat)) (box i) (D i).stage (D i).fuel (D i).deaf g w
  fam : Fam Wg Ch Low0 j X S0 w.heap.size
  ct : CT (ShN Wg) (OwnX X j) (RdX X j) t j
  seen : Seen w.heap.size t
  norel : NoRelease (stA Wg) t
  deaf0 : Deaf t 0 = d0
  deafW : ∀ i, i < j → Deaf t (i + 1) = (D i).deaf
  rel : ∀ i, i < j → (D i).stage ≤ 6 → Rel2 Wg t (i + 1)
  chan : ChanHas Ch n (sentN j X) (sentV val j X) w
end
section
variable [Payload] {P : Program} {ty : TypeId} {Wg Ch n Low0 M : Nat} {val : Nat → Nat} {box : Nat → Value} {x : GW} {v u : Value} {s m d : Nat} {g : Goroutine} {w w' : World}
theorem KSit.rely (h : KSit P ty Wg Ch M x v u s m d g w) (h1 : RH x.lw x.sh NoLv x.bag w w') (h2 : RW ty Wg x.bd 1 0 0 w w') : KSit P ty Wg Ch M x v u s m d g w' := by
  cases h with
  | pre hs h => exact .pre hs (h.rely fairH h1)
  | tail hs h => exact .tail hs (h.rely h2)
theorem rh_refl (Low : Nat) (Shr : Nat → Prop) (Lv : World → Prop) (S : Bag) (w : World) : RH Low Shr Lv S w w := ⟨Nat.le_refl _, fun _ _ _ => rfl, fun _ _ => rfl, id⟩
theorem rh_at (Low : Nat) (Shr : Nat → Prop) (S : Bag) (w : World) (d : Nat) : RH Low Shr NoLv S w (w.at d) := ⟨Nat.le_refl _, fun _ _ _ => rfl, fun _ _ => rfl, id⟩
theorem KSit.at (h : KSit P ty Wg Ch M x v u s m d g w) (d' : Nat) : KSit P ty Wg Ch M x v u s m d g (w.at d') := h.rely (rh_at _ _ _ _ _) (RW.at w d')
theorem KSit.status (h : KSit P ty Wg Ch M x v u s m d g w) : g.status = .running ∨ g.status = .finished := by
  cases h with
  | pre hs h => exact .inl (Trek.running (fun _ _ _ x => x.1) (rh_refl _ _ _ _ _) h)
  | tail hs h => exact h.status
theorem KSit.running_of (h : KSit P ty Wg Ch M x v u s m d g w) (hs : s ≠ 1) : g.status = .running := by
  cases h with
  | pre _ h => exact Trek.running (fun _ _ _ x => x.1) (rh_refl _ _ _ _ _) h
  | tail _ h => exact h.running_of hs
theorem KSit.sent_of (h : KSit P ty Wg Ch M x v u s m d g w) (hs : s ≤ 6) : x.sent = true := by
  cases h with
  | pre hs' h => omega
  | tail hs' h => exact hs'
theorem KSit.quits (h : KSit P ty Wg Ch M x v u s m d g w) (hs : s = 1) : QuitsD P m d g := by
  cases h with
  | pre hs' h => omega
  | tail hs' h => exact WSit.quits h hs
theorem ChanHas.eff {N sum : Nat} (h : ChanHas Ch n N sum w) (hc : w'.heap[Ch]? = w.heap[Ch]?) : ChanHas Ch n N sum w' := by
  obtain ⟨l, s, h1, h2, h3⟩ := h
  exact ⟨l, s, hc.trans h1, h2, h3⟩
theorem Rel2.other {t u : Trace} {k g : Nat} (h : Rel2 Wg t k) (hu : ∀ op ∈ u, op.g = g) (hg : g ≠ k) : Rel2 Wg (t ++ u) k := by
  obtain ⟨r, hr, ht⟩ := h
  refine ⟨r, hr.appOther hu hg, fun i a hi hgi ha => ?_⟩
  obtain ⟨op, ho, hog⟩ := Option.map_eq_some_iff.1 hgi
  rcases getElem?_append_cases ho with ⟨hlt, ho'⟩ | ⟨_, hou⟩
  · exact ht i a hi (by rw [← g?_old (u := u) hlt]; exact hgi) (by rw [← touchAt_old (u := u) hlt]; exact ha)
  · rw [hu op hou] at hog; exact absurd hog hg
theorem Rel2.not {t u : Trace} {k : Nat} (h : Rel2 Wg t k) (hu : ∀ op ∈ u, op.g ≠ k) : Rel2 Wg (t ++ u) k := by
  obtain ⟨r, hr, ht⟩ := h
  refine ⟨r, hr.appNot hu, fun i a hi hgi ha => ?_⟩
  obtain ⟨op, ho, hog⟩ := Option.map_eq_some_iff.1 hgi
  rcases getElem?_append_cases ho with ⟨hlt, ho'⟩ | ⟨_, hou⟩
  · exact ht i a hi (by rw [← g?_old (u := u) hlt]; exact hgi) (by rw [← touchAt_old (u := u) hlt]; exact ha)
  · exact absurd hog (hu op hou)
theorem touch_bk {e : Event} (h : Bk Wg e) {x : Touch} (hx : (MemAct.ofEvent e).touch? = some x) : ShN Wg x.loc := by
  rcases h with h1 | h1 | ⟨a, wr, rfl, ha⟩
  · simp only [Go.ConcR.ofEvent_loc_mark h1] at hx; cases hx
  · simp only [Go.ConcR.ofEvent_loc_mark h1] at hx; cases hx
  · simp only [Go.ConcR.ofEvent_cell, MemAct.touch?, Option.some.injEq] at hx
    subst hx
    exact ⟨a, rfl, ha⟩
theorem seen_bk {es : Array Event} (h : ∀ e ∈ es, Bk Wg e) {B : Nat} (hB : Wg < B) {g : Nat} {fn : FuncId} {pos : String} : Seen B (MemOp.ofEvents g fn pos es) := by
  intro op hop x hx a ha
  rw [ofEvents_eq] at hop
  obtain ⟨e, he, rfl⟩ := Array.mem_map.1 hop
  obtain ⟨a', e1, e2⟩ := touch_bk (h e he) hx
  rw [ha] at e1
  cases e1
  omega
theorem Rel2.book {t : Trace} {k d : Nat} (h : Rel2 Wg t k) (hdk : Deaf t k = d) (fn : FuncId) (pos : String) {es : Array Event} (hes : ∀ e ∈ es, Bk Wg e)
    (hd : ∀ j e, es[j]? = some e → (MemAct.ofEvent e).touch? = none ∨ 0 < deafBehind d (es.extract 0 j)) : Rel2 Wg (t ++ MemOp.ofEvents k fn pos es) k := by
  obtain ⟨r, hr, ht⟩ := h
  refine ⟨r, hr.book hdk fn pos hes hd, fun i a hi hgi ha => ?_⟩
  obtain ⟨op, ho, hoa⟩ := touch_of ha
  rcases getElem?_append_cases ho with ⟨hlt, ho'⟩ | ⟨_, hou⟩
  · exact ht i a hi (by rw [← g?_old hlt]; exact hgi) (by rw [← touchAt_old hlt]; exact ha)
  · rw [ofEvents_eq] at hou
    obtain ⟨e, he, rfl⟩ := Array.mem_map.1 hou
    exact touch_bk (hes e he) hoa
theorem Rel2.new {t : Trace} {k : Nat} (hd : Deaf t k = 0) (fn : FuncId) (pos : String) : Rel2 Wg (t ++ MemOp.ofEvents k fn pos #[mk (.releaseMerge (stA Wg))]) k := by
  refine ⟨t.size, RelBy.new hd fn pos, fun i a hi hgi ha => ?_⟩
  obtain ⟨op, ho, hoa⟩ := touch_of ha
  rcases getElem?_append_cases ho with ⟨hlt, ho'⟩ | ⟨_, hou⟩
  · omega
  · rw [ofEvents_eq] at hou
    obtain ⟨e, he, rfl⟩ := Array.mem_map.1 hou
    simp only [List.mem_toArray, List.mem_cons, List.not_mem_nil, or_false] at he
    subst he
    simp [Go.ConcR.ofEvent_mk, MemAct.touch?] at hoa
end
section
variable [Payload] {P : Program} {ty : TypeId} {Wg Ch n Low0 M : Nat} {val : Nat → Nat} {box : Nat → Value} {j : Nat} {gs gs' : Array Goroutine} {w w' : World} {t u : Trace} {D : Nat → WD} {X : Nat → GW} {S0 : Bag} {d0 : Nat}
theorem KCom.at (h : KCom P ty Wg Ch n Low0 M val box j gs w t D X S0 d0) (d : Nat) : KCom P ty Wg Ch n Low0 M val box j gs (w.at d) t D X S0 d0 :=
  ⟨h.size, fun i hi => let ⟨g, hg, hs⟩ := h.wk i hi; ⟨g, hg, hs.at d⟩, h.fam, h.ct, h.seen, h.norel, h.deaf0, h.deafW, h.rel, h.chan⟩
theorem sumTo_sent (φ : Nat → GW → Nat) {X : Nat → GW} {i : Nat} {x' : GW} : ∀ {j : Nat}, i < j → sumTo j (fun a => φ a (upd X i x' a)) + φ i (X i) = sumTo j (fun a => φ a (X a)) + φ i x'
  | j + 1, h => by
    rcases Nat.lt_or_ge i j with hlt | hge
    · have := sumTo_sent φ (X := X) (x' := x') hlt
      simp only [sumTo, upd_ne X x' (show j ≠ i by omega)]
      omega
    · obtain rfl : i = j := by omega
      simp only [sumTo, upd_same]
      rw [sumTo_congr (g := fun a => φ a (X a)) (fun a ha => by rw [upd_ne X x' (by omega)])]
      omega
theorem sent_same {i : Nat} {x' : GW} (hi : i < j) (e : x'.sent = (X i).sent) : sentN j (upd X i x') = sentN j X ∧ sentV val j (upd X i x') = sentV val j X := by
  have h1 := sumTo_sent (fun _ y => if y.sent then 1 else 0) (X := X) (x' := x') hi
  have h2 := sumTo_sent (fun a y => if y.sent then val a else 0) (X := X) (x' := x') hi
  simp only [e] at h1 h2
  exact ⟨by unfold sentN; omega, by unfold sentV; omega⟩
theorem sent_more {i : Nat} {x' : GW} (hi : i < j) (e : x'.sent = true) (e0 : (X i).sent = false) : sentN j (upd X i x') = sentN j X + 1 ∧ sentV val j (upd X i x') = sentV val j X + val i := by
  have h1 := sumTo_sent (fun _ y => if y.sent then 1 else 0) (X := X) (x' := x') hi
  have h2 := sumTo_sent (fun a y => if y.sent then val a else 0) (X := X) (x' := x') hi
  simp only [e, e0, if_true, Bool.false_eq_true, if_false] at h1 h2
  exact ⟨by unfold sentN; omega, by unfold sentV; omega⟩
/-- a step of worker number i -/
theorem KCom.stepW (h : KCom P ty Wg Ch n Low0 M val box j gs w t D X S0 d0) {i : Nat} (hi : i < j) {g' : Goroutine} {x' : GW} {s' m' dd' : Nat}
    (hsz : gs'.size = gs.size) (hg' : gs'[i + 1]? = some g') (hoth : ∀ (k : Nat) (y : Goroutine), k ≠ 0 → k ≠ i + 1 → (y.status = .running ∨ y.status = .finished) → gs[k]? = some y → gs'[k]? = some y)
    (he : Eff (Part Wg Ch X S0 (some i)) w w') (hl : WgLive ty Wg w')
    (e1 : x'.lw = (X i).lw) (e2 : x'.sh = (X i).sh) (e3 : x'.bd = (X i).bd) (e4 : x'.bag = more (X i).bag w w')
    (hs' : KSit P ty Wg Ch M x' (.int .i64 (val i : Nat)) (box i) s' m' dd' g' w')
    (hu : ∀ op ∈ u, OkW (ShN Wg) (OwnX X j) (RdX X j) (i + 1) op) (hnr : ∀ op ∈ u, op.act ≠ .mark (.release (stA Wg))) (hlow : Seen w.heap.size u)
    (hdeaf : Deaf (t ++ u) (i + 1) = dd') (hrel : s' ≤ 6 → Rel2 Wg (t ++ u) (i + 1))
    (hch : ChanHas Ch n (sentN j (upd X i x')) (sentV val j (upd X i x')) w') :
    KCom P ty Wg Ch n Low0 M val box j gs' w' (t ++ u) (upd D i ⟨s', m', dd'⟩) (upd X i x') S0 d0 := by
  have hwho : ∀ k, some i = some k → k < j := fun k e => by cases e; exact hi
  have hug : ∀ op ∈ u, op.g = i + 1 := fun op hop => (hu op hop).1
  have hseen : Seen w.heap.size (t ++ u) := h.seen.app hlow
  have hct := h.ct.appW h.fam.apartX (by omega) (show i + 1 ≤ j by omega) hu
  refine ⟨by rw [hsz, h.size], fun i' hi' => ?_, h.fam.work he.size hi e1 e2 e3 e4, ?_, hseen.mono he.size, h.norel.app hnr, by rw [Deaf_other t (by omega) _ hug, h.deaf0], fun i' hi' => ?_, fun i' hi' hst => ?_, hch⟩
  · by_cases e : i' = i
    · subst e
      exact ⟨g', hg', by rw [upd_same, upd_same]; exact hs'⟩
    · obtain ⟨y, hy, hsy⟩ := h.wk i' hi'
      refine ⟨y, hoth _ y (by omega) (by omega) hsy.status hy, ?_⟩
      rw [upd_ne D _ e, upd_ne X _ e]
      exact hsy.rely (h.fam.pre hwho he hi' (by simp; omega)) (h.fam.tail hwho he hl hi' (by simp; omega))
  · refine CT.fam hct (fun k l k1 kj => ?_) (fun k l k1 kj => ?_) (fun k l k1 kj => ?_)
    · rintro ⟨i', a, hi', rfl, rfl, hb⟩
      by_cases e : i' = i
      · subst e
        rw [upd_same, e4] at hb
        rcases hb with hb | ⟨hb, _⟩
        · exact .inl ⟨i', a, hi', rfl, rfl, hb⟩
        · exact .inr fun p b hb' e' => by have := hseen.low hb' e'; omega
      · rw [upd_ne X _ e] at hb
        exact .inl ⟨i', a, hi', rfl, rfl, hb⟩
    · rintro ⟨i', a, hi', rfl, rfl, hb⟩
      refine ⟨i', a, hi', rfl, rfl, ?_⟩
      by_cases e : i' = i
      · subst e; rw [upd_same, e4]; exact .inl hb
      · rw [upd_ne X _ e]; exact hb
    · constructor
      · rintro ⟨i', a, hi', rfl, rfl, hb, hs⟩
        refine ⟨i', a, hi', rfl, rfl, ?_⟩
        by_cases e : i' = i
        · subst e; rw [upd_same, e1] at hb; rw [upd_same, e2] at hs; exact ⟨hb, hs⟩
        · rw [upd_ne X _ e] at hb hs; exact ⟨hb, hs⟩
      · rintro ⟨i', a, hi', rfl, rfl, hb, hs⟩
        refine ⟨i', a, hi', rfl, rfl, ?_⟩
        by_cases e : i' = i
        · subst e; rw [upd_same, e1, e2]; exact ⟨hb, hs⟩
        · rw [upd_ne X _ e]; exact ⟨hb, hs⟩
  · by_cases e : i' = i
    · subst e; rw [upd_same]; exact hdeaf
    · rw [Deaf_other t (by omega) _ hug, h.deafW i' hi', upd_ne D _ e]
  · by_cases e : i' = i
    · subst e; rw [upd_same] at hst; exact hrel hst
    · rw [upd_ne D _ e] at hst
      exact (h.rel i' hi' hst).other hug (by omega)
/-- a step of the starter -/
theorem KCom.step0 (h : KCom P ty Wg Ch n Low0 M val box j gs w t D X S0 d0) {d' : Nat}
    (hsz : gs'.size = gs.size) (hoth : ∀ (k : Nat) (y : Goroutine), k ≠ 0 → (y.status = .running ∨ y.status = .finished) → gs[k]? = some y → gs'[k]? = some y)
    (he : Eff (Part Wg Ch X S0 none) w w') (hl : WgLive ty Wg w') (hc : w'.heap[Ch]? = w.heap[Ch]?)
    (hu : ∀ op ∈ u, Ok0 (ShN Wg) (OwnX X j) (RdX X j) j op) (hnr : ∀ op ∈ u, op.act ≠ .mark (.release (stA Wg))) (hlow : Seen w.heap.size u) (hdeaf : Deaf (t ++ u) 0 = d') :
    KCom P ty Wg Ch n Low0 M val box j gs' w' (t ++ u) D X (more S0 w w') d' := by
  have hwho : ∀ k, (none : Option Nat) = some k → k < j := fun k e => by cases e
  have hug : ∀ op ∈ u, op.g = 0 := fun op hop => (hu op hop).1
  have hseen : Seen w.heap.size (t ++ u) := h.seen.app hlow
  refine ⟨by rw [hsz, h.size], fun i hi => ?_, h.fam.own he.size, h.ct.app0 h.fam.apartX hu, hseen.mono he.size, h.norel.app hnr, hdeaf, fun i hi => by rw [Deaf_other t (by omega) _ hug, h.deafW i hi], fun i hi hst => (h.rel i hi hst).other hug (by omega), h.chan.eff hc⟩
  obtain ⟨y, hy, hsy⟩ := h.wk i hi
  exact ⟨y, hoth _ y (by omega) hsy.status hy, hsy.rely (h.fam.pre hwho he hi (by simp)) (h.fam.tail hwho he hl hi (by simp))⟩
/-- the go statement -/
theorem KCom.spawn (h : KCom P ty Wg Ch n Low0 M val box j gs w t D X S0 0) {a' child : Goroutine} {x y : MemOp} {m bd : Nat} (hx : x.g = 0 ∧ x.act = .go (j + 1)) (hy : y.g = j + 1 ∧ y.act = .start) (hbd : S0 bd)
    (hc : Trek P false (RH w.heap.size (shN Wg Ch j X) NoLv) (DH w.heap.size (shN Wg Ch j X)) (AtSnd P Ch (.int .i64 (val j : Nat)) (NextT P ty Wg M (box j) bd)) m (fun _ => False) child w) :
    KCom P ty Wg Ch n Low0 M val box (j + 1) ((gs.setIfInBounds 0 a').push child) w (t ++ #[x, y]) (upd D j ⟨7, m + M + 1, 0⟩) (upd X j (gwN Wg Ch j X w.heap.size bd)) (fun _ => False) 0 := by
  have hm : ∀ op ∈ #[x, y], op = x ∨ op = y := by intro op hop; simpa using hop
  have hst : ∀ op ∈ #[x, y], op.act ≠ .mark .disable ∧ op.act ≠ .mark .enable := by
    intro op hop
    rcases hm op hop with rfl | rfl
    · rw [hx.2]; exact ⟨by simp, by simp⟩
    · rw [hy.2]; exact ⟨by simp, by simp⟩
  have old : ∀ i, i < j → upd X j (gwN Wg Ch j X w.heap.size bd) i = X i := fun i hi => upd_ne X _ (by omega)
  have hF := h.fam.fork hbd
  have hc2 : CT (ShN Wg) (OwnX (upd X j (gwN Wg Ch j X w.heap.size bd)) (j + 1)) (RdX (upd X j (gwN Wg Ch j X w.heap.size bd)) (j + 1)) t j := by
    refine CT.fam h.ct (fun k l k1 kj => ?_) (fun k l k1 kj => ?_) (fun k l k1 kj => ?_)
    · rintro ⟨i, a, hi, rfl, rfl, hb⟩
      rw [old i (by omega)] at hb
      exact .inl ⟨i, a, by omega, rfl, rfl, hb⟩
    · rintro ⟨i, a, hi, rfl, rfl, hb⟩
      exact ⟨i, a, by omega, rfl, rfl, by rw [old i hi]; exact hb⟩
    · constructor
      · rintro ⟨i, a, hi, rfl, rfl, hb⟩
        rw [old i (by omega)] at hb
        exact ⟨i, a, by omega, rfl, rfl, hb⟩
      · rintro ⟨i, a, hi, rfl, rfl, hb⟩
        exact ⟨i, a, by omega, rfl, rfl, by rw [old i hi]; exact hb⟩
  have es1 : sentN (j + 1) (upd X j (gwN Wg Ch j X w.heap.size bd)) = sentN j X := by
    simp only [sentN, sumTo, upd_same]
    rw [sumTo_congr (g := fun i => if (X i).sent then 1 else 0) fun i hi => by rw [old i hi]]
    simp [gwN]
  have es2 : sentV val (j + 1) (upd X j (gwN Wg Ch j X w.heap.size bd)) = sentV val j X := by
    simp only [sentV, sumTo, upd_same]
    rw [sumTo_congr (g := fun i => if (X i).sent then val i else 0) fun i hi => by rw [old i hi]]
    simp [gwN]
  refine ⟨by simp [h.size], fun i hi => ?_, hF, hc2.fork hF.apartX hx hy h.deaf0, h.seen.app (Seen.none fun op hop => ?_), h.norel.app fun op hop => ?_, by rw [Deaf_still t 0 _ hst, h.deaf0], fun i hi => ?_, fun i hi hs => ?_, by rw [es1, es2]; exact h.chan⟩
  · rcases Nat.lt_or_ge i j with hlt | hge
    · obtain ⟨g, hg, hsg⟩ := h.wk i hlt
      refine ⟨g, ?_, by rw [upd_ne D _ (by omega), upd_ne X _ (by omega)]; exact hsg⟩
      rw [Array.getElem?_push_lt (by simp [h.size]; omega), ← Array.getElem?_eq_getElem, Array.getElem?_setIfInBounds_ne (by omega)]
      exact hg
    · obtain rfl : i = j := by omega
      refine ⟨child, ?_, by rw [upd_same, upd_same]; exact .pre rfl hc⟩
      have : ((gs.setIfInBounds 0 a').push child).size = i + 1 + 1 := by simp [h.size]
      rw [show i + 1 = (gs.setIfInBounds 0 a').size by simp [h.size], Array.getElem?_push_size]
  · rcases hm op hop with rfl | rfl
    · rw [hx.2]; rfl
    · rw [hy.2]; rfl
  · rcases hm op hop with rfl | rfl
    · rw [hx.2]; simp
    · rw [hy.2]; simp
  · rw [Deaf_still t _ _ hst]
    rcases Nat.lt_or_ge i j with hlt | hge
    · rw [h.deafW i hlt, upd_ne D _ (by omega)]
    · obtain rfl : i = j := by omega
      rw [upd_same]
      exact Deaf_absent fun a op ha e => by have := h.ct.gs a op ha; omega
  · rcases Nat.lt_or_ge i j with hlt | hge
    · rw [upd_ne D _ (by omega)] at hs
      refine (h.rel i hlt hs).not fun op hop => ?_
      rcases hm op hop with rfl | rfl
      · rw [hx.1]; omega
      · rw [hy.1]; omega
    · obtain rfl : i = j := by omega
      rw [upd_same] at hs
      simp at hs
end
end Go.Proofs.YtmphfdibijbjeaaDoor
/- Workers that make memory: the starter's stops and situations. Nothing of one program. -/
namespace Go.Proofs.YtmphfdibijbjeaaDoor
open Go.Conc Go.ConcN
open Go.ConcR (KK wgBlock WgAt stA smA rd wr mk Payload Aside2 DC0 Bk g_of_ofEvents again_blocked loc_of_ofEvent)
set_option linter.unusedSimpArgs false
set_option linter.unusedVariables false
set_option maxRecDepth 100000
set_option linter.unusedSectionVars false
section
variable [Payload] (P : Program) (ty : TypeId) (Wg Ch n Low0 M : Nat) (val : Nat → Nat) (box : Nat → Value)
/-- what the starter suffers -/
structure RSt (S : Bag) (w w₁ : World) : Prop where
  rh : RH Low0 (Shr0 Wg Ch) (WgLive ty Wg) S w w₁
  os : w₁.os = w.os
  tape : w₁.tape = w.tape
  output : w₁.output = w.output
/-- what it does between its stops -/
structure DSt (S : Bag) (w w' : World) (es : Array Event) : Prop where
  eff : Eff S w w'
  evs : ∀ e ∈ es, EvH Low0 (Shr0 Wg Ch) S w e ∨ EvG Wg e
abbrev TrS (Stop : Bag → Goroutine → World → Prop) : Nat → Bag → Goroutine → World → Prop := Trek P true (RSt ty Wg Ch Low0) (DSt Wg Ch Low0) Stop
def GT (Stop : Bag → Goroutine → World → Prop) (S : Bag) (g : Goroutine) (w : World) : Prop := ∃ m, TrS P ty Wg Ch Low0 Stop m S g w
variable (Anch Post : Bag → Goroutine → World → Prop)
def AcqT (S : Bag) (g : Goroutine) (w : World) : Prop := g.status = .running ∧ ∃ g', stepG P true g w = .go g' w #[mk (.acquire (stA Wg))] ∧ Post S g' w
def KeT (S : Bag) (g : Goroutine) (w : World) : Prop := g.status = .running ∧ ∃ g', stepG P true g w = .go g' w #[mk .enable] ∧ GT P ty Wg Ch Low0 (AcqT P Wg Post) S g' w
def W4T (S : Bag) (g : Goroutine) (w : World) : Prop := g.status = .running ∧ (WgAt ty Wg w 0 0 → ∃ g', stepG P true g w = .go g' w #[rd (stA Wg)] ∧ GT P ty Wg Ch Low0 (KeT P ty Wg Ch Low0 Post) S g' w)
def W3T (S : Bag) (g : Goroutine) (w : World) : Prop :=
  g.status = .running ∧ g.offers = none ∧ ((∃ st, WgAt ty Wg w st 0) → stepG P true g w = .go { g with status := .blocked } w #[]) ∧
    (WgAt ty Wg w 0 1 → ∃ g', stepG P true g w = .go g' (w.setCell (smA Wg) (.int .u32 0)) (semEvents (smA Wg)) ∧ GT P ty Wg Ch Low0 (W4T P ty Wg Ch Low0 Post) S g' (w.setCell (smA Wg) (.int .u32 0)))
def W2T (vs : Nat) (S : Bag) (g : Goroutine) (w : World) : Prop :=
  g.status = .running ∧ ∀ v : Nat, v < 2147483648 → WgAt ty Wg w (v * KK) 0 →
    (v = vs → ∃ g', stepG P true g w = .go g' (w.setCell (stA Wg) (.int .u64 (v * KK + 1))) #[rd (stA Wg), wr (stA Wg)] ∧ GT P ty Wg Ch Low0 (W3T P ty Wg Ch Low0 Post) S g' (w.setCell (stA Wg) (.int .u64 (v * KK + 1)))) ∧
    (v ≠ vs → ∃ g', stepG P true g w = .go g' w #[rd (stA Wg)] ∧ GT P ty Wg Ch Low0 Anch S g' w)
def W1T (S : Bag) (g : Goroutine) (w : World) : Prop :=
  g.status = .running ∧ ∀ v : Nat, v < 2147483648 → WgAt ty Wg w (v * KK) 0 → ∃ g', stepG P true g w = .go g' w #[rd (stA Wg)] ∧
    (v = 0 → GT P ty Wg Ch Low0 (KeT P ty Wg Ch Low0 Post) S g' w) ∧ (v ≠ 0 → GT P ty Wg Ch Low0 (W2T P ty Wg Ch Low0 Anch Post v) S g' w)
def KdT (S : Bag) (g : Goroutine) (w : World) : Prop := g.status = .running ∧ ∃ g', stepG P true g w = .go g' w #[mk .disable] ∧ GT P ty Wg Ch Low0 Anch S g' w
/-- the go statement that starts worker j -/
def GoT (j : Nat) (Next : Bag → Goroutine → World → Prop) (S : Bag) (g : Goroutine) (w : World) : Prop :=
  g.status = .running ∧ ∃ g' child bd, stepG P true g w = .spawn g' child w #[] ∧ S bd ∧
    (∀ sh : Nat → Prop, sh Wg → sh Ch → ¬ sh bd → (∀ b, b < Low0 → b ≠ Wg → b ≠ Ch → ¬ sh b) →
      ∃ m, Trek P false (RH w.heap.size sh NoLv) (DH w.heap.size sh) (AtSnd P Ch (.int .i64 (val j : Nat)) (NextT P ty Wg M (box j) bd)) m (fun _ => False) child w) ∧ Next (fun _ => False) g' w
def KeS (j : Nat) (Next : Bag → Goroutine → World → Prop) (S : Bag) (g : Goroutine) (w : World) : Prop :=
  g.status = .running ∧ ∃ g', stepG P true g w = .go g' w #[mk .enable] ∧ GT P ty Wg Ch Low0 (GoT P ty Wg Ch Low0 M val box j Next) S g' w
def A1S (j : Nat) (Next : Bag → Goroutine → World → Prop) (S : Bag) (g : Goroutine) (w : World) : Prop :=
  g.status = .running ∧ ∀ v : Nat, v < 2147483647 → WgAt ty Wg w (v * KK) 0 →
    ∃ g', stepG P true g w = .go g' (w.setCell (stA Wg) (.int .u64 ((v + 1) * KK))) #[rd (stA Wg), wr (stA Wg)] ∧ GT P ty Wg Ch Low0 (KeS P ty Wg Ch Low0 M val box j Next) S g' (w.setCell (stA Wg) (.int .u64 ((v + 1) * KK)))
def KdS (j : Nat) (Next : Bag → Goroutine → World → Prop) (S : Bag) (g : Goroutine) (w : World) : Prop :=
  g.status = .running ∧ ∃ g', stepG P true g w = .go g' w #[mk .disable] ∧ GT P ty Wg Ch Low0 (A1S P ty Wg Ch Low0 M val box j Next) S g' w
/-- r workers are still to be started -/
def SpT : Nat → Bag → Goroutine → World → Prop
  | 0 => GT P ty Wg Ch Low0 (KdT P ty Wg Ch Low0 Anch)
  | r + 1 => GT P ty Wg Ch Low0 (KdS P ty Wg Ch Low0 M val box (n - (r + 1)) (SpT r))
/-- the next stop -/
def stopOf : CTag → Bag → Goroutine → World → Prop
  | .sp r 5 => KdS P ty Wg Ch Low0 M val box (n - (r + 1)) (SpT P ty Wg Ch n Low0 M val box Anch r)
  | .sp r 4 => A1S P ty Wg Ch Low0 M val box (n - (r + 1)) (SpT P ty Wg Ch n Low0 M val box Anch r)
  | .sp r 3 => KeS P ty Wg Ch Low0 M val box (n - (r + 1)) (SpT P ty Wg Ch n Low0 M val box Anch r)
  | .sp r 2 => GoT P ty Wg Ch Low0 M val box (n - (r + 1)) (SpT P ty Wg Ch n Low0 M val box Anch r)
  | .sp _ _ => fun _ _ _ => False
  | .kd => KdT P ty Wg Ch Low0 Anch
  | .anch => Anch
  | .w1 => W1T P ty Wg Ch Low0 Anch Post
  | .w2 vs => W2T P ty Wg Ch Low0 Anch Post vs
  | .w3 => W3T P ty Wg Ch Low0 Post
  | .blk => fun _ _ _ => False
  | .w4 => W4T P ty Wg Ch Low0 Post
  | .ke => KeT P ty Wg Ch Low0 Post
  | .acq => AcqT P Wg Post
  | .ret => fun _ _ _ => False
/-- how many are started; how deaf it is -/
def jOf (n : Nat) : CTag → Nat → Prop
  | .sp r _, j => r < n ∧ j = n - (r + 1)
  | _, j => j = n
def deafOf : CTag → Nat
  | .sp _ s => if s = 5 ∨ s = 2 then 0 else 1
  | .kd => 0
  | .acq => 0
  | .ret => 0
  | _ => 1
inductive TSit : CTag → Nat → Nat → Bag → Goroutine → World → Prop
  | walk {tag : CTag} {j m : Nat} {S : Bag} {g : Goroutine} {w : World} : jOf n tag j → TrS P ty Wg Ch Low0 (stopOf P ty Wg Ch n Low0 M val box Anch Post tag) m S g w → TSit tag j (m + 1) S g w
  | blk {S : Bag} {g : Goroutine} {w : World} : (∀ w₁, RSt ty Wg Ch Low0 S w w₁ → W3T P ty Wg Ch Low0 Post S g w₁) → TSit .blk n 0 S { g with status := .blocked } w
end
section
variable [Payload] {P : Program} {ty : TypeId} {Wg Ch n Low0 M : Nat} {val : Nat → Nat} {box : Nat → Value} {Anch Post : Bag → Goroutine → World → Prop} {tag : CTag} {j f : Nat} {S : Bag} {a : Goroutine} {w w' : World}
theorem fairS : Fair2 (RSt ty Wg Ch Low0) (DSt Wg Ch Low0) :=
  ⟨fun S a b c h h' => ⟨fairH.trans S a b c h.rh h'.rh, h'.os.trans h.os, h'.tape.trans h.tape, h'.output.trans h.output⟩, fun S w => ⟨Eff.refl _ _, fun e he => by simp at he⟩⟩
theorem RSt.refl (S : Bag) (w : World) : RSt ty Wg Ch Low0 S w w := ⟨rh_refl _ _ _ _ _, rfl, rfl, rfl⟩
theorem RSt.at (S : Bag) (w : World) (d : Nat) : RSt ty Wg Ch Low0 S w (w.at d) := ⟨⟨Nat.le_refl _, fun _ _ _ => rfl, fun _ _ => rfl, id⟩, rfl, rfl, rfl⟩
theorem stopOf_running (hAr : ∀ S g w, Anch S g w → g.status = .running) (tag : CTag) : ∀ S g w, stopOf P ty Wg Ch n Low0 M val box Anch Post tag S g w → g.status = .running := by
  intro S g w h
  unfold stopOf at h
  split at h
  · exact h.1
  · exact h.1
  · exact h.1
  · exact h.1
  · exact h.elim
  · exact h.1
  · exact hAr _ _ _ h
  · exact h.1
  · exact h.1
  · exact h.1
  · exact h.elim
  · exact h.1
  · exact h.1
  · exact h.1
  · exact h.elim
theorem TSit.rely (h : TSit P ty Wg Ch n Low0 M val box Anch Post tag j f S a w) (hr : RSt ty Wg Ch Low0 S w w') : TSit P ty Wg Ch n Low0 M val box Anch Post tag j f S a w' := by
  cases h with
  | walk hj h => exact .walk hj (h.rely fairS hr)
  | blk h => exact .blk fun w₂ h₂ => h w₂ (fairS.trans _ _ _ _ hr h₂)
theorem TSit.status (hAr : ∀ S g w, Anch S g w → g.status = .running) (h : TSit P ty Wg Ch n Low0 M val box Anch Post tag j f S a w) : (a.status = .running ∧ tag ≠ .blk) ∨ (a.status = .blocked ∧ tag = .blk ∧ a.offers = none) := by
  cases h with
  | walk hj h =>
    refine .inl ⟨Trek.running (stopOf_running hAr tag) (RSt.refl _ _) h, fun e => ?_⟩
    subst e
    have : ∀ {m : Nat} {S : Bag} {g : Goroutine} {w : World}, TrS P ty Wg Ch Low0 (fun _ _ _ => False) m S g w → False := by
      intro m
      induction m with
      | zero => exact fun {S g w} h => h w (RSt.refl _ _)
      | succ m ih =>
        intro S g w h
        rcases Trek.cases h with h | ⟨n', e, h⟩
        · exact h w (RSt.refl _ _)
        · obtain rfl : m = n' := by omega
          obtain ⟨_, _, _, _, _, h⟩ := h w (RSt.refl _ _)
          exact ih h
    exact this h
  | blk h => exact .inr ⟨rfl, rfl, (h w (RSt.refl _ _)).2.1⟩
/-- under another's step -/
theorem TSit.wokenBy (hAr : ∀ S g w, Anch S g w → g.status = .running) (h : TSit P ty Wg Ch n Low0 M val box Anch Post tag j f S a w) (hr : RSt ty Wg Ch Low0 S w w') (g g' : Goroutine) :
    ∃ tag' f', TSit P ty Wg Ch n Low0 M val box Anch Post tag' j f' S (woken P g g' w' a) w' ∧ f' ≤ f + 1 ∧ (tag' = tag ∨ (tag = .blk ∧ tag' = .w3)) ∧ (mayWake P g = true → g'.status = .running → tag' ≠ .blk) := by
  have h' := h.rely hr
  unfold Go.Conc.woken
  split
  · rcases h'.status hAr with ⟨hs, hne⟩ | ⟨_, rfl, _⟩
    · exact ⟨tag, f, by rw [again_running _ (.inl hs)]; exact h', by omega, .inl rfl, fun _ _ => hne⟩
    · have hj : j = n := by cases h with
        | walk hj hw => exact hj
        | blk hb => rfl
      have h3 : ∃ g0, a = { g0 with status := .blocked } ∧ ∀ w₁, RSt ty Wg Ch Low0 S w' w₁ → W3T P ty Wg Ch Low0 Post S g0 w₁ := by
        cases h' with
        | walk hj hw => exact absurd ((TSit.walk hj hw).status hAr) (by simp [Trek.running (stopOf_running hAr .blk) (RSt.refl _ _) hw])
        | blk hb => exact ⟨_, rfl, hb⟩
      obtain ⟨g0, rfl, hb⟩ := h3
      have h4 := hb w' (RSt.refl _ _)
      refine ⟨.w3, 0 + 1, by rw [again_blocked h4.1 h4.2.1]; exact .walk hj (Trek.stop hb), by omega, .inr ⟨rfl, rfl⟩, fun _ _ => by simp⟩
  · rename_i hc
    exact ⟨tag, f, h', by omega, .inl rfl, fun h1 h2 => absurd (by simp [h1, h2]) hc⟩
theorem TSit.bound (h : TSit P ty Wg Ch n Low0 M val box Anch Post tag j f S a w) : j + pend tag ≤ n := by
  have key : jOf n tag j → j + pend tag ≤ n := fun hj => by
    cases tag <;> simp only [jOf] at hj <;> simp only [pend]
    · obtain ⟨h1, h2⟩ := hj
      split <;> omega
    all_goals omega
  cases h with
  | walk hj h => exact key hj
  | blk h => exact key rfl
/-- what goes on under the starter's own events -/
theorem ok0_st {j : Nat} {X : Nat → GW} (hF : Fam Wg Ch Low0 j X S w.heap.size) {es : Array Event} {fn : FuncId} {pos : String} (h : ∀ e ∈ es, EvH Low0 (Shr0 Wg Ch) S w e ∨ EvG Wg e) :
    (∀ op ∈ MemOp.ofEvents 0 fn pos es, Ok0 (ShN Wg) (OwnX X j) (RdX X j) j op) ∧ (∀ op ∈ MemOp.ofEvents 0 fn pos es, op.act ≠ .mark (.release (stA Wg))) ∧ Seen w.heap.size (MemOp.ofEvents 0 fn pos es) ∧
      ∀ e ∈ es, e.loc ≠ .mark .disable ∧ e.loc ≠ .mark .enable := by
  have cellCase : ∀ e a, EvH Low0 (Shr0 Wg Ch) S w e → e.loc = .cell a → (S a.block ∨ (a.block < Low0 ∧ ¬ Shr0 Wg Ch a.block ∧ e.write = false)) := by
    rintro e a (⟨a', h1, h2⟩ | ⟨m, rfl, _⟩) he
    · rw [h1] at he; cases he; exact h2
    · cases he
  have kinds : ∀ e, EvH Low0 (Shr0 Wg Ch) S w e → (∃ a wr sy, e = ⟨.cell a, wr, sy⟩) ∨ ∃ m, e = ⟨.mark m, false, true⟩ ∧ Neutral m := by
    rintro ⟨loc, wr, sy⟩ (⟨a, h1, _⟩ | h)
    · cases h1; exact .inl ⟨a, wr, sy, rfl⟩
    · exact .inr h
  refine ⟨fun op hop => ?_, fun op hop => ?_, fun op hop => ?_, fun e he => ?_⟩
  · rw [ofEvents_eq] at hop
    obtain ⟨e, he, rfl⟩ := Array.mem_map.1 hop
    refine ⟨rfl, fun x hx => ?_⟩
    rcases h e he with hh | hg
    · rcases kinds e hh with ⟨a, wr, sy, rfl⟩ | ⟨m, rfl, hm⟩
      · have hc := cellCase _ a hh rfl
        simp only [Go.ConcR.ofEvent_cell, MemAct.touch?, Option.some.injEq] at hx
        subst hx
        refine .inr ⟨?_, fun k k1 kj => ?_, fun hw k k1 kj => ?_⟩
        · rintro ⟨a', e1, e2⟩
          cases e1
          rcases hc with hs | ⟨_, hs, _⟩
          · have := (hF.mine _ hs).1; have := hF.hW; omega
          · exact hs (.inl e2)
        · rintro ⟨i, a', hi, rfl, e1, hb⟩
          cases e1
          rcases hc with hs | ⟨hl, _, _⟩
          · exact ((hF.mine _ hs).2.2 i hi).2 hb
          · have := (hF.bag i hi _ hb).1; have := (hF.lw i hi).1; omega
        · rintro ⟨i, a', hi, rfl, e1, hl, _⟩
          cases e1
          rcases hc with hs | ⟨_, _, hw'⟩
          · have := ((hF.mine _ hs).2.2 i hi).1; omega
          · have hw : wr = true := hw
            have hw' : wr = false := hw'
            rw [hw] at hw'; cases hw'
      · cases hm; simp [MemAct.ofEvent, MemAct.touch?] at hx
    · exact .inl (hg.1 x hx)
  · rw [ofEvents_eq] at hop
    obtain ⟨e, he, rfl⟩ := Array.mem_map.1 hop
    intro hc
    have hc := loc_of_ofEvent hc
    rcases h e he with hh | hg
    · rcases kinds e hh with ⟨a, wr, sy, rfl⟩ | ⟨m, rfl, hm⟩
      · cases hc
      · cases hm; cases hc
    · exact hg.2.2.2 hc
  · rw [ofEvents_eq] at hop
    obtain ⟨e, he, rfl⟩ := Array.mem_map.1 hop
    intro x hx ad had
    rcases h e he with hh | hg
    · rcases kinds e hh with ⟨a, wr, sy, rfl⟩ | ⟨m, rfl, hm⟩
      · have hc := cellCase _ a hh rfl
        simp only [Go.ConcR.ofEvent_cell, MemAct.touch?, Option.some.injEq] at hx
        subst hx
        cases had
        rcases hc with hs | ⟨hl, _, _⟩
        · exact (hF.mine _ hs).2.1
        · have := hF.hz; omega
      · cases hm; simp [MemAct.ofEvent, MemAct.touch?] at hx
    · obtain ⟨⟨a', e1, e2⟩, _⟩ := hg.1 x hx
      rw [had] at e1
      cases e1
      have := hF.hW; have := hF.hz; omega
  · rcases h e he with hh | hg
    · rcases kinds e hh with ⟨a, wr, sy, rfl⟩ | ⟨m, rfl, hm⟩
      · exact ⟨by simp, by simp⟩
      · cases hm; exact ⟨by simp, by simp⟩
    · exact ⟨hg.2.1, hg.2.2.1⟩
/-- .. and under a worker's -/
theorem okW_st {j i : Nat} {X : Nat → GW} {S0 : Bag} (hF : Fam Wg Ch Low0 j X S0 w.heap.size) (hi : i < j) {es : Array Event} {fn : FuncId} {pos : String} (h : ∀ e ∈ es, EvH (X i).lw (X i).sh (X i).bag w e) :
    (∀ op ∈ MemOp.ofEvents (i + 1) fn pos es, OkW (ShN Wg) (OwnX X j) (RdX X j) (i + 1) op) ∧ (∀ op ∈ MemOp.ofEvents (i + 1) fn pos es, op.act ≠ .mark (.release (stA Wg))) ∧ Seen w.heap.size (MemOp.ofEvents (i + 1) fn pos es) ∧
      ∀ e ∈ es, e.loc ≠ .mark .disable ∧ e.loc ≠ .mark .enable := by
  have cellCase : ∀ e a, EvH (X i).lw (X i).sh (X i).bag w e → e.loc = .cell a → ((X i).bag a.block ∨ (a.block < (X i).lw ∧ ¬ (X i).sh a.block ∧ e.write = false)) := by
    rintro e a (⟨a', h1, h2⟩ | ⟨m, rfl, _⟩) he
    · rw [h1] at he; cases he; exact h2
    · cases he
  have kinds : ∀ e, EvH (X i).lw (X i).sh (X i).bag w e → (∃ a wr sy, e = ⟨.cell a, wr, sy⟩) ∨ ∃ m, e = ⟨.mark m, false, true⟩ ∧ Neutral m := by
    rintro ⟨loc, wr, sy⟩ (⟨a, h1, _⟩ | h)
    · cases h1; exact .inl ⟨a, wr, sy, rfl⟩
    · exact .inr h
  refine ⟨fun op hop => ?_, fun op hop => ?_, fun op hop => ?_, fun e he => ?_⟩
  · rw [ofEvents_eq] at hop
    obtain ⟨e, he, rfl⟩ := Array.mem_map.1 hop
    refine ⟨rfl, fun x hx => ?_⟩
    rcases kinds e (h e he) with ⟨a, wr, sy, rfl⟩ | ⟨m, rfl, hm⟩
    · have hc := cellCase _ a (h _ he) rfl
      simp only [Go.ConcR.ofEvent_cell, MemAct.touch?, Option.some.injEq] at hx
      subst hx
      rcases hc with hs | ⟨h1, h2, h3⟩
      · exact .inr (.inl ⟨i, a, hi, rfl, rfl, hs⟩)
      · exact .inr (.inr ⟨⟨i, a, hi, rfl, rfl, h1, h2⟩, h3⟩)
    · cases hm; simp [MemAct.ofEvent, MemAct.touch?] at hx
  · rw [ofEvents_eq] at hop
    obtain ⟨e, he, rfl⟩ := Array.mem_map.1 hop
    intro hc
    have hc := loc_of_ofEvent hc
    rcases kinds e (h e he) with ⟨a, wr, sy, rfl⟩ | ⟨m, rfl, hm⟩
    · cases hc
    · cases hm; cases hc
  · rw [ofEvents_eq] at hop
    obtain ⟨e, he, rfl⟩ := Array.mem_map.1 hop
    intro x hx ad had
    rcases kinds e (h e he) with ⟨a, wr, sy, rfl⟩ | ⟨m, rfl, hm⟩
    · have hc := cellCase _ a (h _ he) rfl
      simp only [Go.ConcR.ofEvent_cell, MemAct.touch?, Option.some.injEq] at hx
      subst hx
      cases had
      rcases hc with hs | ⟨hl, _, _⟩
      · exact (hF.bag i hi _ hs).2
      · have := (hF.lw i hi).2; omega
    · cases hm; simp [MemAct.ofEvent, MemAct.touch?] at hx
  · rcases kinds e (h e he) with ⟨a, wr, sy, rfl⟩ | ⟨m, rfl, hm⟩
    · exact ⟨by simp, by simp⟩
    · cases hm; exact ⟨by simp, by simp⟩
end
end Go.Proofs.YtmphfdibijbjeaaDoor
/- Workers that make memory: a worker's step keeps the invariant and lowers the measure. Nothing of one program. -/
namespace Go.Proofs.YtmphfdibijbjeaaDoor
open Go.Conc Go.ConcN
open Go.ConcR (KK wgBlock WgAt stA smA rd wr mk Payload Aside2 DC0 Bk g_of_ofEvents again_blocked loc_of_ofEvent bk_of_mute ofEvent_loc_mark)
set_option linter.unusedSimpArgs false
set_option linter.unusedVariables false
set_option maxRecDepth 100000
set_option linter.unusedSectionVars false
theorem map_keeps {gs : Array Goroutine} {f : Goroutine → Goroutine} {g' : Goroutine} {i : Nat} (hf : ∀ y, (y.status = .running ∨ y.status = .finished) → f y = y) :
    ∀ (k : Nat) (y : Goroutine), k ≠ i → (y.status = .running ∨ y.status = .finished) → gs[k]? = some y → ((gs.map f).setIfInBounds i g')[k]? = some y := by
  intro k y hk hy hg
  rw [get_map_set _ _ _ _ (Ne.symm hk), hg, Option.map_some, hf y hy]
theorem woken_keeps {P : Program} (g g' : Goroutine) (w : World) (y : Goroutine) (hy : y.status = .running ∨ y.status = .finished) : woken P g g' w y = y := by
  unfold Go.Conc.woken
  split
  · exact again_running _ hy
  · rfl
section
variable [Payload] (P : Program) (ty : TypeId) (Wg Ch n Low0 M : Nat) (val : Nat → Nat) (box : Nat → Value) (Anch Post : Bag → Goroutine → World → Prop)
def KInv (μ : Nat × Nat) (m : Machine) (t : Trace) : Prop :=
  ∃ (gs : Array Goroutine) (w : World) (sl : Option (Nat × Nat)) (j : Nat) (D : Nat → WD) (X : Nat → GW) (S0 : Bag) (tag : CTag) (f0 : Nat) (a : Goroutine) (st sm : Int),
    m = crowd gs w sl ∧ gs[0]? = some a ∧ TSit P ty Wg Ch n Low0 M val box Anch Post tag j f0 S0 a w ∧ KCom P ty Wg Ch n Low0 M val box j gs w t D X S0 (deafOf tag) ∧ WgAt ty Wg w st sm ∧ Go.ConcN.Mode j D tag st sm ∧
    μ = (phi n (Vc j D) tag + Ssum j D, f0 + 2 * Fsum j D)
end
section
variable [Payload] {P : Program} {ty : TypeId} {Wg Ch n Low0 M : Nat} {val : Nat → Nat} {box : Nat → Value} {Anch Post : Bag → Goroutine → World → Prop}
  {gs : Array Goroutine} {w w' : World} {sl : Option (Nat × Nat)} {j : Nat} {D : Nat → WD} {X : Nat → GW} {S0 : Bag} {tag : CTag} {f0 : Nat} {a : Goroutine} {t : Trace} {st sm : Int}
theorem lt_measure {p q a b a' b' : Nat} (h : a' < a ∨ (a' = a ∧ b' < b)) : Lt2 (a', b') (a, b) := by
  rcases h with h | ⟨rfl, h⟩
  · exact Prod.Lex.left _ _ h
  · exact Prod.Lex.right _ h
theorem chan_at (w : World) {c cap s r : Nat} {buf : Array Value} {cl tm : Bool} (h : c < w.heap.size) : (w.setChan c cap buf cl s r tm).heap[c]? = some (.chan cap buf cl s r tm) := by simp [World.setChan, h]
/-- whatever ordinary step of worker number i -/
theorem kGo (hAr : ∀ S g w, Anch S g w → g.status = .running) (ha : gs[0]? = some a) (hcs : TSit P ty Wg Ch n Low0 M val box Anch Post tag j f0 S0 a w)
    (hcom : KCom P ty Wg Ch n Low0 M val box j gs w t D X S0 (deafOf tag)) {i : Nat} (hi : i < j) {g g' : Goroutine} {es : Array Event} {s' m' dd' : Nat} {st' sm' : Int} {x' : GW} (hg : gs[i + 1]? = some g) (hgo : stepG P false g w = .go g' w' es)
    (he : Eff (Part Wg Ch X S0 (some i)) w w') (hc : w'.heap[Ch]? = w.heap[Ch]?)
    (e1 : x'.lw = (X i).lw) (e2 : x'.sh = (X i).sh) (e3 : x'.bd = (X i).bd) (e4 : x'.bag = more (X i).bag w w') (e5 : x'.sent = (X i).sent)
    (hs' : KSit P ty Wg Ch M x' (.int .i64 (val i : Nat)) (box i) s' m' dd' g' w')
    (hok : ∀ op ∈ MemOp.ofEvents (i + 1) g.frame.fn g.frame.place es, OkW (ShN Wg) (OwnX X j) (RdX X j) (i + 1) op) (hnr : ∀ op ∈ MemOp.ofEvents (i + 1) g.frame.fn g.frame.place es, op.act ≠ .mark (.release (stA Wg)))
    (hlow : Seen w.heap.size (MemOp.ofEvents (i + 1) g.frame.fn g.frame.place es)) (hdeaf : deafBehind (D i).deaf es = dd')
    (hrel : s' ≤ 6 → Rel2 Wg (t ++ MemOp.ofEvents (i + 1) g.frame.fn g.frame.place es) (i + 1)) (hwg : WgAt ty Wg w' st' sm')
    (hmode : ∀ tag', (tag' = tag ∨ (tag = .blk ∧ tag' = .w3)) → (mayWake P g = true → g'.status = .running → tag' ≠ .blk) → Go.ConcN.Mode j (upd D i ⟨s', m', dd'⟩) tag' st' sm')
    (hlt : (s' < (D i).stage ∧ cnt ⟨s', m', dd'⟩ ≤ cnt (D i)) ∨ (s' = (D i).stage ∧ m' < (D i).fuel)) :
    ∃ m₁ ops μ', runT P (crowd gs w sl) (i + 1) = (.next m₁, ops) ∧ Lt2 μ' (phi n (Vc j D) tag + Ssum j D, f0 + 2 * Fsum j D) ∧ KInv P ty Wg Ch n Low0 M val box Anch Post μ' m₁ (t ++ ops) := by
  have hl : WgLive ty Wg w' := ⟨_, _, hwg⟩
  have hrs : RSt ty Wg Ch Low0 S0 w w' := ⟨hcom.fam.start hi he hl, he.os, he.tape, he.output⟩
  obtain ⟨tag', f', hcs', hf', htag, hwk⟩ := hcs.wokenBy hAr hrs g g'
  have hrun := runT_crowd_go (P := P) (sl := sl) (i := i + 1) hg (by simpa using hgo)
  have q1 := sumTo_upd D (⟨s', m', dd'⟩ : WD) cnt hi
  have q2 := sumTo_upd D (⟨s', m', dd'⟩ : WD) WD.stage hi
  have q3 := sumTo_upd D (⟨s', m', dd'⟩ : WD) WD.fuel hi
  obtain ⟨es1, es2⟩ := sent_same (val := val) (X := X) hi e5
  have edeaf : deafOf tag' = deafOf tag := by
    rcases htag with rfl | ⟨rfl, rfl⟩
    · rfl
    · rfl
  have hC := hcom.stepW (gs' := (gs.map (woken P g g' w')).setIfInBounds (i + 1) g') (u := MemOp.ofEvents (i + 1) g.frame.fn g.frame.place es) hi (by simp) (get_map_set_same _ _ _ (by rw [hcom.size]; omega))
    (fun k y _ hk => map_keeps (fun y hy => woken_keeps _ _ _ y hy) k y hk) he hl e1 e2 e3 e4 hs' hok hnr hlow (by rw [Deaf_own, hcom.deafW i hi]; exact hdeaf) hrel (by rw [es1, es2]; exact hcom.chan.eff hc)
  rw [← edeaf] at hC
  refine ⟨_, _, (phi n (Vc j (upd D i ⟨s', m', dd'⟩)) tag' + Ssum j (upd D i ⟨s', m', dd'⟩), f' + 2 * Fsum j (upd D i ⟨s', m', dd'⟩)), hrun, ?_,
    _, w', sl, j, upd D i ⟨s', m', dd'⟩, upd X i x', S0, tag', f', woken P g g' w' a, st', sm', rfl, by rw [get_map_set _ _ _ _ (by omega), ha]; rfl, hcs', hC, hwg, hmode tag' htag hwk, rfl⟩
  rw [phi_retag n _ htag]
  refine lt_measure (p := 0) (q := 0) ?_
  simp only [Vc, Ssum, Fsum] at *
  rcases hlt with ⟨h1, h2⟩ | ⟨h1, h2⟩
  · have := phi_mono n (v' := sumTo j fun a => cnt (upd D i ⟨s', m', dd'⟩ a)) (v := sumTo j fun a => cnt (D a)) (by omega) tag
    exact .inl (by omega)
  · have ec : cnt (⟨s', m', dd'⟩ : WD) = cnt (D i) := by simp only [cnt, h1]
    have ev : (sumTo j fun a => cnt (upd D i ⟨s', m', dd'⟩ a)) = sumTo j fun a => cnt (D a) := by omega
    have es' : (sumTo j fun a => (upd D i ⟨s', m', dd'⟩ a).stage) = sumTo j fun a => (D a).stage := by omega
    rw [ev, es']
    exact .inr ⟨rfl, by omega⟩
/-- it sends -/
theorem kSend (hAr : ∀ S g w, Anch S g w → g.status = .running) (hjn : j ≤ n) (ha : gs[0]? = some a) (hcs : TSit P ty Wg Ch n Low0 M val box Anch Post tag j f0 S0 a w)
    (hcom : KCom P ty Wg Ch n Low0 M val box j gs w t D X S0 (deafOf tag)) (hwg : WgAt ty Wg w st sm) (hmode : Go.ConcN.Mode j D tag st sm) {i : Nat} (hi : i < j) {g : Goroutine} (hg : gs[i + 1]? = some g)
    (hd : D i = ⟨7, (D i).fuel, 0⟩) (hf : M < (D i).fuel) (hs0 : (X i).sent = false)
    (hst : AtSnd P Ch (.int .i64 (val i : Nat)) (NextT P ty Wg M (box i) (X i).bd) (X i).bag g w) :
    ∃ m₁ ops μ', runT P (crowd gs w sl) (i + 1) = (.next m₁, ops) ∧ Lt2 μ' (phi n (Vc j D) tag + Ssum j D, f0 + 2 * Fsum j D) ∧ KInv P ty Wg Ch n Low0 M val box Anch Post μ' m₁ (t ++ ops) := by
  obtain ⟨_, g₂, z, hgo, hhas, hnext⟩ := hst
  obtain ⟨l, s, hch, hlen, hsum⟩ := hcom.chan
  -- there is room
  have hroom : (l.map fun x => Value.int .i64 (x : Nat)).toArray.size < n := by
    have h0 : sentN j X < j := by
      have h1 : sentN j (upd X i { (X i) with sent := true }) = sentN j X + 1 := (sent_more (val := val) (x' := { (X i) with sent := true }) hi rfl hs0).1
      have h2 : sentN j (upd X i { (X i) with sent := true }) ≤ 1 * j := sumTo_le fun k _ => by split <;> omega
      omega
    simp [hlen]; omega
  -- nobody waits for it
  have hp : partners (gs.setIfInBounds (i + 1) ph) Ch false = [] := by
    refine partners_nil fun k y hy => ?_
    rcases getElem?_stand gs (i + 1) k y hy with ⟨_, rfl⟩ | ⟨_, hy'⟩
    · rfl
    · cases k with
      | zero =>
        rw [ha] at hy'
        cases hy'
        rcases hcs.status hAr with ⟨h1, _⟩ | ⟨h1, _, h2⟩
        · exact offersAt_of_not_blocked (by rw [h1]; simp) _ _
        · unfold offersAt; rw [h1, h2]
      | succ k =>
        have hk : k < j := by have := (Array.getElem?_eq_some_iff.1 hy').1; rw [hcom.size] at this; omega
        obtain ⟨y', hy2, hsy⟩ := hcom.wk k hk
        rw [hy'] at hy2
        cases hy2
        rcases hsy.status with h1 | h1
        · exact offersAt_of_not_blocked (by rw [h1]; simp) _ _
        · exact offersAt_of_not_blocked (by rw [h1]; simp) _ _
  have hCh : Ch < w.heap.size := (Array.getElem?_eq_some_iff.1 hch).1
  have hrun := crowd_send_room (P := P) (sl := sl) (i := i + 1) (blocking := true) (shape := .send) hg (by simpa using hgo) hch hroom hp
  rw [finishComm_send] at hrun
  generalize hw' : w.setChan Ch n ((l.map fun x => Value.int .i64 (x : Nat)).toArray.push (.int .i64 (val i : Nat))) false (s + 1) 0 false = w' at hrun
  have hblk : ∀ b, b ≠ Ch → w'.heap[b]? = w.heap[b]? := fun b hb => by
    rw [← hw']
    simp only [World.setChan]
    rw [Array.getElem?_setIfInBounds_ne (Ne.symm hb)]
  have hsz : w'.heap.size = w.heap.size := by rw [← hw']; simp [World.setChan]
  have he : Eff (Part Wg Ch X S0 (some i)) w w' := ⟨by omega, by rw [← hw']; rfl, by rw [← hw']; rfl, by rw [← hw']; rfl, fun b _ hn => hblk b fun e => hn (.inr (.inl e))⟩
  have hwg' : WgAt ty Wg w' st sm := (hblk Wg (Ne.symm hcom.fam.hCW)).trans hwg
  have hl : WgLive ty Wg w' := ⟨_, _, hwg'⟩
  have hbd := hcom.fam.bd i hi
  have hbne : (X i).bd ≠ Ch := by have := hcom.fam.hC; omega
  have hhas' : Has (X i).bd 0 (box i) w' := (cell_of_block (hblk _ hbne) 0).trans hhas
  obtain ⟨m, hm, hk⟩ := hnext w' hl hhas'
  have hrs : RSt ty Wg Ch Low0 S0 w w' := ⟨hcom.fam.start hi he hl, he.os, he.tape, he.output⟩
  have hcs' := hcs.rely hrs
  generalize hx : ({ (X i) with bag := more (X i).bag w w', sent := true } : GW) = x'
  have e1 : x'.lw = (X i).lw := by rw [← hx]
  have e2 : x'.sh = (X i).sh := by rw [← hx]
  have e3 : x'.bd = (X i).bd := by rw [← hx]
  have e4 : x'.bag = more (X i).bag w w' := by rw [← hx]
  have e5 : x'.sent = true := by rw [← hx]
  have hstage : (D i).stage = 7 := by rw [hd]
  have hdeaf : (D i).deaf = 0 := by rw [hd]
  have hsit : KSit P ty Wg Ch M x' (.int .i64 (val i : Nat)) (box i) 7 m 0 (Go.Conc.served g₂ undef) w' := by
    refine .tail e5 ?_
    rw [e3]
    exact .r0 hk
  generalize hu : (MemOp.ofEvents (i + 1) g.frame.fn g.frame.place #[] ++ #[{ g := i + 1, fn := g₂.frame.fn, pos := g₂.frame.place, act := MemAct.send Ch s }, { g := i + 1, fn := g₂.frame.fn, pos := g₂.frame.place, act := MemAct.sendDone Ch s }] : Trace) = u at hrun
  have hu2 : ∀ op ∈ u, op.g = i + 1 ∧ (op.act = .send Ch s ∨ op.act = .sendDone Ch s) := by
    intro op hop
    rw [← hu, ofEvents_eq] at hop
    simp at hop
    rcases hop with rfl | rfl
    · exact ⟨rfl, .inl rfl⟩
    · exact ⟨rfl, .inr rfl⟩
  have hnt : ∀ op ∈ u, op.act.touch? = none := fun op hop => by
    rcases (hu2 op hop).2 with e | e <;> rw [e] <;> rfl
  obtain ⟨es1, es2⟩ := sent_more (val := val) (x' := x') hi e5 hs0
  have hC := hcom.stepW (gs' := gs.setIfInBounds (i + 1) (Go.Conc.served g₂ undef)) (u := u) (dd' := 0) (m' := m) (s' := 7) hi (by simp) (by rw [Array.getElem?_setIfInBounds_self_of_lt]; rw [hcom.size]; omega)
    (fun k y _ hk _ hy => by rw [Array.getElem?_setIfInBounds_ne (Ne.symm hk)]; exact hy) he hl e1 e2 e3 e4 hsit
    (fun op hop => ⟨(hu2 op hop).1, fun x hx => by rw [hnt op hop] at hx; cases hx⟩) (fun op hop => by rcases (hu2 op hop).2 with e | e <;> rw [e] <;> simp) (Seen.none hnt)
    (by rw [Deaf_still t _ u fun op hop => by rcases (hu2 op hop).2 with e | e <;> rw [e] <;> simp]; rw [hcom.deafW i hi, hdeaf]) (fun h => by omega)
    (by
      rw [es1, es2]
      refine ⟨l ++ [val i], s + 1, ?_, by simp [hlen], by simp [hsum]⟩
      rw [← hw', chan_at _ hCh]
      simp)
  have hmode' : Go.ConcN.Mode j (upd D i ⟨7, m, 0⟩) tag st sm := by
    have := hmode.same (i := i) m 0
    rwa [hstage] at this
  have q1 := sumTo_upd D (⟨7, m, 0⟩ : WD) cnt hi
  have q2 := sumTo_upd D (⟨7, m, 0⟩ : WD) WD.stage hi
  have q3 := sumTo_upd D (⟨7, m, 0⟩ : WD) WD.fuel hi
  have ec : cnt (⟨7, m, 0⟩ : WD) = cnt (D i) := by simp only [cnt, hstage]
  refine ⟨_, _, (phi n (Vc j (upd D i ⟨7, m, 0⟩)) tag + Ssum j (upd D i ⟨7, m, 0⟩), f0 + 2 * Fsum j (upd D i ⟨7, m, 0⟩)), hrun, ?_,
    _, w', sl, j, upd D i ⟨7, m, 0⟩, upd X i x', S0, tag, f0, a, st, sm, rfl, by rw [Array.getElem?_setIfInBounds_ne (by omega)]; exact ha, hcs', hC, hwg', hmode', rfl⟩
  refine lt_measure (p := 0) (q := 0) (.inr ?_)
  simp only [Vc, Ssum, Fsum] at *
  have ev : (sumTo j fun a => cnt (upd D i ⟨7, m, 0⟩ a)) = sumTo j fun a => cnt (D a) := by omega
  have es' : (sumTo j fun a => (upd D i ⟨7, m, 0⟩ a).stage) = sumTo j fun a => (D a).stage := by omega
  rw [ev, es']
  exact ⟨rfl, by omega⟩
set_option maxHeartbeats 1600000 in
theorem kWorker (hAr : ∀ S g w, Anch S g w → g.status = .running) (hn : n < 2147483648) (ha : gs[0]? = some a) (hcs : TSit P ty Wg Ch n Low0 M val box Anch Post tag j f0 S0 a w)
    (hcom : KCom P ty Wg Ch n Low0 M val box j gs w t D X S0 (deafOf tag)) (hwg : WgAt ty Wg w st sm) (hmode : Go.ConcN.Mode j D tag st sm) {i : Nat} (hi : i < j) {g : Goroutine} (hg : gs[i + 1]? = some g) (hrun : g.status = .running) :
    ∃ m₁ ops μ', runT P (crowd gs w sl) (i + 1) = (.next m₁, ops) ∧ Lt2 μ' (phi n (Vc j D) tag + Ssum j D, f0 + 2 * Fsum j D) ∧ KInv P ty Wg Ch n Low0 M val box Anch Post μ' m₁ (t ++ ops) := by
  obtain ⟨g₁, hg₁, hs⟩ := hcom.wk i hi
  obtain rfl : g = g₁ := by rw [hg] at hg₁; exact Option.some.inj hg₁
  have hb := hcs.bound
  have hVj := Vc_le j D
  have hfam := hcom.fam
  have hWz : Wg < w.heap.size := by have := hfam.hW; have := hfam.hz; omega
  generalize hst : (D i).stage = s at hs
  generalize hfu : (D i).fuel = m at hs
  generalize hde : (D i).deaf = dd at hs
  have hdk : Deaf t (i + 1) = dd := by rw [hcom.deafW i hi, hde]
  cases hs with
  | pre hs0 h =>
    rename_i m
    rcases Trek.cases h with hstop | ⟨m', rfl, hstep⟩
    · exact kSend hAr (by omega) ha hcs hcom hwg hmode hi hg (by cases hD : D i; simp only [hD] at hst hfu hde ⊢; simp [hst, hde]) (by omega) hs0 (hstop w (rh_refl _ _ _ _ _))
    · obtain ⟨g', w', es, hgo, hD, hg'⟩ := hstep w (rh_refl _ _ _ _ _)
      obtain ⟨o1, o2, o3, o4⟩ := okW_st hfam hi (fn := g.frame.fn) (pos := g.frame.place) hD.evs
      have hnb : ∀ b, b < Low0 → ¬ (X i).bag b := fun b hb hx => by have := (hfam.bag i hi b hx).1; have := (hfam.lw i hi).1; omega
      have hcz : w'.heap[Ch]? = w.heap[Ch]? := hD.block Ch (by have := hfam.hC; have := hfam.hz; omega) (hnb _ hfam.hC)
      have hwz : w'.heap[Wg]? = w.heap[Wg]? := hD.block Wg hWz (hnb _ hfam.hW)
      exact kGo (x' := { (X i) with bag := more (X i).bag w w' }) (s' := 7) (m' := m' + M + 1) hAr ha hcs hcom hi hg hgo ⟨hD.size, hD.os, hD.tape, hD.output, fun b hb hn => hD.block b hb fun x => hn (.inr (.inr (.inl x)))⟩ hcz rfl rfl rfl rfl rfl (.pre hs0 hg')
        o1 o2 o3 (by rw [hde]; exact deafBehind_idle o4 0) (fun h => by omega) (hwz.trans hwg)
        (fun _ ht _ => Go.ConcN.Mode.retag (by have := hmode.same (i := i) (m' + M + 1) 0; rwa [hst] at this) ht) (.inr ⟨by rw [hst], by rw [hfu]; omega⟩)
  | tail hs0 h =>
    -- a step that leaves the heap's size
    have go1 : ∀ {g' : Goroutine} {w' : World} {es : Array Event} {s' m' dd' : Nat} {st' sm' : Int}, stepG P false g w = .go g' w' es → w'.heap.size = w.heap.size → Eff (fun b => b = Wg ∨ b = (X i).bd) w w' → WgAt ty Wg w' st' sm' →
        (∀ e ∈ es, ∀ fn pos, OkW (ShN Wg) noN noN 1 { g := 1, fn, pos, act := .ofEvent e }) → (∀ e ∈ es, e.loc ≠ .mark (.release (stA Wg))) →
        WSit P ty Wg (X i).bd 1 noN noN 0 1 (box i) s' m' dd' g' w' → deafBehind dd es = dd' → (s' ≤ 6 → Rel2 Wg (t ++ MemOp.ofEvents (i + 1) g.frame.fn g.frame.place es) (i + 1)) →
        (∀ tag', (tag' = tag ∨ (tag = .blk ∧ tag' = .w3)) → (mayWake P g = true → g'.status = .running → tag' ≠ .blk) → Go.ConcN.Mode j (upd D i ⟨s', m', dd'⟩) tag' st' sm') → ((s' < s ∧ cnt ⟨s', m', dd'⟩ ≤ cnt (D i)) ∨ (s' = s ∧ m' < m)) →
        ∃ m₁ ops μ', runT P (crowd gs w sl) (i + 1) = (.next m₁, ops) ∧ Lt2 μ' (phi n (Vc j D) tag + Ssum j D, f0 + 2 * Fsum j D) ∧ KInv P ty Wg Ch n Low0 M val box Anch Post μ' m₁ (t ++ ops) := by
      intro g' w' es s' m' dd' st' sm' hgo hz hE hwg' hok hnr hs' hdd hrel hmode' hlt
      have hbd := hfam.bd i hi
      have okAll : ∀ op ∈ MemOp.ofEvents (i + 1) g.frame.fn g.frame.place es, op.g = i + 1 ∧ ∀ x, op.act.touch? = some x → ShN Wg x.loc ∧ x.kind ≠ .plain ∧ x.kind ≠ .said := by
        intro op hop
        rw [ofEvents_eq] at hop
        obtain ⟨e, he, rfl⟩ := Array.mem_map.1 hop
        refine ⟨rfl, fun x hx => ?_⟩
        rcases ((hok e he 0 "").2 x hx) with h1 | h1 | ⟨h1, _⟩
        · exact h1
        · exact h1.elim
        · exact h1.elim
      refine kGo (x' := { (X i) with bag := more (X i).bag w w' }) hAr ha hcs hcom hi hg hgo (hE.mono fun b hb => hb.elim .inl fun e => .inr (.inr (.inr e))) (hE.block Ch (by have := hfam.hC; have := hfam.hz; omega) (by rintro (e | e); exact hfam.hCW e; have := hfam.hC; omega)) rfl rfl rfl rfl rfl (.tail hs0 hs')
        (fun op hop => ⟨(okAll op hop).1, fun x hx => .inl ((okAll op hop).2 x hx)⟩) (norel_of hnr) (fun op hop x hx ad had => ?_) (by rw [hde]; exact hdd) hrel hwg' hmode' (by rw [hst, hfu]; exact hlt)
      obtain ⟨⟨a', e1, e2⟩, _⟩ := (okAll op hop).2 x hx
      rw [had] at e1
      cases e1
      omega
    have okBk : ∀ {es : Array Event}, (∀ e ∈ es, Bk Wg e) → ∀ e ∈ es, ∀ fn pos, OkW (ShN Wg) noN noN 1 { g := 1, fn, pos, act := .ofEvent e } := by
      intro es hes e he fn pos
      refine ⟨rfl, fun x hx => .inl ⟨touch_bk (hes e he) hx, ?_, ?_⟩⟩
      · rcases hes e he with h1 | h1 | ⟨a, wr, rfl, _⟩
        · simp only [ofEvent_loc_mark h1] at hx; cases hx
        · simp only [ofEvent_loc_mark h1] at hx; cases hx
        · simp only [Go.ConcR.ofEvent_cell, MemAct.touch?, Option.some.injEq] at hx; subst hx; simp
      · rcases hes e he with h1 | h1 | ⟨a, wr, rfl, _⟩
        · simp only [ofEvent_loc_mark h1] at hx; cases hx
        · simp only [ofEvent_loc_mark h1] at hx; cases hx
        · simp only [Go.ConcR.ofEvent_cell, MemAct.touch?, Option.some.injEq] at hx; subst hx; simp
    have okNone : ∀ {es : Array Event}, (∀ e ∈ es, (MemAct.ofEvent e).touch? = none) → ∀ e ∈ es, ∀ fn pos, OkW (ShN Wg) noN noN 1 { g := 1, fn, pos, act := .ofEvent e } :=
      fun hes e he fn pos => ⟨rfl, fun x hx => by rw [show ({ g := 1, fn, pos, act := MemAct.ofEvent e } : MemOp).act = MemAct.ofEvent e from rfl, hes e he] at hx; cases hx⟩
    -- the library's bookkeeping: at most the group's block turns
    have bookG : ∀ {g' : Goroutine} {w' : World} {es : Array Event} {s' m' dd' : Nat} {st' sm' : Int}, stepG P false g w = .go g' w' es → Aside Wg w w' → WgAt ty Wg w' st' sm' → (∀ e ∈ es, Bk Wg e) →
        (∀ jx e, es[jx]? = some e → (MemAct.ofEvent e).touch? = none ∨ 0 < deafBehind dd (es.extract 0 jx)) → WSit P ty Wg (X i).bd 1 noN noN 0 1 (box i) s' m' dd' g' w' → deafBehind dd es = dd' → s ≤ 6 →
        (∀ tag', (tag' = tag ∨ (tag = .blk ∧ tag' = .w3)) → (mayWake P g = true → g'.status = .running → tag' ≠ .blk) → Go.ConcN.Mode j (upd D i ⟨s', m', dd'⟩) tag' st' sm') → ((s' < s ∧ cnt ⟨s', m', dd'⟩ ≤ cnt (D i)) ∨ (s' = s ∧ m' < m)) →
        ∃ m₁ ops μ', runT P (crowd gs w sl) (i + 1) = (.next m₁, ops) ∧ Lt2 μ' (phi n (Vc j D) tag + Ssum j D, f0 + 2 * Fsum j D) ∧ KInv P ty Wg Ch n Low0 M val box Anch Post μ' m₁ (t ++ ops) := by
      intro g' w' es s' m' dd' st' sm' hgo hAs hwg' hbk hd hs' hdd h6 hmode' hlt
      exact go1 hgo hAs.size ⟨Nat.le_of_eq hAs.size.symm, hAs.os, hAs.tape, hAs.output, fun b _ hn => hAs.block b fun e => hn (.inl e)⟩ hwg' (okBk hbk) (norel_of_Bk hbk) hs' hdd (fun _ => (hcom.rel i hi (by omega)).book hdk _ _ hbk hd) hmode' hlt
    have book : ∀ {g' : Goroutine} {w' : World} {es : Array Event} {s' m' dd' : Nat} {st' sm' : Int}, stepG P false g w = .go g' w' es → Aside Wg w w' → WgAt ty Wg w' st' sm' → (∀ e ∈ es, Bk Wg e) →
        (∀ jx e, es[jx]? = some e → (MemAct.ofEvent e).touch? = none ∨ 0 < deafBehind dd (es.extract 0 jx)) → WSit P ty Wg (X i).bd 1 noN noN 0 1 (box i) s' m' dd' g' w' → deafBehind dd es = dd' → s ≤ 6 →
        Go.ConcN.Mode j (upd D i ⟨s', m', dd'⟩) tag st' sm' → ((s' < s ∧ cnt ⟨s', m', dd'⟩ ≤ cnt (D i)) ∨ (s' = s ∧ m' < m)) →
        ∃ m₁ ops μ', runT P (crowd gs w sl) (i + 1) = (.next m₁, ops) ∧ Lt2 μ' (phi n (Vc j D) tag + Ssum j D, f0 + 2 * Fsum j D) ∧ KInv P ty Wg Ch n Low0 M val box Anch Post μ' m₁ (t ++ ops) :=
      fun hgo hAs hwg' hbk hd hs' hdd h6 hmode' hlt => bookG hgo hAs hwg' hbk hd hs' hdd h6 (fun _ ht _ => hmode'.retag ht) hlt
    have idle : ∀ {g' : Goroutine} {m' : Nat}, stepG P false g w = .go g' w #[] → WSit P ty Wg (X i).bd 1 noN noN 0 1 (box i) s m' dd g' w → m' < m → s ≤ 6 →
        ∃ m₁ ops μ', runT P (crowd gs w sl) (i + 1) = (.next m₁, ops) ∧ Lt2 μ' (phi n (Vc j D) tag + Ssum j D, f0 + 2 * Fsum j D) ∧ KInv P ty Wg Ch n Low0 M val box Anch Post μ' m₁ (t ++ ops) := by
      intro g' m' hgo hs' hm h6
      exact book hgo (.refl Wg w) hwg (by simp) (by simp) hs' rfl h6 (by have := hmode.same (i := i) m' dd; rwa [hst] at this) (.inr ⟨rfl, hm⟩)
    cases h with
    | r0 h =>
      rcases Goes.cases h with hstop | ⟨m', rfl, hstep⟩
      · obtain ⟨_, hhas, g', hgo, m₂, hk⟩ := hstop w (RW.refl w)
        exact go1 hgo rfl (Eff.refl _ w) hwg (okNone (by intro e he; simp at he; subst he; rfl)) (by intro e he; simp at he; subst he; simp [mk]) (.k1 hk) rfl
          (fun _ => Rel2.new hdk _ _) (fun _ ht _ => (hmode.counted hi (by omega) (.inl rfl) _ _).retag ht) (.inl ⟨by omega, by simp [cnt, hst]⟩)
      · obtain ⟨g', w', es, hgo, ⟨hac, hev⟩, hg'⟩ := hstep w (RW.refl w)
        have hbd := hfam.bd i hi
        exact go1 hgo hac.size ⟨Nat.le_of_eq hac.size.symm, hac.os, hac.tape, hac.output, fun b _ hn => hac.block b fun e => hn (.inr e)⟩ ((hac.block Wg (by have := hfam.hW; omega)).trans hwg) (fun e he fn pos => (hev e he).1 fn pos) (fun e he => (hev e he).2.2.2) (.r0 hg')
          (deafBehind_idle (fun e he => ⟨(hev e he).2.1, (hev e he).2.2.1⟩) 0) (fun h => by omega) (fun _ ht _ => Go.ConcN.Mode.retag (by have := hmode.same (i := i) m' 0; rwa [hst] at this) ht) (.inr ⟨rfl, by omega⟩)
    | k1 h =>
      rcases Goes.cases h with hstop | ⟨m', rfl, hstep⟩
      · obtain ⟨_, g', hgo, m₂, hk⟩ := hstop w (RW.refl w)
        exact book hgo (.refl Wg w) hwg (by intro e he; simp at he; subst he; exact .inl rfl) (by intro jx e he; exact .inl (by have := Array.mem_of_getElem? he; simp at this; subst this; rfl)) (.d1 hk) rfl (by omega)
          (hmode.counted hi (by omega) (.inr rfl) _ _) (.inl ⟨by omega, by simp [cnt, hst]⟩)
      · obtain ⟨g', w', es, hgo, ⟨rfl, rfl⟩, hg'⟩ := hstep w (RW.refl w)
        exact idle hgo (.k1 hg') (by omega) (by omega)
    | d1 h =>
      rcases Goes.cases h with hstop | ⟨m', rfl, hstep⟩
      · obtain ⟨_, hall⟩ := hstop w (RW.refl w)
        have hc1 : cnt (D i) = 1 := by simp [cnt, hst]
        have hV1 : 1 ≤ Vc j D := by have := le_sumTo (f := fun x => cnt (D x)) hi; simp only [Vc]; omega
        have bk2 : ∀ e ∈ #[rd (stA Wg), wr (stA Wg)], Bk Wg e := bk_rw
        have df2 : ∀ jx e, (#[rd (stA Wg), wr (stA Wg)] : Array Event)[jx]? = some e → (MemAct.ofEvent e).touch? = none ∨ 0 < deafBehind 1 ((#[rd (stA Wg), wr (stA Wg)] : Array Event).extract 0 jx) := by
          intro jx e he
          match jx, he with
          | 0, _ => exact .inr (by simp [deafBehind])
          | 1, _ => exact .inr (by simp [deafBehind, rd])
          | jx + 2, he => simp at he
        have hq0 : ∀ q, cnt (⟨1, q, 1⟩ : WD) = 0 := fun _ => rfl
        have opq : ∀ q, OpenSt j D → OpenSt j (upd D i ⟨1, q, 1⟩) := fun q h a ha => by
          by_cases e : a = i
          · subst e; rw [upd_same]; simp
          · rw [upd_ne D _ e]; exact h a ha
        cases hmode with
        | opn h1 h2 h3 =>
          obtain ⟨v, hv⟩ : ∃ v, Vc j D + pend tag = v + 1 := ⟨Vc j D + pend tag - 1, by omega⟩
          rw [hv] at hwg
          have hw1 : WgAt ty Wg w (((v : Nat) + 1) * KK + ((0 : Nat) : Int)) 0 := by simpa using hwg
          obtain ⟨g', hgo, _, hq⟩ := hall v 0 (by omega) (by omega) hw1
          obtain ⟨q, hq⟩ := hq (by omega)
          have hv' : Vc j (upd D i ⟨1, q, 1⟩) + pend tag = v := by have := Vc_upd D (⟨1, q, 1⟩ : WD) hi; have := hq0 q; omega
          refine book hgo (aside_setCell w (stA Wg) _) (hwg.setSt _) bk2 df2 (.quit hq) rfl (by omega) ?_ (.inl ⟨by omega, by simp [cnt]⟩)
          have e : ((v : Nat) : Int) * KK + ((0 : Nat) : Int) = ((Vc j (upd D i ⟨1, q, 1⟩) + pend tag : Nat) : Int) * KK := by rw [hv']; simp
          rw [e]
          exact .opn h1 (opq q h2) (fun vs ev => by have := h3 vs ev; omega)
        | reg h1 h2 h3 =>
          obtain ⟨v, hv⟩ : ∃ v, Vc j D = v + 1 := ⟨Vc j D - 1, by omega⟩
          rw [hv] at hwg
          have hp : pend tag = 0 := by cases tag <;> first | rfl | exact h1.elim
          have hw1 : WgAt ty Wg w (((v : Nat) + 1) * KK + ((1 : Nat) : Int)) 0 := by simpa using hwg
          obtain ⟨g', hgo, hl, hq⟩ := hall v 1 (by omega) (by omega) hw1
          by_cases hv0 : v = 0
          · subst hv0
            obtain ⟨m₂, hk⟩ := hl ⟨rfl, rfl⟩
            refine book hgo (aside_setCell w (stA Wg) _) (hwg.setSt _) bk2 df2 (.d2 hk) rfl (by omega) ?_ (.inl ⟨by omega, by simp [cnt]⟩)
            have hoth : ∀ a, a < j → a ≠ i → (D a).stage = 1 := fun a ha e => by
              have c0 := others_uncounted hi hv hc1 a ha e
              have := h2 a ha
              simp only [cnt] at c0
              split at c0 <;> omega
            have := Go.ConcN.Mode.last (j := j) (D := upd D i ⟨4, m₂, 1⟩) (tag := tag) i h1 hi (by rw [upd_same]; simp) (fun a ha e => by rw [upd_ne D _ e]; exact hoth a ha e)
            rw [upd_same] at this
            simpa using this
          · obtain ⟨q, hq⟩ := hq (by omega)
            have hv' : Vc j (upd D i ⟨1, q, 1⟩) = v := by have := Vc_upd D (⟨1, q, 1⟩ : WD) hi; have := hq0 q; omega
            refine book hgo (aside_setCell w (stA Wg) _) (hwg.setSt _) bk2 df2 (.quit hq) rfl (by omega) ?_ (.inl ⟨by omega, by simp [cnt]⟩)
            have e : ((v : Nat) : Int) * KK + ((1 : Nat) : Int) = ((Vc j (upd D i ⟨1, q, 1⟩) : Nat) : Int) * KK + 1 := by rw [hv']; simp
            rw [e]
            exact .reg h1 (opq q h2) (by omega)
        | last L _ h2 h3 h4 =>
          by_cases e : i = L
          · subst e; omega
          · have := h4 i hi e; omega
        | sema h2 => have := h2 i hi; omega
        | fin _ h2 => have := h2 i hi; omega
      · obtain ⟨g', w', es, hgo, ⟨rfl, rfl⟩, hg'⟩ := hstep w (RW.refl w)
        exact idle hgo (.d1 hg') (by omega) (by omega)
    | d2 h =>
      rcases Goes.cases h with hstop | ⟨m', rfl, hstep⟩
      · obtain ⟨_, hx⟩ := hstop w (RW.refl w)
        obtain ⟨hW3, hoth, rfl, rfl⟩ := hmode.isLast hi (by omega)
        simp only [hst] at hwg
        obtain ⟨g', hgo, m₂, hk⟩ := hx (by simpa using hwg)
        refine book hgo (.refl Wg w) hwg bk_rd (by intro jx e he; match jx, he with | 0, _ => exact .inr (by simp [deafBehind]) | jx + 1, he => simp at he) (.d3 hk) rfl (by omega) ?_ (.inl ⟨by omega, by simp [cnt]⟩)
        have := Go.ConcN.Mode.last (j := j) (D := upd D i ⟨3, m₂, 1⟩) (tag := tag) i hW3 hi (by rw [upd_same]; simp) (fun a ha e => by rw [upd_ne D _ e]; exact hoth a ha e)
        rw [upd_same] at this
        simpa using this
      · obtain ⟨g', w', es, hgo, ⟨rfl, rfl⟩, hg'⟩ := hstep w (RW.refl w)
        exact idle hgo (.d2 hg') (by omega) (by omega)
    | d3 h =>
      rcases Goes.cases h with hstop | ⟨m', rfl, hstep⟩
      · obtain ⟨_, hx⟩ := hstop w (RW.refl w)
        obtain ⟨hW3, hoth, rfl, rfl⟩ := hmode.isLast hi (by omega)
        simp only [hst] at hwg
        obtain ⟨g', hgo, m₂, hk⟩ := hx (by simpa using hwg)
        refine book hgo (aside_setCell w (stA Wg) _) (hwg.setSt 0) (by intro e he; simp at he; subst he; exact bk_cell _ _ rfl) (by intro jx e he; match jx, he with | 0, _ => exact .inr (by simp [deafBehind]) | jx + 1, he => simp at he) (.d4 hk) rfl (by omega) ?_ (.inl ⟨by omega, by simp [cnt]⟩)
        have := Go.ConcN.Mode.last (j := j) (D := upd D i ⟨2, m₂, 1⟩) (tag := tag) i hW3 hi (by rw [upd_same]; simp) (fun a ha e => by rw [upd_ne D _ e]; exact hoth a ha e)
        rw [upd_same] at this
        simpa using this
      · obtain ⟨g', w', es, hgo, ⟨rfl, rfl⟩, hg'⟩ := hstep w (RW.refl w)
        exact idle hgo (.d3 hg') (by omega) (by omega)
    | d4 h =>
      rcases Goes.cases h with hstop | ⟨m', rfl, hstep⟩
      · obtain ⟨_, hmw, hx⟩ := hstop w (RW.refl w)
        obtain ⟨hW3, hoth, rfl, rfl⟩ := hmode.isLast hi (by omega)
        simp only [hst] at hwg
        obtain ⟨g', hgo, q, hq⟩ := hx (by simpa using hwg)
        have hrun' : g'.status = .running := by
          cases q with
          | zero => exact absurd hq.2 (by decide)
          | succ q => exact hq.elim (fun x => absurd x.2 (by decide)) (fun x => x.1)
        refine bookG hgo (aside_setCell w (smA Wg) _) (hwg.setSm 1) (es := semEvents (smA Wg)) bk_sem ?_ (.quit hq) (by simp [deafBehind, semEvents]) (by omega) ?_ (.inl ⟨by omega, by simp [cnt]⟩)
        · intro jx e he
          match jx, he with
          | 0, he => simp [semEvents] at he; subst he; exact .inl rfl
          | 1, _ => exact .inr (by simp [deafBehind, semEvents])
          | 2, _ => exact .inr (by simp [deafBehind, semEvents])
          | 3, he => simp [semEvents] at he; subst he; exact .inl rfl
          | jx + 4, he => simp [semEvents] at he
        · intro tag' ht hw
          have hnb := hw hmw hrun'
          have e3 : tag' = .w3 := by
            rcases ht with rfl | ⟨_, rfl⟩
            · cases tag' <;> first | rfl | exact hW3.elim | exact absurd rfl hnb
            · rfl
          subst e3
          simp only [if_true]
          exact .sema fun a ha => by
            by_cases e : a = i
            · subst e; rw [upd_same]
            · rw [upd_ne D _ e]; exact hoth a ha e
      · obtain ⟨g', w', es, hgo, ⟨rfl, rfl⟩, hg'⟩ := hstep w (RW.refl w)
        exact idle hgo (.d4 hg') (by omega) (by omega)
    | quit h =>
      cases m with
      | zero => rw [h.1] at hrun; cases hrun
      | succ q =>
        rcases h with ⟨hf, _⟩ | ⟨_, g', es, hmute, hstep, hq⟩
        · rw [hf] at hrun; cases hrun
        · have hbk : ∀ e ∈ es, Bk Wg e := fun e he => bk_of_mute (hmute e he)
          have hno : ∀ jx e, es[jx]? = some e → (MemAct.ofEvent e).touch? = none ∨ 0 < deafBehind dd (es.extract 0 jx) := fun jx e he => .inl (touch_mute (hmute e (Array.mem_of_getElem? he)))
          exact book (hstep w) (.refl Wg w) hwg hbk hno (.quit hq) rfl (by omega) (by have := hmode.same (i := i) q (deafBehind dd es); rwa [hst] at this) (.inr ⟨rfl, by omega⟩)
end
end Go.Proofs.YtmphfdibijbjeaaDoor
/- Workers that make memory: the starter's step; the run to 'acquired'. Nothing of one program. -/
namespace Go.Proofs.YtmphfdibijbjeaaDoor
open Go.Conc Go.ConcN
open Go.ConcR (KK wgBlock WgAt stA smA rd wr mk Payload Aside2 DC0 Bk g_of_ofEvents again_blocked loc_of_ofEvent bk_of_mute ofEvent_loc_mark)
set_option linter.unusedSimpArgs false
set_option linter.unusedVariables false
set_option maxRecDepth 100000
set_option linter.unusedSectionVars false
/-- what is held of the trace behind the join: no race; the starter knows every touch but atomic ones of the group; all is handed over; it hears -/
structure PastG (Wg : Nat) (t : Trace) : Prop where
  clean : ∀ said, ¬ Race said t
  known : ∀ i a, touchAt t i = some a → a.loc.isMemory = true → Knows t 0 i ∨ (ShN Wg a.loc ∧ a.kind = .atomic)
  over : t.HandedOver
  hears : Deaf t 0 = 0
section
variable [Payload] (P : Program) (ty : TypeId) (Wg Ch n : Nat) (val : Nat → Nat) (Post : Bag → Goroutine → World → Prop)
/-- all is acquired -/
def KDone (m : Machine) (t : Trace) : Prop :=
  ∃ (gs : Array Goroutine) (w : World) (sl : Option (Nat × Nat)) (a : Goroutine) (S : Bag) (q : Nat → Nat),
    m = crowd gs w sl ∧ gs[0]? = some a ∧ Post S a w ∧ Leavers P t gs q ∧ PastG Wg t ∧ ChanHas Ch n n (sumTo n val) w
end
section
variable [Payload] {P : Program} {ty : TypeId} {Wg Ch n Low0 M : Nat} {val : Nat → Nat} {box : Nat → Value} {Anch Post : Bag → Goroutine → World → Prop}
  {gs : Array Goroutine} {w w' : World} {sl : Option (Nat × Nat)} {j : Nat} {D : Nat → WD} {X : Nat → GW} {S0 : Bag} {tag tag' : CTag} {f0 f' : Nat} {a a' : Goroutine} {t : Trace} {st sm st' sm' : Int} {es : Array Event}
theorem sumTo_one : ∀ j, sumTo j (fun _ => 1) = j
  | 0 => rfl
  | j + 1 => by simp only [sumTo, sumTo_one j]
/-- whatever step of the starter that is no go statement -/
theorem kStart (ha : gs[0]? = some a) (hcom : KCom P ty Wg Ch n Low0 M val box j gs w t D X S0 (deafOf tag)) (hgo : stepG P true a w = .go a' w' es)
    (he : Eff (Part Wg Ch X S0 none) w w') (hc : w'.heap[Ch]? = w.heap[Ch]?)
    (hok : ∀ op ∈ MemOp.ofEvents 0 a.frame.fn a.frame.place es, Ok0 (ShN Wg) (OwnX X j) (RdX X j) j op) (hnr : ∀ op ∈ MemOp.ofEvents 0 a.frame.fn a.frame.place es, op.act ≠ .mark (.release (stA Wg)))
    (hlow : Seen w.heap.size (MemOp.ofEvents 0 a.frame.fn a.frame.place es)) (hdeaf : deafBehind (deafOf tag) es = deafOf tag')
    (hcs' : TSit P ty Wg Ch n Low0 M val box Anch Post tag' j f' (more S0 w w') a' w') (hwg : WgAt ty Wg w' st' sm') (hmode : Go.ConcN.Mode j D tag' st' sm')
    (hlt : phi n (Vc j D) tag' < phi n (Vc j D) tag ∨ (phi n (Vc j D) tag' = phi n (Vc j D) tag ∧ f' < f0)) :
    ∃ m₁ ops μ', runT P (crowd gs w sl) 0 = (.next m₁, ops) ∧ Lt2 μ' (phi n (Vc j D) tag + Ssum j D, f0 + 2 * Fsum j D) ∧ KInv P ty Wg Ch n Low0 M val box Anch Post μ' m₁ (t ++ ops) := by
  have hrun := runT_crowd_go (P := P) (sl := sl) (i := 0) ha (by simpa using hgo)
  have hC := hcom.step0 (gs' := (gs.map (woken P a a' w')).setIfInBounds 0 a') (u := MemOp.ofEvents 0 a.frame.fn a.frame.place es) (d' := deafOf tag') (by simp) (map_keeps fun y hy => woken_keeps _ _ _ y hy) he ⟨_, _, hwg⟩ hc hok hnr hlow (by rw [Deaf_own, hcom.deaf0]; exact hdeaf)
  refine ⟨_, _, (phi n (Vc j D) tag' + Ssum j D, f' + 2 * Fsum j D), hrun, lt_measure (p := 0) (q := 0) ?_, _, w', sl, j, D, X, _, tag', f', a', st', sm', rfl, get_map_set_same _ _ _ (by rw [hcom.size]; omega), hcs', hC, hwg, hmode, rfl⟩
  rcases hlt with h | ⟨h1, h2⟩
  · exact .inl (by omega)
  · exact .inr ⟨by rw [h1], by omega⟩
/-- the library's bookkeeping by the starter -/
theorem kBook (ha : gs[0]? = some a) (hcom : KCom P ty Wg Ch n Low0 M val box j gs w t D X S0 (deafOf tag)) (hgo : stepG P true a w = .go a' w' es)
    (hAs : Aside Wg w w') (hwg : WgAt ty Wg w' st' sm') (hbk : ∀ e ∈ es, Bk Wg e) (hdeaf : deafBehind (deafOf tag) es = deafOf tag') (hcs' : TSit P ty Wg Ch n Low0 M val box Anch Post tag' j f' S0 a' w') (hmode : Go.ConcN.Mode j D tag' st' sm')
    (hlt : phi n (Vc j D) tag' < phi n (Vc j D) tag ∨ (phi n (Vc j D) tag' = phi n (Vc j D) tag ∧ f' < f0)) :
    ∃ m₁ ops μ', runT P (crowd gs w sl) 0 = (.next m₁, ops) ∧ Lt2 μ' (phi n (Vc j D) tag + Ssum j D, f0 + 2 * Fsum j D) ∧ KInv P ty Wg Ch n Low0 M val box Anch Post μ' m₁ (t ++ ops) := by
  have hF := hcom.fam
  exact kStart ha hcom hgo ⟨Nat.le_of_eq hAs.size.symm, hAs.os, hAs.tape, hAs.output, fun b _ hn => hAs.block b fun e => hn (.inl e)⟩ (hAs.block Ch hF.hCW) (ok0_of_Bk hbk) (norel_of (norel_of_Bk hbk)) (seen_bk hbk (by have := hF.hW; have := hF.hz; omega)) hdeaf
    (by rw [more_same (Nat.le_of_eq hAs.size)]; exact hcs') hwg hmode hlt
theorem kIdle (ha : gs[0]? = some a) (hcom : KCom P ty Wg Ch n Low0 M val box j gs w t D X S0 (deafOf tag)) (hwg : WgAt ty Wg w st sm) (hmode : Go.ConcN.Mode j D tag st sm) (hgo : stepG P true a w = .go a' w' es)
    (hD : DSt Wg Ch Low0 S0 w w' es) (hcs' : TSit P ty Wg Ch n Low0 M val box Anch Post tag j f' (more S0 w w') a' w') (hf : f' < f0) :
    ∃ m₁ ops μ', runT P (crowd gs w sl) 0 = (.next m₁, ops) ∧ Lt2 μ' (phi n (Vc j D) tag + Ssum j D, f0 + 2 * Fsum j D) ∧ KInv P ty Wg Ch n Low0 M val box Anch Post μ' m₁ (t ++ ops) := by
  have hF := hcom.fam
  obtain ⟨o1, o2, o3, o4⟩ := ok0_st hF (fn := a.frame.fn) (pos := a.frame.place) hD.evs
  have hnb : ∀ b, b < Low0 → ¬ S0 b := fun b hb hx => by have := (hF.mine b hx).1; omega
  have hWz : Wg < w.heap.size := by have := hF.hW; have := hF.hz; omega
  have hCz : Ch < w.heap.size := by have := hF.hC; have := hF.hz; omega
  exact kStart ha hcom hgo (hD.eff.mono fun b hb => .inr (.inr hb)) (hD.eff.block Ch hCz (hnb _ hF.hC)) o1 o2 o3 (deafBehind_idle o4 _) hcs' ((hD.eff.block Wg hWz (hnb _ hF.hW)).trans hwg) hmode (.inr ⟨rfl, hf⟩)
/-- the load in Wait -/
theorem kW1 (hn : n < 2147483648) (ha : gs[0]? = some a) (hcom : KCom P ty Wg Ch n Low0 M val box n gs w t D X S0 1) (hwg : WgAt ty Wg w st sm) (hmode : Go.ConcN.Mode n D .w1 st sm) {m : Nat}
    (h : TrS P ty Wg Ch Low0 (W1T P ty Wg Ch Low0 Anch Post) m S0 a w) :
    ∃ m₁ ops μ', runT P (crowd gs w sl) 0 = (.next m₁, ops) ∧ Lt2 μ' (phi n (Vc n D) .w1 + Ssum n D, (m + 1) + 2 * Fsum n D) ∧ KInv P ty Wg Ch n Low0 M val box Anch Post μ' m₁ (t ++ ops) := by
  rcases Trek.cases h with hstop | ⟨m', rfl, hstep⟩
  · obtain ⟨_, hall⟩ := hstop w (RSt.refl _ _)
    obtain ⟨ho, rfl, rfl, _⟩ := hmode.open_inv trivial
    have hV := Vc_le n D
    obtain ⟨a', hgo, h0, hne⟩ := hall (Vc n D) (by omega) (by simpa [pend] using hwg)
    by_cases hv : Vc n D = 0
    · obtain ⟨m₂, hk⟩ := h0 hv
      refine kBook (tag := .w1) (tag' := .ke) ha hcom hgo (.refl Wg w) hwg bk_rd rfl (.walk rfl hk) ?_ (.inl (by simp only [phi]; omega))
      have e : ((Vc n D + pend .w1 : Nat) : Int) * KK = 0 := by rw [hv]; simp [pend]
      rw [e]
      exact .fin trivial (allQuit_of ho hv)
    · obtain ⟨m₂, hk⟩ := hne hv
      exact kBook (tag := .w1) (tag' := .w2 (Vc n D)) ha hcom hgo (.refl Wg w) hwg bk_rd rfl (.walk rfl hk) (hmode.reopen trivial trivial rfl (fun vs e => by cases e; omega)) (.inl (by simp only [phi]; omega))
  · obtain ⟨a', w', es, hgo, hD, hg'⟩ := hstep w (RSt.refl _ _)
    exact kIdle (tag := .w1) ha hcom hwg hmode hgo hD (.walk rfl hg') (by omega)
set_option maxHeartbeats 1600000 in
theorem kCaller (hn : n < 2147483648) (hAn : ∀ S g w, Anch S g w → GT P ty Wg Ch Low0 (W1T P ty Wg Ch Low0 Anch Post) S g w)
    (ha : gs[0]? = some a) (hcs : TSit P ty Wg Ch n Low0 M val box Anch Post tag j f0 S0 a w) (hcom : KCom P ty Wg Ch n Low0 M val box j gs w t D X S0 (deafOf tag)) (hwg : WgAt ty Wg w st sm) (hmode : Go.ConcN.Mode j D tag st sm) (hrun : a.status = .running) :
    (∃ m₁ ops, runT P (crowd gs w sl) 0 = (.next m₁, ops) ∧ KDone P Wg Ch n val Post m₁ (t ++ ops)) ∨
    (∃ m₁ ops μ', runT P (crowd gs w sl) 0 = (.next m₁, ops) ∧ Lt2 μ' (phi n (Vc j D) tag + Ssum j D, f0 + 2 * Fsum j D) ∧ KInv P ty Wg Ch n Low0 M val box Anch Post μ' m₁ (t ++ ops)) := by
  have hVj := Vc_le j D
  have hb := hcs.bound
  cases hcs with
  | blk h => simp at hrun
  | walk hj h =>
    rename_i m
    rcases Trek.cases h with hstop | ⟨m', rfl, hstep⟩
    rotate_left
    · obtain ⟨a', w', es, hgo, hD, hg'⟩ := hstep w (RSt.refl _ _)
      exact .inr (kIdle ha hcom hwg hmode hgo hD (.walk hj hg') (by omega))
    have hs := hstop w (RSt.refl _ _)
    unfold stopOf at hs
    split at hs
    · -- disable
      rename_i r
      obtain ⟨_, a', hgo, m₂, hk⟩ := hs
      exact .inr (kBook (tag' := .sp r 4) ha hcom hgo (.refl Wg w) hwg bk_dis rfl (.walk hj hk) (hmode.reopen trivial trivial rfl (by simp)) (.inl (by simp only [phi]; omega)))
    · -- the atomic add
      rename_i r
      obtain ⟨_, hall⟩ := hs
      obtain ⟨ho, rfl, rfl, _⟩ := hmode.open_inv trivial
      have hjn : j < n := by obtain ⟨h1, h2⟩ : r < n ∧ j = n - (r + 1) := hj; omega
      obtain ⟨a', hgo, m₂, hk⟩ := hall (Vc j D) (by omega) (by simpa [pend] using hwg)
      refine .inr (kBook (tag' := .sp r 3) ha hcom hgo (aside_setCell w (stA Wg) _) (hwg.setSt _) bk_rw rfl (.walk hj hk) ?_ (.inl (by simp only [phi]; omega)))
      have e : (((Vc j D : Nat) : Int) + 1) * KK = ((Vc j D + pend (.sp r 3) : Nat) : Int) * KK := by simp [pend]
      rw [e]
      exact .opn trivial ho (by simp)
    · -- enable
      rename_i r
      obtain ⟨_, a', hgo, m₂, hk⟩ := hs
      exact .inr (kBook (tag' := .sp r 2) ha hcom hgo (.refl Wg w) hwg bk_en rfl (.walk hj hk) (hmode.reopen trivial trivial rfl (by simp)) (.inl (by simp only [phi]; omega)))
    · -- the go statement
      rename_i r
      obtain ⟨hr, rfl⟩ := hj
      obtain ⟨_, a', child, bd, hsp, hbd, hchild, hnext⟩ := hs
      have hfam := hcom.fam
      obtain ⟨n1, n2⟩ := hfam.shNot hbd
      obtain ⟨m₂, hwk⟩ := hchild (shN Wg Ch (n - (r + 1)) X) (.inl rfl) (.inr (.inl rfl)) n1 n2
      obtain ⟨ho, rfl, rfl, _⟩ := hmode.open_inv trivial
      have hrun' := runT_crowd_spawn (P := P) (sl := sl) (i := 0) ha (by simpa using hsp)
      rw [hcom.size] at hrun'
      have hcom' := KCom.spawn (S0 := S0) hcom (a' := a') (x := { g := 0, fn := a.frame.fn, pos := a.frame.place, act := .go (n - (r + 1) + 1) }) (y := { g := n - (r + 1) + 1, fn := child.frame.fn, pos := a.frame.place, act := .start }) ⟨rfl, rfl⟩ ⟨rfl, rfl⟩ hbd hwk
      generalize hx : (⟨7, m₂ + M + 1, 0⟩ : WD) = dn at hcom'
      have dn1 : dn.stage = 7 := by rw [← hx]
      have eV : Vc (n - (r + 1) + 1) (upd D (n - (r + 1)) dn) = Vc (n - (r + 1)) D + 1 := by
        simp only [Vc, sumTo, upd_same]
        rw [sumTo_upd_out D _ cnt (Nat.le_refl _)]
        simp [cnt, dn1]
      have eS : Ssum (n - (r + 1) + 1) (upd D (n - (r + 1)) dn) = Ssum (n - (r + 1)) D + 7 := by
        simp only [Ssum, sumTo, upd_same]
        rw [sumTo_upd_out D _ WD.stage (Nat.le_refl _), dn1]
      have ho' : OpenSt (n - (r + 1) + 1) (upd D (n - (r + 1)) dn) := fun i hi => by
        by_cases e : i = n - (r + 1)
        · subst e; rw [upd_same]; simp [dn1]
        · rw [upd_ne D _ e]; exact ho i (by omega)
      have ha' : ((gs.setIfInBounds 0 a').push child)[0]? = some a' := by
        rw [Array.getElem?_push_lt (by simp [hcom.size]), ← Array.getElem?_eq_getElem]
        simp [hcom.size]
      have ej : n - (r + 1) + 1 = n - r := by omega
      rw [ej] at hrun' hcom' eV eS ho'
      have est : ∀ tag', pend tag' = 0 → ((Vc (n - (r + 1)) D + pend (.sp r 2) : Nat) : Int) * KK = ((Vc (n - r) (upd D (n - (r + 1)) dn) + pend tag' : Nat) : Int) * KK := fun tag' hp => by rw [eV, hp]; simp [pend]
      cases r with
      | zero =>
        obtain ⟨m₃, hk⟩ := hnext
        simp only [Nat.sub_zero] at hrun' hcom' eV eS ho' est
        refine .inr ⟨_, _, (phi n (Vc n (upd D (n - (0 + 1)) dn)) .kd + Ssum n (upd D (n - (0 + 1)) dn), (m₃ + 1) + 2 * Fsum n (upd D (n - (0 + 1)) dn)), hrun', Prod.Lex.left _ _ (by simp only [phi]; omega),
          _, w, sl, n, _, _, _, .kd, m₃ + 1, a', _, _, rfl, ha', .walk rfl hk, hcom', hwg, ?_, rfl⟩
        rw [est .kd rfl]
        exact .opn trivial ho' (by simp)
      | succ r' =>
        obtain ⟨m₃, hk⟩ := hnext
        refine .inr ⟨_, _, (phi n (Vc (n - (r' + 1)) (upd D (n - (r' + 1 + 1)) dn)) (.sp r' 5) + Ssum (n - (r' + 1)) (upd D (n - (r' + 1 + 1)) dn), (m₃ + 1) + 2 * Fsum (n - (r' + 1)) (upd D (n - (r' + 1 + 1)) dn)), hrun', Prod.Lex.left _ _ (by simp only [phi]; omega),
          _, w, sl, n - (r' + 1), _, _, _, .sp r' 5, m₃ + 1, a', _, _, rfl, ha', .walk ⟨by omega, rfl⟩ hk, hcom', hwg, ?_, rfl⟩
        rw [est (.sp r' 5) rfl]
        exact .opn trivial ho' (by simp)
    · exact hs.elim
    · -- Wait's disable
      obtain ⟨_, a', hgo, m₂, hk⟩ := hs
      exact .inr (kBook (tag' := .anch) ha hcom hgo (.refl Wg w) hwg bk_dis rfl (.walk hj hk) (hmode.reopen trivial trivial rfl (by simp)) (.inl (by simp only [phi]; cases hj; omega)))
    · -- the loop's head
      obtain ⟨m₂, hk⟩ := hAn S0 a w hs
      have hj : j = n := hj
      subst hj
      obtain ⟨m₁, ops, μ', h1, h2, h3⟩ := kW1 (sl := sl) hn ha hcom hwg (hmode.reopen trivial trivial rfl (by simp)) hk
      exact .inr ⟨m₁, ops, μ', h1, lt2_trans h2 (Prod.Lex.left _ _ (by simp only [phi]; omega)), h3⟩
    · have hj : j = n := hj
      subst hj
      exact .inr (kW1 hn ha hcom hwg hmode h)
    · -- the CompareAndSwap
      rename_i vs
      have hj : j = n := hj
      subst hj
      obtain ⟨_, hall⟩ := hs
      obtain ⟨ho, rfl, rfl, hw2⟩ := hmode.open_inv trivial
      obtain ⟨hle, h1⟩ := hw2 vs rfl
      obtain ⟨hhit, hmiss⟩ := hall (Vc j D) (by omega) (by simpa [pend] using hwg)
      by_cases e : Vc j D = vs
      · obtain ⟨a', hgo, m₂, hk⟩ := hhit e
        exact .inr (kBook (tag' := .w3) ha hcom hgo (aside_setCell w (stA Wg) _) (hwg.setSt _) bk_rw rfl (.walk rfl hk) (.reg trivial ho (by omega)) (.inl (by simp only [phi]; omega)))
      · obtain ⟨a', hgo, m₂, hk⟩ := hmiss e
        exact .inr (kBook (tag' := .anch) ha hcom hgo (.refl Wg w) hwg bk_rd rfl (.walk rfl hk) (hmode.reopen trivial trivial rfl (by simp)) (.inl (by simp only [phi]; omega)))
    · -- the semaphore
      have hj : j = n := hj
      subst hj
      obtain ⟨_, hoff, hblk, htake⟩ := hs
      cases hmode with
      | opn h1 _ _ => exact h1.elim
      | reg h1 h2 h3 => exact .inr (kBook (tag' := .blk) ha hcom (hblk ⟨_, hwg⟩) (.refl Wg w) hwg (by simp) rfl (.blk hstop) (.reg trivial h2 h3) (.inr ⟨rfl, by omega⟩))
      | last L h1 h2 h3 h4 => exact .inr (kBook (tag' := .blk) ha hcom (hblk ⟨_, hwg⟩) (.refl Wg w) hwg (by simp) rfl (.blk hstop) (.last L trivial h2 h3 h4) (.inr ⟨rfl, by omega⟩))
      | sema h2 =>
        obtain ⟨a', hgo, m₂, hk⟩ := htake hwg
        exact .inr (kBook (tag' := .w4) ha hcom hgo (aside_setCell w (smA Wg) _) (hwg.setSm 0) bk_sem (by simp [deafBehind, semEvents, deafOf]) (.walk rfl hk) (.fin trivial h2) (.inl (by simp only [phi]; omega)))
      | fin h1 _ => exact h1.elim
    · exact hs.elim
    · obtain ⟨_, hx⟩ := hs
      obtain ⟨hq, rfl, rfl⟩ := hmode.fin_inv trivial
      obtain ⟨a', hgo, m₂, hk⟩ := hx hwg
      exact .inr (kBook (tag' := .ke) ha hcom hgo (.refl Wg w) hwg bk_rd rfl (.walk hj hk) (.fin trivial hq) (.inl (by simp only [phi]; omega)))
    · obtain ⟨_, a', hgo, m₂, hk⟩ := hs
      obtain ⟨hq, rfl, rfl⟩ := hmode.fin_inv trivial
      exact .inr (kBook (tag' := .acq) ha hcom hgo (.refl Wg w) hwg bk_en rfl (.walk hj hk) (.fin trivial hq) (.inl (by simp only [phi]; omega)))
    · -- acquire: all is known
      have hj : j = n := hj
      subst hj
      obtain ⟨_, a', hgo, hpost⟩ := hs
      obtain ⟨hq, rfl, rfl⟩ := hmode.fin_inv trivial
      have hrun' := runT_crowd_go (P := P) (sl := sl) (i := 0) ha (by simpa using hgo)
      have e1 : MemOp.ofEvents 0 a.frame.fn a.frame.place #[mk (.acquire (stA Wg))] = #[{ g := 0, fn := a.frame.fn, pos := a.frame.place, act := .mark (.acquire (stA Wg)) }] := by rw [ofEvents_eq]; simp [Go.ConcR.ofEvent_mk]
      have hy : (t ++ #[({ g := 0, fn := a.frame.fn, pos := a.frame.place, act := .mark (.acquire (stA Wg)) } : MemOp)])[t.size]? = some { g := 0, fn := a.frame.fn, pos := a.frame.place, act := .mark (.acquire (stA Wg)) } := by simp
      have hC := hcom.step0 (gs' := (gs.map (woken P a a' w)).setIfInBounds 0 a') (u := MemOp.ofEvents 0 a.frame.fn a.frame.place #[mk (.acquire (stA Wg))]) (d' := 0) (by simp) (map_keeps fun y hy => woken_keeps _ _ _ y hy) (Eff.refl _ w) ⟨_, _, hwg⟩ rfl
        (ok0_none (by intro e he; simp at he; subst he; rfl)) (norel_of (by intro e he; simp at he; subst he; simp [mk])) (Seen.none (by rw [e1]; intro op hop; simp at hop; subst hop; rfl)) (by rw [Deaf_own, hcom.deaf0]; rfl)
      rw [e1] at hrun' hC
      refine .inl ⟨_, _, hrun', _, w, sl, a', S0, fun i => (D (i - 1)).fuel, rfl, get_map_set_same _ _ _ (by rw [hcom.size]; omega), hpost, ⟨fun i g hi hg => ?_, fun k hk => ?_⟩, ⟨hC.ct.nr, fun i b hb hm => ?_, ?_, hC.deaf0⟩, ?_⟩
      · obtain ⟨i', rfl⟩ : ∃ i', i = i' + 1 := ⟨i - 1, by omega⟩
        have hlt : i' < j := by have := (Array.getElem?_eq_some_iff.1 hg).1; rw [hC.size] at this; omega
        obtain ⟨g', hg', hs'⟩ := hC.wk i' hlt
        rw [hg] at hg'
        cases hg'
        rw [hC.deafW i' hlt]
        exact hs'.quits (hq i' hlt)
      · exact Deaf_absent fun p op hp e => by have := hC.ct.gs p op hp; rw [hC.size] at hk; omega
      · obtain ⟨x, hx, hxa⟩ := touch_of hb
        by_cases h0 : x.g = 0
        · have := knows_own hx
          rw [h0] at this
          exact .inl this
        · have hle := hC.ct.gs i x hx
          obtain ⟨r, hr, hrt⟩ := hC.rel (x.g - 1) (by omega) (by rw [hq _ (by omega)]; omega)
          rw [show x.g - 1 + 1 = x.g by omega] at hr hrt
          have hgi : (t ++ #[({ g := 0, fn := a.frame.fn, pos := a.frame.place, act := .mark (.acquire (stA Wg)) } : MemOp)]).g? i = some x.g := Option.map_eq_some_iff.2 ⟨x, hx, rfl⟩
          rcases Nat.lt_or_ge r i with hlt | hge
          · refine .inr ⟨hrt i b hlt hgi hb, ?_⟩
            have hnc := hr.after i hlt hgi
            by_cases hk : b.kind = .atomic
            · exact hk
            · exact absurd ⟨b, hb, hm, .inl hk⟩ hnc
          · obtain ⟨r', hr', _⟩ := hcom.rel (x.g - 1) (by omega) (by rw [hq _ (by omega)]; omega)
            have hrlt : r < t.size := by
              have h1 := lt_of_act? hr.act
              simp at h1
              rcases Nat.lt_or_ge r t.size with h2 | h2
              · exact h2
              · obtain rfl : r = t.size := by omega
                have := hr.act
                rw [act?_of hy] at this
                simp at this
            have hdz : (t ++ #[({ g := 0, fn := a.frame.fn, pos := a.frame.place, act := .mark (.acquire (stA Wg)) } : MemOp)]).heard t.size := ⟨0, by simp [Trace.g?], by rw [deaf_old (Nat.le_refl _)]; exact hcom.deaf0⟩
            have edge : HappensBefore (t ++ #[({ g := 0, fn := a.frame.fn, pos := a.frame.place, act := .mark (.acquire (stA Wg)) } : MemOp)]) r t.size :=
              .single (.inr ⟨.marked hrlt (.inr hr.act) (by rw [act?_of hy]) (fun k _ _ => hC.norel k), hr.heard, hdz⟩)
            refine .inl ⟨t.size, _, hy, rfl, .inr ?_⟩
            rcases Nat.lt_or_ge i r with hlt | hge'
            · exact .trans (.single (.inl ⟨hlt, x.g, hgi, hr.g⟩)) edge
            · obtain rfl : i = r := by omega
              exact edge
      · refine handedOver_all (a := stA Wg) (q := t.size) (fun i g hgi hne => ?_) hC.norel (by rw [act?_of hy]) (by simp [Trace.g?]) ⟨0, by simp [Trace.g?], by rw [deaf_old (Nat.le_refl _)]; exact hcom.deaf0⟩
        obtain ⟨op, ho, rfl⟩ := Option.map_eq_some_iff.1 hgi
        have hle := hC.ct.gs i op ho
        obtain ⟨r, hr, _⟩ := hcom.rel (op.g - 1) (by omega) (by rw [hq _ (by omega)]; omega)
        rw [show op.g - 1 + 1 = op.g by omega] at hr
        exact ⟨r, hr.appNot (by intro op' hop'; simp at hop'; subst hop'; exact Ne.symm hne), lt_of_act? hr.act⟩
      · have hsent : ∀ i, i < j → (X i).sent = true := fun i hi => by
          obtain ⟨g, _, hs⟩ := hcom.wk i hi
          exact hs.sent_of (by rw [hq i hi]; omega)
        have s1 : sentN j X = j := by
          unfold sentN
          rw [sumTo_congr (g := fun _ => 1) fun i hi => by rw [hsent i hi]; rfl]
          exact sumTo_one j
        have s2 : sentV val j X = sumTo j val := sumTo_congr fun i hi => by rw [hsent i hi]; rfl
        have := hcom.chan
        rwa [s1, s2] at this
    · exact hs.elim
/-- somebody runs -/
theorem k_someone (hAr : ∀ S g w, Anch S g w → g.status = .running) (ha : gs[0]? = some a) (hcs : TSit P ty Wg Ch n Low0 M val box Anch Post tag j f0 S0 a w) (hcom : KCom P ty Wg Ch n Low0 M val box j gs w t D X S0 (deafOf tag)) (hmode : Go.ConcN.Mode j D tag st sm) :
    ∃ (i : Nat) (g : Goroutine), gs[i]? = some g ∧ g.status = .running := by
  rcases hcs.status hAr with ⟨hs, _⟩ | ⟨_, rfl, _⟩
  · exact ⟨0, a, ha, hs⟩
  · cases hmode with
    | opn h1 _ _ => exact h1.elim
    | reg _ _ h3 =>
      obtain ⟨i, hi, h5⟩ := exists_counted h3
      obtain ⟨g, hg, hs⟩ := hcom.wk i hi
      exact ⟨i + 1, g, hg, hs.running_of (by omega)⟩
    | last L _ h2 h3 _ =>
      obtain ⟨g, hg, hs⟩ := hcom.wk L h2
      exact ⟨L + 1, g, hg, hs.running_of (by omega)⟩
    | fin h1 _ => exact h1.elim
theorem k_awake (hAr : ∀ S g w, Anch S g w → g.status = .running) (ha : gs[0]? = some a) (hcs : TSit P ty Wg Ch n Low0 M val box Anch Post tag j f0 S0 a w) (hcom : KCom P ty Wg Ch n Low0 M val box j gs w t D X S0 (deafOf tag)) : ∀ g ∈ gs, awake g := by
  intro g hg
  obtain ⟨i, hi⟩ := Array.mem_iff_getElem?.1 hg
  cases i with
  | zero =>
    rw [ha] at hi; cases hi
    rcases hcs.status hAr with ⟨hs, _⟩ | ⟨hs, _⟩
    · exact awake_of (.inl hs)
    · exact awake_of (.inr (.inl hs))
  | succ i =>
    have hlt : i < j := by have := (Array.getElem?_eq_some_iff.1 hi).1; rw [hcom.size] at this; omega
    obtain ⟨g', hg', hs⟩ := hcom.wk i hlt
    rw [hi] at hg'; cases hg'
    rcases hs.status with h | h
    · exact awake_of (.inl h)
    · exact awake_of (.inr (.inr h))
theorem k_step (hn : n < 2147483648) (hAr : ∀ S g w, Anch S g w → g.status = .running) (hAn : ∀ S g w, Anch S g w → GT P ty Wg Ch Low0 (W1T P ty Wg Ch Low0 Anch Post) S g w)
    (μ : Nat × Nat) (m : Machine) (t : Trace) (h : KInv P ty Wg Ch n Low0 M val box Anch Post μ m t) :
    (∃ m' ops, stepT P m = (.next m', ops) ∧ KDone P Wg Ch n val Post m' (t ++ ops)) ∨ (∃ m' ops μ', stepT P m = (.next m', ops) ∧ Lt2 μ' μ ∧ KInv P ty Wg Ch n Low0 M val box Anch Post μ' m' (t ++ ops)) := by
  obtain ⟨gs, w, sl, j, D, X, S0, tag, f0, a, st, sm, rfl, ha, hcs, hcom, hwg, hmode, rfl⟩ := h
  obtain ⟨i, g, d, sl', hg, hrun, hstep⟩ := crowd_pick (P := P) (w := w) (sl := sl) (k_awake hAr ha hcs hcom) (k_someone hAr ha hcs hcom hmode)
  rw [hstep]
  have hcs' := hcs.rely (RSt.at S0 w d)
  have hcom' := hcom.at d
  have hwg' : WgAt ty Wg (w.at d) st sm := hwg
  cases i with
  | zero =>
    rw [ha] at hg; cases hg
    exact kCaller (sl := sl') hn hAn ha hcs' hcom' hwg' hmode hrun
  | succ i =>
    have hi : i < j := by have := (Array.getElem?_eq_some_iff.1 hg).1; rw [hcom.size] at this; omega
    exact .inr (kWorker hAr hn ha hcs' hcom' hwg' hmode hi hg hrun)
theorem k_runs (hn : n < 2147483648) (hAr : ∀ S g w, Anch S g w → g.status = .running) (hAn : ∀ S g w, Anch S g w → GT P ty Wg Ch Low0 (W1T P ty Wg Ch Low0 Anch Post) S g w) :
    ∀ (μ : Nat × Nat) (m : Machine) (t : Trace), KInv P ty Wg Ch n Low0 M val box Anch Post μ m t → ∃ N m' t', runNT P N m t = (.next m', t') ∧ KDone P Wg Ch n val Post m' t' := by
  intro μ
  induction μ using (Prod.lex Nat.lt_wfRel Nat.lt_wfRel).wf.induction with
  | _ μ ih =>
    intro m t h
    rcases k_step hn hAr hAn μ m t h with ⟨m', ops, hs, hd⟩ | ⟨m', ops, μ', hs, hlt, hI⟩
    · exact ⟨1, m', t ++ ops, by simp [runNT, hs], hd⟩
    · obtain ⟨N, m'', t'', hr, hd⟩ := ih μ' hlt m' _ hI
      exact ⟨N + 1, m'', t'', by simp only [runNT, hs]; exact hr, hd⟩
/-- from a lone goroutine at the loop that starts the workers -/
theorem k_begin {t : Trace} (hW : Wg < Low0) (hC : Ch < Low0) (hCW : Ch ≠ Wg) (hz : Low0 ≤ w.heap.size) (h0 : ∀ op ∈ t, op.g = 0) (hq : ∀ op ∈ t, ∀ x, op.act.touch? = some x → ¬ ShN Wg x.loc) (hseen : Seen w.heap.size t)
    (hnr : ∀ op ∈ t, op.act ≠ .mark (.release (stA Wg))) (hd : Deaf t 0 = 0) (hwg : WgAt ty Wg w 0 0) (hch : w.heap[Ch]? = some (.chan n #[] false 0 0 false)) (hn0 : 0 < n)
    (h : SpT P ty Wg Ch n Low0 M val box Anch n (fun _ => False) a w) : ∃ μ, KInv P ty Wg Ch n Low0 M val box Anch Post μ (crowd #[a] w sl) t := by
  obtain ⟨r, rfl⟩ : ∃ r, n = r + 1 := ⟨n - 1, by omega⟩
  obtain ⟨m, hk⟩ := h
  have hct : CT (ShN Wg) (OwnX (fun _ => gwN Wg Ch 0 (fun _ => ⟨0, fun _ => False, fun _ => False, 0, false⟩) 0 0) 0) (RdX (fun _ => gwN Wg Ch 0 (fun _ => ⟨0, fun _ => False, fun _ => False, 0, false⟩) 0 0) 0) t 0 := CT.lone h0 hq
  refine ⟨_, #[a], w, sl, 0, fun _ => ⟨0, 0, 0⟩, fun _ => gwN Wg Ch 0 (fun _ => ⟨0, fun _ => False, fun _ => False, 0, false⟩) 0 0, fun _ => False, .sp r 5, m + 1, a, 0, 0, rfl, rfl, .walk ⟨Nat.lt_succ_self r, by omega⟩ hk, ?_, hwg, ?_, rfl⟩
  · refine ⟨rfl, fun i hi => by omega, ⟨hW, hC, hCW, hz, fun i hi => by omega, fun i hi => by omega, fun i hi => by omega, fun i _ hi => by omega, fun i _ hi => by omega, fun i _ hi => by omega, fun i hi => by omega, fun i _ hi => by omega, fun i _ hi => by omega, fun b hb => hb.elim⟩, hct, hseen, ?_, hd, fun i hi => by omega, fun i hi => by omega, ⟨[], 0, hch, rfl, rfl⟩⟩
    exact fun i hi => by
      obtain ⟨op, ho, hoa⟩ := Option.map_eq_some_iff.1 hi
      exact hnr op (Array.mem_of_getElem? ho) hoa
  · have := Go.ConcN.Mode.opn (j := 0) (D := fun _ => (⟨0, 0, 0⟩ : WD)) (tag := .sp r 5) trivial (fun i hi => by omega) (fun vs e => by cases e)
    simpa [Vc, sumTo, pend] using this
end
end Go.Proofs.YtmphfdibijbjeaaDoor
/- Behind the join: goroutine 0 walks on beside others that only leave; it may receive from its channel; to the return. Nothing of one program. -/
namespace Go.Proofs.YtmphfdibijbjeaaDoor
open Go.Conc Go.ConcN
open Go.ConcR (KK wgBlock WgAt stA smA rd wr mk Payload Aside2 DC0 Bk g_of_ofEvents)
set_option linter.unusedSimpArgs false
set_option linter.unusedVariables false
set_option maxRecDepth 100000
set_option linter.unusedSectionVars false
/-- what goroutine 0 may list behind the join -/
def EvP (Wg : Nat) (e : Event) : Prop := (∀ x, (MemAct.ofEvent e).touch? = some x → ShN Wg x.loc → x.kind ≠ .plain) ∧ e.loc ≠ .mark .disable ∧ e.loc ≠ .mark .enable
section
variable {Wg : Nat} {t u : Trace}
theorem PastG.app0 (h : PastG Wg t) (hu : ∀ op ∈ u, op.g = 0) (hs : ∀ op ∈ u, ∀ b, op.act.touch? = some b → ShN Wg b.loc → b.kind ≠ .plain) (hd : Deaf (t ++ u) 0 = Deaf t 0) : PastG Wg (t ++ u) := by
  refine ⟨fun said => noRace_append (h.clean said) hu fun i a ha op hop b hb hc => ?_, fun i a ha hm => ?_, handedOver_app h.over fun op hop => .inl (hu op hop), hd.trans h.hears⟩
  · rcases h.known i a ha hc.2.1 with hk | ⟨hsa, hka⟩
    · exact hk
    · have hkb := hs op hop b hb (hc.1 ▸ hsa)
      obtain ⟨_, _, _, hcase⟩ := hc
      rw [hka] at hcase
      rcases hcase with x | x | ⟨_, x, _⟩
      · cases x
      · exact absurd x hkb
      · cases x
  · obtain ⟨x, hx, hxa⟩ := touch_of ha
    rcases getElem?_append_cases hx with ⟨_, hx'⟩ | ⟨_, hxu⟩
    · exact (h.known i a (by rw [touchAt_of hx']; exact hxa) hm).imp (·.app u) id
    · have := knows_own hx
      rw [hu x hxu] at this
      exact .inl this
theorem PastG.appMute {g : Nat} (h : PastG Wg t) (hg : g ≠ 0) (hu : ∀ op ∈ u, op.g = g) (hn : ∀ op ∈ u, op.act.touch? = none) : PastG Wg (t ++ u) := by
  refine ⟨fun said => noRace_append (h.clean said) hu fun i a _ op hop b hb _ => (by rw [hn op hop] at hb; cases hb), fun i a ha hm => ?_, handedOver_app h.over fun op hop => .inr (hn op hop), (Deaf_other t hg u hu).trans h.hears⟩
  obtain ⟨x, hx, hxa⟩ := touch_of ha
  rcases getElem?_append_cases hx with ⟨_, hx'⟩ | ⟨_, hxu⟩
  · exact (h.known i a (by rw [touchAt_of hx']; exact hxa) hm).imp (·.app u) id
  · rw [hn x hxu] at hxa; cases hxa
theorem PastG.own (h : PastG Wg t) {fn : FuncId} {pos : String} {es : Array Event} (hes : ∀ e ∈ es, EvP Wg e) : PastG Wg (t ++ MemOp.ofEvents 0 fn pos es) := by
  refine h.app0 (fun op hop => by obtain ⟨e, _, rfl⟩ := Go.Conc.mem_ofEvents hop; rfl) (fun op hop b hb => by obtain ⟨e, he, rfl⟩ := Go.Conc.mem_ofEvents hop; exact (hes e he).1 b hb) ?_
  rw [Deaf_own]
  exact deafBehind_still (fun e he => ⟨(hes e he).2.1, (hes e he).2.2⟩) _
theorem PastG.mute (h : PastG Wg t) {g : Nat} (hg : g ≠ 0) {fn : FuncId} {pos : String} {es : Array Event} (hm : ∀ e ∈ es, e.mute = true) : PastG Wg (t ++ MemOp.ofEvents g fn pos es) :=
  h.appMute hg (fun op hop => by obtain ⟨e, _, rfl⟩ := Go.Conc.mem_ofEvents hop; rfl) (fun op hop => by obtain ⟨e, he, rfl⟩ := Go.Conc.mem_ofEvents hop; exact touch_mute (hm e he))
/-- a communication's words -/
theorem PastG.said (h : PastG Wg t) (hu : ∀ op ∈ u, op.g = 0) (hn : ∀ op ∈ u, op.act.touch? = none) (hm : ∀ op ∈ u, op.act ≠ .mark .disable ∧ op.act ≠ .mark .enable) : PastG Wg (t ++ u) :=
  h.app0 hu (fun op hop b hb => by rw [hn op hop] at hb; cases hb) (Deaf_still t 0 u hm)
end
section
variable (P : Program) (Wg : Nat) (Post : Value → World → Prop)
/-- within n steps of its own goroutine 0 returns -/
def FinG : Nat → Goroutine → World → Prop
  | 0, _, _ => False
  | n + 1, g, w => g.status = .running ∧ ∀ d,
      (∃ v es, stepG P true g (w.at d) = .ended (.done v) (w.at d) es ∧ (∀ e ∈ es, EvP Wg e) ∧ Post v (w.at d)) ∨
      (∃ g' w' es, stepG P true g (w.at d) = .go g' w' es ∧ (∀ e ∈ es, EvP Wg e) ∧ FinG n g' w') ∨
      (∃ g₂ c z f cap v buf s r, stepG P true g (w.at d) = .comm g₂ #[rcase c z] true (.recv f) (w.at d) #[] ∧ w.heap[c]? = some (.chan cap ((v :: buf : List Value).toArray) true s r false) ∧
        FinG n (Go.Conc.served g₂ (recvd f v true)) ((w.at d).setChan c cap buf.toArray true s (r + 1) false)) ∨
      (∃ g₂ c z f cap s r, stepG P true g (w.at d) = .comm g₂ #[rcase c z] true (.recv f) (w.at d) #[] ∧ w.heap[c]? = some (.chan cap #[] true s r false) ∧ FinG n (Go.Conc.served g₂ (recvd f z false)) (w.at d))
def PInv (μ : Nat) (m : Machine) (t : Trace) : Prop :=
  ∃ (gs : Array Goroutine) (a : Goroutine) (w : World) (sl : Option (Nat × Nat)) (q : Nat → Nat) (n : Nat),
    m = crowd gs w sl ∧ gs[0]? = some a ∧ Leavers P t gs q ∧ PastG Wg t ∧ FinG P Wg Post n a w ∧ μ = n + sumTo gs.size q
end
section
variable {P : Program} {Wg : Nat} {Post : Value → World → Prop}
theorem FinG.at {n : Nat} {g : Goroutine} {w : World} (h : FinG P Wg Post n g w) (d : Nat) : FinG P Wg Post n g (w.at d) := by
  cases n with
  | zero => exact h
  | succ n => exact ⟨h.1, fun d' => h.2 d'⟩
theorem FinG.more : ∀ {n : Nat} {g : Goroutine} {w : World}, FinG P Wg Post n g w → FinG P Wg Post (n + 1) g w
  | 0, g, w, h => h.elim
  | n + 1, g, w, h => by
    refine ⟨h.1, fun d => ?_⟩
    rcases h.2 d with x | ⟨g', w', es, h1, h2, h3⟩ | ⟨g₂, c, z, f, cap, v, buf, s, r, h1, h2, h3⟩ | ⟨g₂, c, z, f, cap, s, r, h1, h2, h3⟩
    · exact .inl x
    · exact .inr (.inl ⟨g', w', es, h1, h2, FinG.more h3⟩)
    · exact .inr (.inr (.inl ⟨g₂, c, z, f, cap, v, buf, s, r, h1, h2, FinG.more h3⟩))
    · exact .inr (.inr (.inr ⟨g₂, c, z, f, cap, s, r, h1, h2, FinG.more h3⟩))
theorem FinG.mono {n n' : Nat} {g : Goroutine} {w : World} (h : FinG P Wg Post n g w) (hn : n ≤ n') : FinG P Wg Post n' g w := by
  induction hn with
  | refl => exact h
  | step _ ih => exact ih.more
/-- a walk whose stop goes on so -/
theorem FinG.goes {R : World → World → Prop} {D : World → World → Array Event → Prop} {Stop : Goroutine → World → Prop} {m : Nat} (hR : ∀ w d, R w (w.at d)) (hD : ∀ w w' es, D w w' es → ∀ e ∈ es, EvP Wg e) (hS : ∀ g w, Stop g w → FinG P Wg Post m g w) :
    ∀ {n : Nat} {g : Goroutine} {w : World}, Goes P true R D Stop n g w → FinG P Wg Post (m + n) g w
  | 0, g, w, h => hS _ _ (h w (hR w w.drawn))
  | n + 1, g, w, h => by
    rcases h with h | ⟨hs, h⟩
    · exact (hS _ _ (h w (hR w w.drawn))).mono (by omega)
    · refine ⟨hs, fun d => ?_⟩
      have h2 := h (w.at d) (hR w d)
      revert h2
      cases hg : stepG P true g (w.at d) <;> simp only [GStep.goes, false_implies]
      rintro ⟨hd, hk⟩
      exact .inr (.inl ⟨_, _, _, rfl, hD _ _ _ hd, FinG.goes hR hD hS hk⟩)
theorem FinG.goesJ {R : World → World → Prop} {D : World → World → Array Event → Prop} {Stop : Goroutine → World → Prop} {J : World → Prop} {m : Nat} (hJ : ∀ w d, J w → J (w.at d)) (hDJ : ∀ w w' es, D w w' es → J w → J w') (hR : ∀ w d, R w (w.at d)) (hD : ∀ w w' es, D w w' es → ∀ e ∈ es, EvP Wg e) (hS : ∀ g w, Stop g w → J w → FinG P Wg Post m g w) :
    ∀ {n : Nat} {g : Goroutine} {w : World}, Goes P true R D Stop n g w → J w → FinG P Wg Post (m + n) g w
  | 0, g, w, h, hj => hS _ _ (h w (hR w w.drawn)) hj
  | n + 1, g, w, h, hj => by
    rcases h with h | ⟨hs, h⟩
    · exact (hS _ _ (h w (hR w w.drawn)) hj).mono (by omega)
    · refine ⟨hs, fun d => ?_⟩
      have h2 := h (w.at d) (hR w d)
      revert h2
      cases hg : stepG P true g (w.at d) <;> simp only [GStep.goes, false_implies]
      rintro ⟨hd, hk⟩
      exact .inr (.inl ⟨_, _, _, rfl, hD _ _ _ hd, FinG.goesJ hJ hDJ hR hD hS hk (hDJ _ _ _ hd (hJ w d hj))⟩)
theorem FinG.trek {R : Bag → World → World → Prop} {D : Bag → World → World → Array Event → Prop} {Stop : Bag → Goroutine → World → Prop} {m : Nat} (hR : ∀ S w d, R S w (w.at d)) (hD : ∀ S w w' es, D S w w' es → ∀ e ∈ es, EvP Wg e) (hS : ∀ S g w, Stop S g w → FinG P Wg Post m g w) :
    ∀ {n : Nat} {S : Bag} {g : Goroutine} {w : World}, Trek P true R D Stop n S g w → FinG P Wg Post (m + n) g w
  | 0, S, g, w, h => hS _ _ _ (h w (hR S w w.drawn))
  | n + 1, S, g, w, h => by
    rcases h with h | ⟨hs, h⟩
    · exact (hS _ _ _ (h w (hR S w w.drawn))).mono (by omega)
    · refine ⟨hs, fun d => ?_⟩
      have h2 := h (w.at d) (hR S w d)
      revert h2
      cases hg : stepG P true g (w.at d) <;> simp only [GStep.goes, false_implies]
      rintro ⟨hd, hk⟩
      exact .inr (.inl ⟨_, _, _, rfl, hD _ _ _ _ hd, FinG.trek hR hD hS hk⟩)
theorem Leavers.keep {gs gs' : Array Goroutine} {t u : Trace} {q : Nat → Nat} (hL : Leavers P t gs q) (h0 : 0 < gs.size) (hsz : gs'.size = gs.size) (hoth : ∀ (k : Nat) (y : Goroutine), k ≠ 0 → (y.status = .running ∨ y.status = .finished) → gs[k]? = some y → gs'[k]? = some y) (hu : ∀ op ∈ u, op.g = 0) : Leavers P (t ++ u) gs' q := by
  refine ⟨fun j x hj hx => ?_, fun j hj => ?_⟩
  · have hlt : j < gs.size := by have := (Array.getElem?_eq_some_iff.1 hx).1; omega
    have hq := hL.old j _ hj (Array.getElem?_eq_getElem hlt)
    have hy := hoth j _ (by omega) hq.status (Array.getElem?_eq_getElem hlt)
    rw [hy] at hx
    cases hx
    rw [Deaf_other t (g' := 0) (by omega) _ hu]
    exact hq
  · rw [Deaf_other t (g' := 0) (by omega) _ hu]
    exact hL.above j (by omega)
theorem p_step (μ : Nat) (m : Machine) (t : Trace) (h : PInv P Wg Post μ m t) :
    (∃ o w ops, stepT P m = (.ended o w, ops) ∧ Good P Post m o w (t ++ ops)) ∨ (∃ m' ops μ', stepT P m = (.next m', ops) ∧ μ' < μ ∧ PInv P Wg Post μ' m' (t ++ ops)) := by
  obtain ⟨gs, a, w, sl, q, n, rfl, h0, hL, hP, hG, rfl⟩ := h
  obtain ⟨n, rfl⟩ : ∃ k, n = k + 1 := by cases n with
    | zero => exact hG.elim
    | succ k => exact ⟨k, rfl⟩
  have hrun : a.status = .running := hG.1
  have hpos : 0 < gs.size := (Array.getElem?_eq_some_iff.1 h0).1
  have haw : ∀ g ∈ gs, awake g := by
    intro g hg
    obtain ⟨i, hi, rfl⟩ := Array.mem_iff_getElem.1 hg
    rcases Nat.eq_zero_or_pos i with rfl | hpos
    · have : gs[0] = a := by simpa [Array.getElem?_eq_getElem hi] using h0
      rw [this]; exact awake_of (.inl hrun)
    · exact awake_of ((hL.old i _ hpos (Array.getElem?_eq_getElem hi)).status.elim .inl fun x => .inr (.inr x))
  have nobody : ∀ c, partners (gs.setIfInBounds 0 ph) c true = [] := fun c => by
    refine partners_nil fun k y hy => ?_
    rcases getElem?_stand gs 0 k y hy with ⟨_, rfl⟩ | ⟨hk, hy'⟩
    · rfl
    · rcases (hL.old k y (by omega) hy').status with h1 | h1
      · exact offersAt_of_not_blocked (by rw [h1]; simp) _ _
      · exact offersAt_of_not_blocked (by rw [h1]; simp) _ _
  obtain ⟨i, g, d, sl', hi, hg, hst⟩ := crowd_pick (P := P) (w := w) (sl := sl) haw ⟨0, a, h0, hrun⟩
  rcases Nat.eq_zero_or_pos i with rfl | hpi
  · obtain rfl : g = a := by rw [h0] at hi; exact (Option.some.inj hi).symm
    rcases hG.2 d with ⟨v, es, hend, hes, hpost⟩ | ⟨g', w', es, hgo, hes, hk⟩ | ⟨g₂, c, z, f, cap, v, buf, s, r, hgo, hch, hk⟩ | ⟨g₂, c, z, f, cap, s, r, hgo, hch, hk⟩
    · -- the return
      have hrunT := runT_many_ended (P := P) (sl := sl') (i := 0) hi (show stepG P (0 == 0) g (w.at d) = _ from hend)
      have hP' := hP.own (fn := g.frame.fn) (pos := g.frame.place) hes
      refine .inl ⟨_, _, _, hst.trans hrunT, v, rfl, hpost, hP'.clean, hP'.over, ⟨fun x hx => ?_, rfl⟩, fun j x hx hj => ?_⟩
      · obtain ⟨j, hj⟩ := List.mem_iff_getElem?.1 hx
        rw [List.getElem?_drop] at hj
        exact ⟨_, (hL.old (1 + j) x (by omega) (by simpa [crowd] using hj)).leaves⟩
      · have hq := hL.old j x (by omega) hx
        refine ⟨q j, ?_⟩
        have e : (t ++ MemOp.ofEvents 0 g.frame.fn g.frame.place es).deaf j (t ++ MemOp.ofEvents 0 g.frame.fn g.frame.place es).size = Deaf t j :=
          Deaf_other t (g := j) (g' := 0) (by omega) _ (fun op hop => by obtain ⟨e, _, rfl⟩ := Go.Conc.mem_ofEvents hop; rfl)
        rw [e]
        exact hq.hears _
    · have hrunT := runT_crowd_go (P := P) (sl := sl') (i := 0) hi (show stepG P (0 == 0) g (w.at d) = _ from hgo)
      refine .inr ⟨_, _, n + sumTo gs.size q, hst.trans hrunT, by omega, _, g', w', sl', q, n, rfl, by simp [hpos], ?_, hP.own hes, hk, by simp⟩
      exact Leavers.keep hL hpos (by simp) (map_keeps fun y hy => woken_keeps _ _ _ y hy) (fun op hop => by obtain ⟨e, _, rfl⟩ := Go.Conc.mem_ofEvents hop; rfl)
    · have hrunT := crowd_recv_buf (P := P) (sl := sl') (i := 0) (w := w.at d) (w₁ := w.at d) hi (show stepG P (0 == 0) g (w.at d) = _ from hgo) (show (w.at d).heap[c]? = _ from hch) (by simp) (nobody c)
      rw [finishComm_recv] at hrunT
      have e1 : ((v :: buf : List Value).toArray).getD 0 undef = v := by simp
      have e2 : ((v :: buf : List Value).toArray).extract 1 ((v :: buf : List Value).toArray).size = buf.toArray := by simp
      rw [e1, e2] at hrunT
      generalize hu : (MemOp.ofEvents 0 g.frame.fn g.frame.place #[] ++ #[{ g := 0, fn := g₂.frame.fn, pos := g₂.frame.place, act := MemAct.recv c r cap }, { g := 0, fn := g₂.frame.fn, pos := g₂.frame.place, act := MemAct.recvDone c r }] : Trace) = u at hrunT
      have hu2 : ∀ op ∈ u, op.g = 0 ∧ (op.act = .recv c r cap ∨ op.act = .recvDone c r) := by
        intro op hop
        rw [← hu, ofEvents_eq] at hop
        simp at hop
        rcases hop with rfl | rfl
        · exact ⟨rfl, .inl rfl⟩
        · exact ⟨rfl, .inr rfl⟩
      refine .inr ⟨_, _, n + sumTo gs.size q, hst.trans hrunT, by omega, _, _, _, sl', q, n, rfl, by simp [hpos], ?_, hP.said (fun op hop => (hu2 op hop).1) (fun op hop => by rcases (hu2 op hop).2 with e | e <;> rw [e] <;> rfl) (fun op hop => by rcases (hu2 op hop).2 with e | e <;> rw [e] <;> simp), hk, by simp⟩
      exact Leavers.keep hL hpos (by simp) (fun k y hk _ hy => by rw [Array.getElem?_setIfInBounds_ne (Ne.symm hk)]; exact hy) (fun op hop => (hu2 op hop).1)
    · have hrunT := crowd_recv_closed (P := P) (sl := sl') (i := 0) (w := w.at d) (w₁ := w.at d) hi (show stepG P (0 == 0) g (w.at d) = _ from hgo) (show (w.at d).heap[c]? = _ from hch) (nobody c)
      rw [finishComm_recv] at hrunT
      generalize hu : (MemOp.ofEvents 0 g.frame.fn g.frame.place #[] ++ #[{ g := 0, fn := g₂.frame.fn, pos := g₂.frame.place, act := MemAct.recvClosed c }] : Trace) = u at hrunT
      have hu2 : ∀ op ∈ u, op.g = 0 ∧ op.act = .recvClosed c := by
        intro op hop
        rw [← hu, ofEvents_eq] at hop
        simp at hop
        subst hop
        exact ⟨rfl, rfl⟩
      refine .inr ⟨_, _, n + sumTo gs.size q, hst.trans hrunT, by omega, _, _, _, sl', q, n, rfl, by simp [hpos], ?_, hP.said (fun op hop => (hu2 op hop).1) (fun op hop => by rw [(hu2 op hop).2]; rfl) (fun op hop => by rw [(hu2 op hop).2]; simp), hk, by simp⟩
      exact Leavers.keep hL hpos (by simp) (fun k y hk _ hy => by rw [Array.getElem?_setIfInBounds_ne (Ne.symm hk)]; exact hy) (fun op hop => (hu2 op hop).1)
  · -- one that leaves
    have hq := hL.old i g hpi hi
    have hi0 : (i == 0) = false := by simp; omega
    have hlt : i < gs.size := (Array.getElem?_eq_some_iff.1 hi).1
    cases hqi : q i with
    | zero => rw [hqi] at hq; rw [hq.1] at hg; cases hg
    | succ k =>
      rw [hqi] at hq
      rcases hq with ⟨hf, _⟩ | ⟨_, g', es, hm, hstp, hq'⟩
      · rw [hf] at hg; cases hg
      have hrunT := runT_crowd_go (P := P) (sl := sl') (i := i) hi (by rw [hi0]; exact hstp (w.at d))
      have hsz : ((gs.map (woken P g g' (w.at d))).setIfInBounds i g').size = gs.size := by simp
      have hsum : sumTo gs.size (upd q i k) + (k + 1) = sumTo gs.size q + k := by
        have := sumTo_upd q k id hlt
        simpa [hqi] using this
      refine .inr ⟨_, _, (n + 1) + sumTo gs.size (upd q i k), hst.trans hrunT, by omega, _, a, w.at d, sl', upd q i k, n + 1, rfl, ?_, ⟨fun j x hj hx => ?_, fun j hj => by
        rw [Deaf_other t (g' := i) (by simp at hj; omega) _ (fun op hop => by obtain ⟨e, _, rfl⟩ := Go.Conc.mem_ofEvents hop; rfl)]
        exact hL.above j (by simpa using hj)⟩, hP.mute (by omega) hm, hG.at d, by rw [hsz]⟩
      · have hne : i ≠ 0 := by omega
        rw [Array.getElem?_setIfInBounds_ne hne, Array.getElem?_map, h0]
        simp [woken_run hrun]
      · by_cases hji : i = j
        · subst hji
          rw [Array.getElem?_setIfInBounds_self_of_lt (by simpa using hlt)] at hx
          obtain rfl := Option.some.inj hx
          rw [upd_same, Deaf_own]
          exact hq'
        · rw [Array.getElem?_setIfInBounds_ne hji, Array.getElem?_map] at hx
          obtain ⟨y, hy, rfl⟩ := Option.map_eq_some_iff.1 hx
          have hqj := hL.old j y hj hy
          rw [woken_quitsD hqj, upd_ne q k (Ne.symm hji), Deaf_other t hji _ (fun op hop => by obtain ⟨e, _, rfl⟩ := Go.Conc.mem_ofEvents hop; rfl)]
          exact hqj
/-- the run ends, and all is well -/
theorem p_ends {gs : Array Goroutine} {a : Goroutine} {w : World} {sl : Option (Nat × Nat)} {t : Trace} {q : Nat → Nat} {n : Nat} (h0 : gs[0]? = some a) (hL : Leavers P t gs q) (hP : PastG Wg t) (hG : FinG P Wg Post n a w) :
    ∃ N last o w' t', runNT P (N + 1) (crowd gs w sl) t = (.ended o w', t') ∧ runN P N (crowd gs w sl) = .next last ∧ step P last = .ended o w' ∧ Good P Post last o w' t' :=
  run_of_inv Nat.lt_wfRel.wf (PInv P Wg Post) (Good P Post) p_step _ _ _ ⟨gs, a, w, sl, q, n, rfl, h0, hL, hP, hG, rfl⟩
end
end Go.Proofs.YtmphfdibijbjeaaDoor
/- Behind the join: the rules of goroutine 0's last walk. Nothing of one program. -/
namespace Go.Proofs.YtmphfdibijbjeaaDoor
open Go.Conc Go.ConcN
set_option linter.unusedSimpArgs false
set_option linter.unusedVariables false
set_option maxRecDepth 100000
set_option linter.unusedSectionVars false
section
variable {P : Program} {Wg : Nat} {Post : Value → World → Prop} {n : Nat} {g g' : Goroutine} {w : World} {b b₀ : Frame} {a a₀ : Act} {k : List Item} {cs : List Frame} {ops : Array Oper} {i : Nat} {rest : List Nat} {o : Oper}
theorem FinG.still (hs : g.status = .running) (hg : ∀ w, stepG P true g w = .go g' w #[]) (h : FinG P Wg Post n g' w) : FinG P Wg Post (n + 1) g w :=
  ⟨hs, fun d => .inr (.inl ⟨g', w.at d, #[], hg _, by simp, h.at d⟩)⟩
theorem FinG.step (hs : g.status = .running) (h : ∀ d, (stepG P true g (w.at d)).goes fun g' w' es => (∀ e ∈ es, EvP Wg e) ∧ FinG P Wg Post n g' w') : FinG P Wg Post (n + 1) g w := by
  refine ⟨hs, fun d => ?_⟩
  have h2 := h d
  revert h2
  cases hg : stepG P true g (w.at d) <;> simp only [GStep.goes, false_implies]
  exact fun x => .inr (.inl ⟨_, _, _, rfl, x.1, x.2⟩)
theorem FinG.oper_k (ho : ops[i]? = some o) (hw : Region.wanted o (yielded ops a.tmps) = true) (hk : b.kind ≠ .early)
    (h : ∀ d, ∀ K : Act → World → Prop, (∀ a' w', (∀ e ∈ listed P b.fn a o (w.at d), EvP Wg e) ∧ FinG P Wg Post n (G (b.at a' (.inRegion ops rest :: k)) cs) w' → K a' w') → uponK o a K ((execOp a.eval o).run P (w.at d))) :
    FinG P Wg Post (n + 1) (G (b.at a (.inRegion ops (i :: rest) :: k)) cs) w := by
  refine FinG.step rfl fun d => goes_oper ho hw hk ?_
  have h2 := h d (fun a' w' => (∀ e ∈ listed P b.fn a o (w.at d), EvP Wg e) ∧ FinG P Wg Post n (G (b.at a' (.inRegion ops rest :: k)) cs) w') (fun _ _ x => x)
  revert h2
  cases (execOp a.eval o).run P (w.at d) with
  | ok x w' => cases x <;> exact id
  | halt _ _ => exact id
/-- a receive of a value that is there -/
theorem FinG.recv {c cap s r : Nat} {z v : Value} {buf : List Value} {f : Bool} (ho : ops[i]? = some o) (hw : Region.wanted o (yielded ops a.tmps) = true) (hk : b.kind ≠ .early)
    (hr : ∀ w : World, (execOp a.eval o).run P w = .ok (.comm #[rcase c z] true (.recv f)) w) (hl : ∀ w : World, listed P b.fn a o w = #[]) (hc : w.heap[c]? = some (.chan cap ((v :: buf : List Value).toArray) true s r false))
    (h : FinG P Wg Post n (G (b.at (a.put o.dst (recvd f v true)) (.inRegion ops rest :: k)) cs) (w.setChan c cap buf.toArray true s (r + 1) false)) :
    FinG P Wg Post (n + 1) (G (b.at a (.inRegion ops (i :: rest) :: k)) cs) w := by
  refine ⟨rfl, fun d => .inr (.inr (.inl ⟨G (b.at a (.inRegion ops (i :: rest) :: k)) cs, c, z, f, cap, v, buf, s, r, ?_, hc, ?_⟩))⟩
  · rw [stepG_comm ho hw hk (hr _), hl]
  · rw [served_G, ho]
    exact h.at d
/-- a receive of a channel that is closed and empty -/
theorem FinG.shut {c cap s r : Nat} {z : Value} {f : Bool} (ho : ops[i]? = some o) (hw : Region.wanted o (yielded ops a.tmps) = true) (hk : b.kind ≠ .early)
    (hr : ∀ w : World, (execOp a.eval o).run P w = .ok (.comm #[rcase c z] true (.recv f)) w) (hl : ∀ w : World, listed P b.fn a o w = #[]) (hc : w.heap[c]? = some (.chan cap #[] true s r false))
    (h : FinG P Wg Post n (G (b.at (a.put o.dst (recvd f z false)) (.inRegion ops rest :: k)) cs) w) :
    FinG P Wg Post (n + 1) (G (b.at a (.inRegion ops (i :: rest) :: k)) cs) w := by
  refine ⟨rfl, fun d => .inr (.inr (.inr ⟨G (b.at a (.inRegion ops (i :: rest) :: k)) cs, c, z, f, cap, s, r, ?_, hc, ?_⟩))⟩
  · rw [stepG_comm ho hw hk (hr _), hl]
  · rw [served_G, ho]
    exact h.at d
theorem FinG.leave1 {fn : Func} {todo : List Item} {t : Tmp} (hn : b.kind = .normal) (hd : a.defers = []) (hf : P.funcs[b.fn]? = some fn) (hr : fn.results = #[.tmp t])
    (h : FinG P Wg Post n (G (b₀.at (a₀.put ((ops[i]?).bind (·.dst)) (a.tmps.getD t undef)) (.inRegion ops rest :: k)) cs) w) :
    FinG P Wg Post (n + 1) (G { b.at a todo with mode := .returning } (b₀.at a₀ (.inRegion ops (i :: rest) :: k) :: cs)) w :=
  FinG.step rfl fun d => goes_leave1 hn hd hf hr ⟨by simp, h.at d⟩
theorem FinG.leave2 {fn : Func} {todo : List Item} {t u : Tmp} (hn : b.kind = .normal) (hd : a.defers = []) (hf : P.funcs[b.fn]? = some fn) (hr : fn.results = #[.tmp t, .tmp u])
    (h : FinG P Wg Post n (G (b₀.at (a₀.put ((ops[i]?).bind (·.dst)) (.tuple #[a.tmps.getD t undef, a.tmps.getD u undef])) (.inRegion ops rest :: k)) cs) w) :
    FinG P Wg Post (n + 1) (G { b.at a todo with mode := .returning } (b₀.at a₀ (.inRegion ops (i :: rest) :: k) :: cs)) w :=
  FinG.step rfl fun d => goes_leave2 hn hd hf hr ⟨by simp, h.at d⟩
theorem evP_none : ∀ e ∈ (#[] : Array Event), EvP Wg e := fun e he => by simp at he
/-- a plain access of another block -/
theorem evP_cell {ad : Addr} {wr sy : Bool} (h : ad.block ≠ Wg) : EvP Wg ⟨.cell ad, wr, sy⟩ := by
  refine ⟨fun x hx hs => ?_, by simp, by simp⟩
  simp only [Go.ConcR.ofEvent_cell, MemAct.touch?, Option.some.injEq] at hx
  subst hx
  obtain ⟨a', e1, e2⟩ := hs
  cases e1
  exact absurd e2 h
theorem evP_obj {r : Nat} {wr : Bool} : EvP Wg ⟨.obj r, wr, true⟩ := by
  refine ⟨fun x hx hs => ?_, by simp, by simp⟩
  obtain ⟨a', e1, e2⟩ := hs
  cases wr
  · simp only [MemAct.ofEvent, MemAct.touch?, Option.some.injEq] at hx
    subst hx
    cases e1
  · simp [MemAct.ofEvent, MemAct.touch?] at hx
theorem chan_set {c cap s r : Nat} {buf : Array Value} {cl tm : Bool} (h : c < w.heap.size) : (w.setChan c cap buf cl s r tm).heap[c]? = some (.chan cap buf cl s r tm) := by simp [World.setChan, h]
theorem chan_other {c cap s r bl : Nat} {buf : Array Value} {cl tm : Bool} (h : bl ≠ c) : (w.setChan c cap buf cl s r tm).heap[bl]? = w.heap[bl]? := by
  simp only [World.setChan]
  rw [Array.getElem?_setIfInBounds_ne (Ne.symm h)]
end
end Go.Proofs.YtmphfdibijbjeaaDoor
