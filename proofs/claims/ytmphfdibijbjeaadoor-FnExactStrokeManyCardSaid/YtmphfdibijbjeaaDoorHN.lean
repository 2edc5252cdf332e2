/- Workers that make memory, each with a box and blocks of its own: the families of blocks, whoever turns what; the trace's law when a family grows. Nothing of one program. -/
import Derived.Test.YtmphfdibijbjeaaDoorHE
import Derived.Conc.CrowdRun
import Derived.Conc.CrowdComm
import Derived.Conc.Beside
namespace Go.Proofs.YtmphfdibijbjeaaDoor
open Go.Conc Go.ConcN
open Go.ConcR (KK wgBlock WgAt stA smA rd wr mk Payload Aside2 DC0 Bk g_of_ofEvents)
set_option linter.unusedSimpArgs false
set_option linter.unusedVariables false
set_option maxRecDepth 100000
/-- what is told of a worker beside its stage: the heap's size at its go statement; the low blocks that are not for it; what it made; its box; has it sent? -/
structure GW where
  lw : Nat
  sh : Nat → Prop
  bag : Bag
  bd : Nat
  sent : Bool
/-- where the blocks lie, the heap's size being z -/
structure Fam (Wg Ch Low0 j : Nat) (X : Nat → GW) (S0 : Bag) (z : Nat) : Prop where
  hW : Wg < Low0
  hC : Ch < Low0
  hCW : Ch ≠ Wg
  hz : Low0 ≤ z
  lw : ∀ i, i < j → Low0 ≤ (X i).lw ∧ (X i).lw ≤ z
  bd : ∀ i, i < j → Low0 ≤ (X i).bd ∧ (X i).bd < (X i).lw
  bag : ∀ i, i < j → ∀ b, (X i).bag b → (X i).lw ≤ b ∧ b < z
  apart : ∀ i i', i < j → i' < j → i ≠ i' → ∀ b, (X i).bag b → ¬ (X i').bag b
  box : ∀ i i', i < j → i' < j → ¬ (X i).bag (X i').bd
  box2 : ∀ i i', i < j → i' < j → i ≠ i' → (X i).bd ≠ (X i').bd
  shG : ∀ i, i < j → (X i).sh Wg ∧ (X i).sh Ch
  shBag : ∀ i i', i < j → i' < j → i ≠ i' → ∀ b, (X i').bag b → b < (X i).lw → (X i).sh b
  shBd : ∀ i i', i < j → i' < j → i ≠ i' → (X i').bd < (X i).lw → (X i).sh (X i').bd
  mine : ∀ b, S0 b → Low0 ≤ b ∧ b < z ∧ ∀ i, i < j → (X i).lw ≤ b ∧ ¬ (X i).bag b
/-- what whoever acts may turn: the group, the channel, what is its own -/
def Part (Wg Ch : Nat) (X : Nat → GW) (S0 : Bag) : Option Nat → Nat → Prop
  | none, b => b = Wg ∨ b = Ch ∨ S0 b
  | some i, b => b = Wg ∨ b = Ch ∨ (X i).bag b ∨ b = (X i).bd
/-- the world but for the blocks T, and the new ones -/
structure Eff (T : Nat → Prop) (w w' : World) : Prop where
  size : w.heap.size ≤ w'.heap.size
  os : w'.os = w.os
  tape : w'.tape = w.tape
  output : w'.output = w.output
  block : ∀ b, b < w.heap.size → ¬ T b → w'.heap[b]? = w.heap[b]?
theorem Eff.mono {T T' : Nat → Prop} {w w' : World} (h : Eff T w w') (ht : ∀ b, T b → T' b) : Eff T' w w' := ⟨h.size, h.os, h.tape, h.output, fun b hb hn => h.block b hb fun x => hn (ht b x)⟩
theorem Eff.refl (T : Nat → Prop) (w : World) : Eff T w w := ⟨Nat.le_refl _, rfl, rfl, rfl, fun _ _ _ => rfl⟩
theorem Eff.at (T : Nat → Prop) (w : World) (d : Nat) : Eff T w (w.at d) := ⟨Nat.le_refl _, rfl, rfl, rfl, fun _ _ _ => rfl⟩
/-- the starter's low blocks that others turn -/
def Shr0 (Wg Ch : Nat) (b : Nat) : Prop := b = Wg ∨ b = Ch
abbrev NoLv : World → Prop := fun _ => True
section
variable {Wg Ch Low0 j : Nat} {X : Nat → GW} {S0 : Bag} {w w' : World} {who : Option Nat}
theorem Fam.out (h : Fam Wg Ch Low0 j X S0 w.heap.size) (hwho : ∀ k, who = some k → k < j) {i : Nat} (hi : i < j) (hne : who ≠ some i) {b : Nat} (hp : Part Wg Ch X S0 who b) :
    (b < (X i).lw → (X i).sh b) ∧ ¬ (X i).bag b ∧ b ≠ (X i).bd := by
  have h1 := h.lw i hi
  have h2 := h.bd i hi
  have hWb : b = Wg → (b < (X i).lw → (X i).sh b) ∧ ¬ (X i).bag b ∧ b ≠ (X i).bd := fun e => by
    subst e
    exact ⟨fun _ => (h.shG i hi).1, fun hb => by have := (h.bag i hi _ hb).1; have := h.hW; omega, fun e => by have := h.hW; omega⟩
  have hCb : b = Ch → (b < (X i).lw → (X i).sh b) ∧ ¬ (X i).bag b ∧ b ≠ (X i).bd := fun e => by
    subst e
    exact ⟨fun _ => (h.shG i hi).2, fun hb => by have := (h.bag i hi _ hb).1; have := h.hC; omega, fun e => by have := h.hC; omega⟩
  cases who with
  | none =>
    rcases hp with e | e | hs
    · exact hWb e
    · exact hCb e
    · obtain ⟨_, _, h5⟩ := h.mine b hs
      obtain ⟨h6, h7⟩ := h5 i hi
      exact ⟨fun _ => by omega, h7, fun e => by omega⟩
  | some k =>
    have hk := hwho k rfl
    have hki : k ≠ i := fun e => hne (e ▸ rfl)
    rcases hp with e | e | hb | e
    · exact hWb e
    · exact hCb e
    · exact ⟨fun hl => h.shBag i k hi hk (Ne.symm hki) b hb hl, h.apart k i hk hi hki b hb, fun e => h.box k i hk hi (e ▸ hb)⟩
    · subst e
      exact ⟨fun hl => h.shBd i k hi hk (Ne.symm hki) hl, h.box i k hi hk, h.box2 k i hk hi hki⟩
/-- another worker suffers it, its reckoning under way .. -/
theorem Fam.pre (h : Fam Wg Ch Low0 j X S0 w.heap.size) (hwho : ∀ k, who = some k → k < j) (e : Eff (Part Wg Ch X S0 who) w w') {i : Nat} (hi : i < j) (hne : who ≠ some i) :
    RH (X i).lw (X i).sh NoLv (X i).bag w w' :=
  ⟨e.size, fun b hb hs => e.block b (by have := (h.lw i hi).2; omega) fun hp => hs ((h.out hwho hi hne hp).1 hb), fun b hb => e.block b (h.bag i hi b hb).2 fun hp => (h.out hwho hi hne hp).2.1 hb, fun _ => trivial⟩
theorem Fam.boxAt (h : Fam Wg Ch Low0 j X S0 w.heap.size) (hwho : ∀ k, who = some k → k < j) (e : Eff (Part Wg Ch X S0 who) w w') {i : Nat} (hi : i < j) (hne : who ≠ some i) :
    w'.heap[(X i).bd]? = w.heap[(X i).bd]? :=
  e.block _ (by have := h.bd i hi; have := (h.lw i hi).2; omega) fun hp => (h.out hwho hi hne hp).2.2 rfl
/-- .. or behind its send -/
theorem Fam.tail [Payload] {ty : TypeId} (h : Fam Wg Ch Low0 j X S0 w.heap.size) (hwho : ∀ k, who = some k → k < j) (e : Eff (Part Wg Ch X S0 who) w w') (hl : WgLive ty Wg w') {i : Nat} (hi : i < j) (hne : who ≠ some i) :
    RW ty Wg (X i).bd 1 0 0 w w' := by
  have hb := h.boxAt hwho e hi hne
  exact ⟨fun b hb => absurd hb (Nat.not_lt_zero _), fun _ => hl, fun ⟨cs, hc, hn⟩ => ⟨cs, hb.trans hc, hn⟩, cell_of_block hb 0⟩
/-- the starter suffers a worker's -/
theorem Fam.start {Lv : World → Prop} (h : Fam Wg Ch Low0 j X S0 w.heap.size) {k : Nat} (hk : k < j) (e : Eff (Part Wg Ch X S0 (some k)) w w') (hl : Lv w') :
    RH Low0 (Shr0 Wg Ch) Lv S0 w w' := by
  refine ⟨e.size, fun b hb hs => e.block b (by have := h.hz; omega) fun hp => ?_, fun b hb => e.block b (h.mine b hb).2.1 fun hp => ?_, fun _ => hl⟩
  · rcases hp with x | x | x | x
    · exact hs (.inl x)
    · exact hs (.inr x)
    · have := (h.bag k hk b x).1; have := (h.lw k hk).1; omega
    · have := (h.bd k hk).1; omega
  · obtain ⟨h1, h2, h3⟩ := h.mine b hb
    obtain ⟨h4, h5⟩ := h3 k hk
    rcases hp with x | x | x | x
    · have := h.hW; omega
    · have := h.hC; omega
    · exact h5 x
    · have := (h.bd k hk).2; omega
/-- a worker's step: what it makes is its own -/
theorem Fam.work (h : Fam Wg Ch Low0 j X S0 w.heap.size) (hz : w.heap.size ≤ w'.heap.size) {k : Nat} (hk : k < j) {x' : GW} (e1 : x'.lw = (X k).lw) (e2 : x'.sh = (X k).sh) (e3 : x'.bd = (X k).bd) (e4 : x'.bag = more (X k).bag w w') :
    Fam Wg Ch Low0 j (upd X k x') S0 w'.heap.size := by
  have u : ∀ i, upd X k x' i = if i = k then x' else X i := fun i => rfl
  have lwE : ∀ i, (upd X k x' i).lw = (X i).lw := fun i => by rw [u]; split <;> simp [*]
  have shE : ∀ i, (upd X k x' i).sh = (X i).sh := fun i => by rw [u]; split <;> simp [*]
  have bdE : ∀ i, (upd X k x' i).bd = (X i).bd := fun i => by rw [u]; split <;> simp [*]
  have bagE : ∀ i b, (upd X k x' i).bag b → (X i).bag b ∨ (i = k ∧ w.heap.size ≤ b ∧ b < w'.heap.size) := fun i b hb => by
    rw [u] at hb
    split at hb
    · rename_i e; subst e; rw [e4] at hb; exact hb.imp id fun y => ⟨rfl, y⟩
    · exact .inl hb
  refine ⟨h.hW, h.hC, h.hCW, Nat.le_trans h.hz hz, fun i hi => ?_, fun i hi => ?_, fun i hi b hb => ?_, fun i i' hi hi' hn b hb hb' => ?_, fun i i' hi hi' hb => ?_, fun i i' hi hi' hn => ?_, fun i hi => ?_, fun i i' hi hi' hn b hb hl => ?_, fun i i' hi hi' hn hl => ?_, fun b hb => ?_⟩
  · rw [lwE]; have := h.lw i hi; omega
  · rw [lwE, bdE]; exact h.bd i hi
  · rw [lwE]
    rcases bagE i b hb with x | ⟨_, x1, x2⟩
    · have := h.bag i hi b x; omega
    · have := h.lw i hi; omega
  · rcases bagE i b hb with x | ⟨rfl, x1, x2⟩ <;> rcases bagE i' b hb' with y | ⟨rfl, y1, y2⟩
    · exact h.apart i i' hi hi' hn b x y
    · have := (h.bag i hi b x).2; omega
    · have := (h.bag i' hi' b y).2; omega
    · exact hn rfl
  · rw [bdE] at hb
    rcases bagE i _ hb with x | ⟨rfl, x1, x2⟩
    · exact h.box i i' hi hi' x
    · have := h.bd i' hi'; have := h.lw i' hi'; omega
  · rw [bdE, bdE]; exact h.box2 i i' hi hi' hn
  · rw [shE]; exact h.shG i hi
  · rw [lwE] at hl
    rw [shE]
    rcases bagE i' b hb with x | ⟨rfl, x1, x2⟩
    · exact h.shBag i i' hi hi' hn b x hl
    · have := h.lw i hi; omega
  · rw [lwE, bdE] at hl
    rw [shE, bdE]
    exact h.shBd i i' hi hi' hn hl
  · obtain ⟨h1, h2, h3⟩ := h.mine b hb
    refine ⟨h1, by omega, fun i hi => ?_⟩
    rw [lwE]
    obtain ⟨h4, h5⟩ := h3 i hi
    refine ⟨h4, fun hb' => ?_⟩
    rcases bagE i b hb' with x | ⟨rfl, x1, x2⟩
    · exact h5 x
    · omega
/-- the starter's step -/
theorem Fam.own (h : Fam Wg Ch Low0 j X S0 w.heap.size) (hz : w.heap.size ≤ w'.heap.size) : Fam Wg Ch Low0 j X (more S0 w w') w'.heap.size := by
  refine ⟨h.hW, h.hC, h.hCW, Nat.le_trans h.hz hz, fun i hi => ?_, h.bd, fun i hi b hb => ?_, h.apart, h.box, h.box2, h.shG, h.shBag, h.shBd, fun b hb => ?_⟩
  · have := h.lw i hi; omega
  · have := h.bag i hi b hb; omega
  · rcases hb with x | ⟨x1, x2⟩
    · obtain ⟨h1, h2, h3⟩ := h.mine b x
      exact ⟨h1, by omega, h3⟩
    · refine ⟨by have := h.hz; omega, x2, fun i hi => ?_⟩
      have h1 := h.lw i hi
      exact ⟨by omega, fun hb => by have := (h.bag i hi b hb).2; omega⟩
/-- what a new worker must leave alone of the low blocks -/
def shN (Wg Ch j : Nat) (X : Nat → GW) (b : Nat) : Prop := b = Wg ∨ b = Ch ∨ ∃ i, i < j ∧ ((X i).bag b ∨ b = (X i).bd)
def gwN (Wg Ch j : Nat) (X : Nat → GW) (z bd : Nat) : GW := ⟨z, shN Wg Ch j X, fun _ => False, bd, false⟩
theorem Fam.fork (h : Fam Wg Ch Low0 j X S0 w.heap.size) {bd : Nat} (hbd : S0 bd) : Fam Wg Ch Low0 (j + 1) (upd X j (gwN Wg Ch j X w.heap.size bd)) (fun _ => False) w.heap.size := by
  obtain ⟨m1, m2, m3⟩ := h.mine bd hbd
  have old : ∀ i, i < j → upd X j (gwN Wg Ch j X w.heap.size bd) i = X i := fun i hi => upd_ne X _ (by omega)
  have new : upd X j (gwN Wg Ch j X w.heap.size bd) j = gwN Wg Ch j X w.heap.size bd := upd_same X j _
  have two : ∀ i, i < j + 1 → i < j ∨ i = j := fun i hi => by omega
  refine ⟨h.hW, h.hC, h.hCW, h.hz, fun i hi => ?_, fun i hi => ?_, fun i hi b hb => ?_, fun i i' hi hi' hn b hb hb' => ?_, fun i i' hi hi' hb => ?_, fun i i' hi hi' hn => ?_, fun i hi => ?_, fun i i' hi hi' hn b hb hl => ?_, fun i i' hi hi' hn hl => ?_, fun b hb => hb.elim⟩
  · rcases two i hi with x | rfl
    · rw [old i x]; exact h.lw i x
    · rw [new]; exact ⟨h.hz, Nat.le_refl _⟩
  · rcases two i hi with x | rfl
    · rw [old i x]; exact h.bd i x
    · rw [new]; exact ⟨m1, m2⟩
  · rcases two i hi with x | rfl
    · rw [old i x] at hb ⊢; exact h.bag i x b hb
    · rw [new] at hb; exact hb.elim
  · rcases two i hi with x | rfl
    · rcases two i' hi' with y | rfl
      · rw [old i x] at hb; rw [old i' y] at hb'; exact h.apart i i' x y hn b hb hb'
      · rw [new] at hb'; exact hb'.elim
    · rw [new] at hb; exact hb.elim
  · rcases two i hi with x | rfl
    · rw [old i x] at hb
      rcases two i' hi' with y | rfl
      · rw [old i' y] at hb; exact h.box i i' x y hb
      · rw [new] at hb; exact (m3 i x).2 hb
    · rw [new] at hb; exact hb.elim
  · rcases two i hi with x | rfl
    · rcases two i' hi' with y | rfl
      · rw [old i x, old i' y]; exact h.box2 i i' x y hn
      · rw [old i x, new]; have := h.bd i x; have := (m3 i x).1; show (X i).bd ≠ bd; omega
    · rcases two i' hi' with y | rfl
      · rw [new, old i' y]; have := h.bd i' y; have := (m3 i' y).1; show bd ≠ (X i').bd; omega
      · exact absurd rfl hn
  · rcases two i hi with x | rfl
    · rw [old i x]; exact h.shG i x
    · rw [new]; exact ⟨.inl rfl, .inr (.inl rfl)⟩
  · rcases two i' hi' with y | rfl
    · rw [old i' y] at hb
      rcases two i hi with x | rfl
      · rw [old i x] at hl ⊢; exact h.shBag i i' x y hn b hb hl
      · rw [new]; exact .inr (.inr ⟨i', y, .inl hb⟩)
    · rw [new] at hb; exact hb.elim
  · rcases two i' hi' with y | rfl
    · rw [old i' y] at hl ⊢
      rcases two i hi with x | rfl
      · rw [old i x] at hl ⊢; exact h.shBd i i' x y hn hl
      · rw [new]; exact .inr (.inr ⟨i', y, .inr rfl⟩)
    · rw [new] at hl ⊢
      rcases two i hi with x | rfl
      · rw [old i x] at hl; have := (m3 i x).1; have hl : bd < (X i).lw := hl; omega
      · exact absurd rfl hn
/-- of a new worker's share: neither its box nor what is low for the starter -/
theorem Fam.shNot (h : Fam Wg Ch Low0 j X S0 w.heap.size) {bd : Nat} (hbd : S0 bd) : ¬ shN Wg Ch j X bd ∧ ∀ b, b < Low0 → b ≠ Wg → b ≠ Ch → ¬ shN Wg Ch j X b := by
  obtain ⟨m1, m2, m3⟩ := h.mine bd hbd
  refine ⟨?_, fun b hb hw hc => ?_⟩
  · rintro (e | e | ⟨i, hi, hx | hx⟩)
    · have := h.hW; omega
    · have := h.hC; omega
    · exact (m3 i hi).2 hx
    · have := (m3 i hi).1; have := (h.bd i hi).2; omega
  · rintro (e | e | ⟨i, hi, hx | hx⟩)
    · exact hw e
    · exact hc e
    · have := (h.bag i hi b hx).1; have := (h.lw i hi).1; omega
    · have := (h.bd i hi).1; omega
end
/-! ### the trace -/
/-- worker k alone touches them -/
def OwnX (X : Nat → GW) (j k : Nat) (l : Loc) : Prop := ∃ i a, i < j ∧ k = i + 1 ∧ l = .cell a ∧ (X i).bag a.block
/-- it may read them -/
def RdX (X : Nat → GW) (j k : Nat) (l : Loc) : Prop := ∃ i a, i < j ∧ k = i + 1 ∧ l = .cell a ∧ a.block < (X i).lw ∧ ¬ (X i).sh a.block
section
variable {Wg Ch Low0 j : Nat} {X : Nat → GW} {S0 : Bag} {z : Nat}
theorem Fam.apartX (h : Fam Wg Ch Low0 j X S0 z) : Apart (ShN Wg) (OwnX X j) (RdX X j) := by
  refine ⟨fun k k' l => ?_, fun k k' l => ?_, fun k l => ?_, fun k l => ?_⟩
  · rintro ⟨i, a, hi, rfl, rfl, hb⟩ ⟨i', a', hi', rfl, e, hb'⟩
    cases e
    by_cases e : i = i'
    · rw [e]
    · exact absurd hb' (h.apart i i' hi hi' e _ hb)
  · rintro ⟨i, a, hi, rfl, rfl, hb⟩ ⟨i', a', hi', rfl, e, hl, hs⟩
    cases e
    by_cases e : i' = i
    · subst e; have := (h.bag i' hi _ hb).1; omega
    · exact hs (h.shBag i' i hi' hi e _ hb hl)
  · rintro ⟨i, a, hi, rfl, rfl, hb⟩ ⟨a', e, he⟩
    cases e
    have := (h.bag i hi _ hb).1; have := (h.lw i hi).1; have := h.hW; omega
  · rintro ⟨i, a, hi, rfl, rfl, hl, hs⟩ ⟨a', e, he⟩
    cases e
    exact hs (he ▸ (h.shG i hi).1)
end
/-- a family that grows by what nobody has touched -/
theorem CT.fam {Sh : Loc → Prop} {Own Rd Own' Rd' : Nat → Loc → Prop} {t : Trace} {j : Nat} (h : CT Sh Own Rd t j)
    (h1 : ∀ k l, 1 ≤ k → k ≤ j → Own' k l → Own k l ∨ ∀ i a, touchAt t i = some a → a.loc ≠ l) (h2 : ∀ k l, 1 ≤ k → k ≤ j → Own k l → Own' k l) (h3 : ∀ k l, 1 ≤ k → k ≤ j → (Rd' k l ↔ Rd k l)) : CT Sh Own' Rd' t j := by
  refine ⟨h.quiet, fun k k1 kj l hl => ?_, fun k k1 kj l hl => h.rd k k1 kj l ((h3 k l k1 kj).1 hl), fun l hs hl => h.free l hs fun k k1 kj => ⟨fun x => (hl k k1 kj).1 (h2 k l k1 kj x), fun x => (hl k k1 kj).2 ((h3 k l k1 kj).2 x)⟩, fun l hs hl => h.mine l hs fun k k1 kj x => hl k k1 kj (h2 k l k1 kj x), h.nr, h.gs⟩
  rcases h1 k l k1 kj hl with x | x
  · exact h.own k k1 kj l x
  · exact fun i a ha e => absurd e (x i a ha)
/-- every cell that was touched lies below -/
def Seen (B : Nat) (t : Trace) : Prop := ∀ op ∈ t, ∀ x, op.act.touch? = some x → ∀ a, x.loc = .cell a → a.block < B
theorem Seen.mono {B B' : Nat} {t : Trace} (h : Seen B t) (hB : B ≤ B') : Seen B' t := fun op hop x hx a ha => Nat.lt_of_lt_of_le (h op hop x hx a ha) hB
theorem Seen.app {B : Nat} {t u : Trace} (h : Seen B t) (hu : Seen B u) : Seen B (t ++ u) := fun op hop => (Array.mem_append.1 hop).elim (h op) (hu op)
theorem Seen.none {B : Nat} {u : Trace} (h : ∀ op ∈ u, op.act.touch? = none) : Seen B u := fun op hop x hx => by rw [h op hop] at hx; cases hx
theorem Seen.low {t : Trace} {B : Nat} (h : Seen B t) {i : Nat} {a : Touch} (ha : touchAt t i = some a) {ad : Addr} (e : a.loc = .cell ad) : ad.block < B := by
  obtain ⟨op, ho, hoa⟩ := touch_of ha
  exact h op (Array.mem_of_getElem? ho) a hoa ad e
end Go.Proofs.YtmphfdibijbjeaaDoor
