/- A range over a function whose body returns in its first round: the contract of the iterator, the law of the statement. No program. -/
import Derived.RangeFuncNested
import Derived.RangeFuncLeaves
import Derived.RangeFuncBound
import Derived.WalkKit
namespace Go.Proofs.YtdognkjpiineiaaDoor
open Go.RowKit
set_option linter.unusedVariables false
set_option maxRecDepth 100000
/-- what J says of a world hangs on the blocks below B alone -/
def Hangs (B : Nat) (J : World → Prop) : Prop := ∀ W W', J W → Below B W W' → J W'
theorem Hangs.mono {B B' : Nat} {J : World → Prop} (h : Hangs B J) (hB : B ≤ B') : Hangs B' J := fun W W' hj hb => h W W' hj (hb.mono hB)
theorem below_putObj {B l : Nat} (W : World) (o : Obj) (h : B ≤ l) : Below B W (W.putObj l o) :=
  ⟨rfl, rfl, rfl, by simp, fun k hk => World.putObj_heap_other (by omega)⟩
theorem keeps_putObj {B l : Nat} (W : World) (o : Obj) (h : l < B) : KeepsFrom B W (W.putObj l o) :=
  ⟨by simp, fun k o' hk hko _ => (World.putObj_heap_other (by omega)).trans hko⟩
theorem KeepsFrom.later {B B' : Nat} {W W' : World} (h : KeepsFrom B W W') (hB : B ≤ B') : KeepsFrom B' W W' := ⟨h.size, fun k o hk => h.same k o (by omega)⟩
/-- THE CONTRACT OF AN ITERATOR THAT IS ASKED FOR ITS FIRST ELEMENT ALONE (res: it, if there is one): yield is called at most once, and says 'no more' -/
def Once (P : Program) (g : Nat) (lb : Array Value) (res : Option Value) (w : World) : Prop :=
  ∀ (l : Nat) (Jx : World → Prop) (W : World), Below w.heap.size w W → Hangs W.heap.size Jx →
    (∀ x, res = some x → ∀ W1, Below W.heap.size W W1 → YieldAt Fence.wide 0 P l #[x] W1 fun e W' => e = .returned (.bool false) ∧ Jx W' ∧ KeepsFrom W.heap.size W1 W') →
    CallsIn Fence.wide 0 P g (#[.func (.yield l) #[] #[]] ++ lb) W fun e W' => (∃ v, e = .returned v) ∧ ((res = none ∧ Below W.heap.size W W') ∨ (res ≠ none ∧ Jx W'))
/-- how the body of the one round is left: by a return -/
def retPost (B : Nat) (Ix : World → Prop) (W : World) : Exit → Act → World → Prop
  | .ret, _, W' => KeepsFrom B W W' ∧ Ix W'
  | _, _, _ => False
/-- the mark on the activation's deferred calls -/
def markOf (D : Nat) : Deferred := { target := .collected D, args := #[] }
/-- THE LAW OF THE STATEMENT -/
theorem wp_range_once {P : Program} {g : Operand} {ps : Array Tmp} {assign body : Code} {Q : Exit → Act → World → Prop} {a : Act} {w : World}
    {gf : Nat} {lb : Array Value} (hg : a.eval g = .func (.func gf) #[] lb) (eg : ∀ args w, (callFunc gf args).run P w = .ok (.enter gf args) w)
    {res : Option Value} {w0 : World} (hseq : Once P gf lb res w0) (hb0 : Below w0.heap.size w0 w) (hps : ps.size = 1) (Ix : World → Prop) (hIx : Hangs w.heap.size Ix)
    (hround : ∀ x, res = some x → ∀ (l : Nat) (W : World), Below w.heap.size w W → assign.wpIn (Fence.wide.inRound l) 0 P
      (Exit.then (fun a' W' => W' = W ∧ ∀ W2, Below w.heap.size w W2 → body.wpIn (Fence.wide.inRound l) 0 P (retPost w.heap.size Ix W2) a' W2) (fun _ _ _ => False))
      { tmps := (ps.zip #[x]).foldl (fun t (p, v) => t.setIfInBounds p v) a.tmps, defers := [] } W)
    (hdone : res = none → ∀ (D : Nat) (W : World), w.heap.size ≤ D → Below w.heap.size w W → W.heap[D]? = some (.deferred (some [])) → Q .normal { a with defers := markOf D :: a.defers } W)
    (hstop : res ≠ none → ∀ (D : Nat) (W : World), w.heap.size ≤ D → Ix W → W.heap[D]? = some (.deferred (some [])) → Q .ret { a with defers := markOf D :: a.defers } W) :
    (Code.rangeFunc g ps assign body).wpIn Fence.wide 0 P Q a w := by
  refine wpIn_rangeFunc fun fn hfn => ?_
  -- the loop's record by its state and its pending jump
  let rec_ : LoopState → Option Code → Loop := fun st pe => { state := st, pending := pe, fn, tmps := a.tmps, params := ps, assign, body, defers := w.heap.size }
  have hsz : ((w.alloc (.deferred (some []))).alloc (.loop (rec_ .ready none))).heap.size = w.heap.size + 1 + 1 := by simp
  have hrd : ((w.alloc (.deferred (some []))).alloc (.loop (rec_ .ready none))).heap[w.heap.size + 1]? = some (.loop (rec_ .ready none)) := by
    have := World.alloc_heap_new (w.alloc (.deferred (some []))) (.loop (rec_ .ready none)); rwa [World.size_alloc] at this
  have hdf : ((w.alloc (.deferred (some []))).alloc (.loop (rec_ .ready none))).heap[w.heap.size]? = some (.deferred (some [])) :=
    (Below.heap_alloc _ _ _ (by simp)).trans (World.alloc_heap_new w _)
  have hbw : Below w.heap.size w ((w.alloc (.deferred (some []))).alloc (.loop (rec_ .ready none))) := ((Below.refl _ w).alloc (Nat.le_refl _) _).alloc (by simp) _
  have henter := run_enterLoop_outer (P := P) (w := w) fn a.tmps ps assign body
  generalize hV : (w.alloc (.deferred (some []))).alloc (.loop (rec_ .ready none)) = V at hsz hrd hdf hbw
  refine ⟨w.heap.size + 1, [markOf w.heap.size], V, { target := .fn (.func gf) lb, args := #[.func (.yield (w.heap.size + 1)) #[] #[]] }, V, gf, #[.func (.yield (w.heap.size + 1)) #[] #[]] ++ lb, V, ?_, ?_, fun _ _ => trivial, ?_, (fun h => by cases h), ?_⟩
  · rw [← hV]; exact henter
  · simp only [resolve, hg]; simp [go_sem]
  · simp [invoke, go_sem, eg]
  refine (hseq (w.heap.size + 1) (fun W => Ix W ∧ W.heap[w.heap.size + 1]? = some (.loop (rec_ .done (some .ret))) ∧ W.heap[w.heap.size]? = some (.deferred (some []))) V (hb0.trans (hbw.mono hb0.size)) ?_ ?_).mono ?_
  · rintro A B ⟨h1, h2, h3⟩ hb
    exact ⟨hIx A B h1 (hb.mono (by omega)), (hb.block _ (by omega)).trans h2, (hb.block _ (by omega)).trans h3⟩
  · -- the one round
    intro x hx U hU
    have hl : U.heap[w.heap.size + 1]? = some (.loop (rec_ .ready none)) := (hU.block _ (by omega)).trans hrd
    have hd : U.heap[w.heap.size]? = some (.deferred (some [])) := (hU.block _ (by omega)).trans hdf
    have hlt : w.heap.size + 1 < U.heap.size := (Array.getElem?_eq_some_iff.1 hl).1
    have hwU : Below w.heap.size w U := hbw.trans (hU.mono (by omega))
    refine ⟨fn, _, assign, body, run_yield (args := #[x]) hl (by simp [rec_, hps]), roundIn_of_wpIn hfn (wpIn_mono (hround x hx (w.heap.size + 1) U hwU) ?_)⟩
    intro e0 a0 w0' he0
    cases e0 with
    | exit id => exact he0.elim
    | goto t => exact he0.elim
    | panic ch => exact he0.elim
    | outgrown => exact he0.elim
    | ret => exact he0.elim
    | normal =>
    obtain ⟨hw0, hbody⟩ := he0
    rw [hw0]
    refine ⟨_, run_beginRound hl rfl, ?_⟩
    have hl2 : (U.putObj (w.heap.size + 1) (.loop { rec_ .ready none with state := .busy })).heap[w.heap.size + 1]? = some (.loop { rec_ .ready none with state := .busy }) := World.putObj_heap_same hlt
    have hd2 : (U.putObj (w.heap.size + 1) (.loop { rec_ .ready none with state := .busy })).heap[w.heap.size]? = some (.deferred (some [])) := (World.putObj_heap_other (by omega)).trans hd
    refine wpIn_mono (hbody _ (hwU.trans (below_putObj _ _ (by omega)))) ?_
    rintro e b X hp
    cases e with
    | ret =>
      obtain ⟨hk, hi⟩ := hp
      have hl3 := hk.same _ _ (by omega) hl2 rfl
      have hd3 := hk.same _ _ (Nat.le_refl _) hd2 rfl
      refine ⟨_, _, run_endRound (some .ret) hl3, rfl, ⟨hIx _ _ hi (below_putObj X _ (by omega)), World.putObj_heap_same (Array.getElem?_eq_some_iff.1 hl3).1, (World.putObj_heap_other (by omega)).trans hd3⟩, ?_⟩
      exact ((keeps_putObj U _ (by omega)).trans (KeepsFrom.later hk (by omega))).trans (keeps_putObj X _ (by omega))
    | normal => exact hp.elim
    | exit id => exact hp.elim
    | goto t => exact hp.elim
    | panic ch => exact hp.elim
    | outgrown => exact hp.elim
  · -- behind the iterator
    rintro e X ⟨⟨v, rfl⟩, ⟨hn, hb⟩ | ⟨hs, hi, hl, hd⟩⟩
    · have hl : X.heap[w.heap.size + 1]? = some (.loop (rec_ .ready none)) := (hb.block _ (by omega)).trans hrd
      have hd : X.heap[w.heap.size]? = some (.deferred (some [])) := (hb.block _ (by omega)).trans hdf
      exact ⟨none, _, run_endLoop hl (by simp [rec_]), hdone hn _ _ (Nat.le_refl _) ((hbw.trans (hb.mono (by omega))).trans (below_putObj X _ (by omega))) ((World.putObj_heap_other (by omega)).trans hd)⟩
    · exact ⟨some .ret, _, run_endLoop hl (by simp [rec_]), wpIn_ret (hstop hs _ _ (Nat.le_refl _) (hIx _ _ hi (below_putObj X _ (by omega))) ((World.putObj_heap_other (by omega)).trans hd))⟩
/-- a function leaves with marks alone among its deferred calls -/
theorem leaves_marks {P : Program} {fn : Func} {tmps : Array Value} {R : Ending → World → Prop} (B : Nat) : ∀ (Ds : List Nat) (w : World), Ds.Nodup → (∀ D ∈ Ds, B ≤ D ∧ w.heap[D]? = some (.deferred (some []))) →
    (∀ w', Below B w w' → LeavesIn Fence.wide 0 P fn tmps R [] .returning w') → LeavesInM Fence.wide 0 P fn tmps R (Ds.map markOf) .returning w
  | [], w, _, _, h => h w (Below.refl _ _)
  | D :: Ds, w, hn, hd, h => by
    obtain ⟨hD, hk⟩ := hd D (by simp)
    obtain ⟨hn1, hn2⟩ := List.nodup_cons.1 hn
    refine ⟨by simp, .inl ⟨D, _, rfl, run_takeDeferred hk, ?_⟩⟩
    refine leaves_marks B Ds _ hn2 (fun E hE => ?_) (fun w' hb => h w' ((below_putObj w _ hD).trans hb))
    obtain ⟨h1, h2⟩ := hd E (by simp [hE])
    exact ⟨h1, (World.putObj_heap_other (fun e => hn1 (by rw [← e]; exact hE))).trans h2⟩
end Go.Proofs.YtdognkjpiineiaaDoor
