/- HT, HU, HV, HY, HZ in one text. No condition. -/
import Derived.Test.YtmphfdibijbjeaaDoorMa
import Derived.Test.YtmphfdibijbjeaaDoorHL
import Derived.Test.YtmphfdibijbjeaaDoorHJ
/- The starter: what HK and HM tell, in the machine's words. Nothing of one program. -/
namespace Go.Proofs.YtmphfdibijbjeaaDoor
open Go.Conc Go.ConcN Go.Conc.Lib Go.ConcR.Gen Go.ConcN.Gen
open Go.ConcR (KK wgBlock WgAt stA smA rd wr mk Payload Aside2 DC0)
set_option linter.unusedSimpArgs false
set_option linter.unusedVariables false
set_option maxRecDepth 100000
set_option linter.unusedSectionVars false
section
variable [Payload] {P : Program} {ty : TypeId} {Wg Ch n Low0 M : Nat} {val : Nat → Nat} {box : Nat → Value} {Anch Post : Bag → Goroutine → World → Prop} {S : Bag} {g : Goroutine} {w : World}
theorem dst_of_dg {w w' : World} {es : Array Event} (h : DG Wg w w' es) : DSt Wg Ch Low0 S w w' es ∧ w'.heap.size ≤ w.heap.size := by
  obtain ⟨rfl, h⟩ := h
  exact ⟨⟨Eff.refl _ _, fun e he => .inr (h e he)⟩, Nat.le_refl _⟩
theorem trs_goes {K : Goroutine → World → Prop} {K' : Bag → Goroutine → World → Prop} (hK : ∀ g w, K g w → K' S g w) {m : Nat} (h : Goes P true (RSt ty Wg Ch Low0 S) (DG Wg) K m g w) : TrS P ty Wg Ch Low0 K' m S g w :=
  Trek.of_goes (fun _ _ r => r) (fun _ _ _ d => dst_of_dg d) hK h
theorem gt_soon {K : Goroutine → World → Prop} {K' : Bag → Goroutine → World → Prop} (hK : ∀ g w, K g w → K' S g w) (h : Soon P Wg (RSt ty Wg Ch Low0 S) K g w) : GT P ty Wg Ch Low0 K' S g w :=
  let ⟨m, h⟩ := h; ⟨m, trs_goes hK h⟩
abbrev RS (ty : TypeId) (Wg Ch Low0 : Nat) (S : Bag) : World → World → Prop := RSt ty Wg Ch Low0 S
theorem kdS_of {j : Nat} {Next : Bag → Goroutine → World → Prop} {K : Goroutine → World → Prop} (hK : ∀ g w, K g w → GoT P ty Wg Ch Low0 M val box j Next S g w)
    (h : SKd P (Soon P Wg (RS ty Wg Ch Low0 S) (SA1 P ty Wg (Soon P Wg (RS ty Wg Ch Low0 S) (SKe P (Soon P Wg (RS ty Wg Ch Low0 S) K))))) g w) : KdS P ty Wg Ch Low0 M val box j Next S g w := by
  obtain ⟨h1, g', h2, h3⟩ := h
  refine ⟨h1, g', h2, gt_soon (fun g w h => ?_) h3⟩
  obtain ⟨h1, h2⟩ := h
  refine ⟨h1, fun v hv hw => ?_⟩
  obtain ⟨g', h3, h4⟩ := h2 v hv hw
  refine ⟨g', h3, gt_soon (fun g w h => ?_) h4⟩
  obtain ⟨h1, g', h2, h3⟩ := h
  exact ⟨h1, g', h2, gt_soon hK h3⟩
theorem keT_of {K : Goroutine → World → Prop} (hK : ∀ g w, Soon P Wg (RS ty Wg Ch Low0 S) K g w → Post S g w) (h : OutK P Wg (RS ty Wg Ch Low0 S) K g w) : GT P ty Wg Ch Low0 (KeT P ty Wg Ch Low0 Post) S g w := by
  refine gt_soon (fun g w h => ?_) h
  obtain ⟨h1, g', h2, h3⟩ := h
  refine ⟨h1, g', h2, gt_soon (fun g w h => ?_) h3⟩
  obtain ⟨h1, g', h2, h3⟩ := h
  exact ⟨h1, g', h2, hK _ _ h3⟩
/-- the anchor in Wait -/
def AnchS (L : WgLink) (F : World → Prop) (Wg : Nat) (C : Frame → Prop) (cs : List Frame) (S : Bag) (g : Goroutine) (w : World) : Prop := S = (fun _ => False) ∧ ∃ c, C c ∧ AnchWN L F Wg c cs g w
theorem w1T_of {L : WgLink} {F : World → Prop} {C : Frame → Prop} {c : Frame} {cs : List Frame} {K : Goroutine → World → Prop} (hc : C c) (hS : S = fun _ => False) (hK : ∀ g w, Soon P Wg (RS ty Wg Ch Low0 S) K g w → Post S g w)
    (h : SW1 P ty Wg (OutK P Wg (RS ty Wg Ch Low0 S) K) (fun v => Soon P Wg (RS ty Wg Ch Low0 S) (SW2 P ty Wg v (Soon P Wg (RS ty Wg Ch Low0 S) (SW3 P ty Wg (Soon P Wg (RS ty Wg Ch Low0 S) (SW4 P ty Wg (OutK P Wg (RS ty Wg Ch Low0 S) K))))) (Soon P Wg (RS ty Wg Ch Low0 S) (AnchWN L F Wg c cs)))) g w) :
    W1T P ty Wg Ch Low0 (AnchS L F Wg C cs) Post S g w := by
  obtain ⟨h1, h2⟩ := h
  refine ⟨h1, fun v hv hw => ?_⟩
  obtain ⟨g', h3, h4, h5⟩ := h2 v hv hw
  refine ⟨g', h3, fun e => keT_of hK (h4 e), fun e => gt_soon (fun g w h => ?_) (h5 e)⟩
  obtain ⟨h1, h2⟩ := h
  refine ⟨h1, fun v hv hw => ?_⟩
  obtain ⟨h6, h7⟩ := h2 v hv hw
  refine ⟨fun e => ?_, fun e => ?_⟩
  · obtain ⟨g', h8, h9⟩ := h6 e
    refine ⟨g', h8, gt_soon (fun g w h => ?_) h9⟩
    obtain ⟨h1, h2, h3, h4⟩ := h
    refine ⟨h1, h2, h3, fun hw => ?_⟩
    obtain ⟨g', h5, h6⟩ := h4 hw
    refine ⟨g', h5, gt_soon (fun g w h => ?_) h6⟩
    obtain ⟨h1, h2⟩ := h
    refine ⟨h1, fun hw => ?_⟩
    obtain ⟨g', h5, h6⟩ := h2 hw
    exact ⟨g', h5, keT_of hK h6⟩
  · obtain ⟨g', h8, h9⟩ := h7 e
    exact ⟨g', h8, gt_soon (fun g w h => ⟨hS, c, hc, h⟩) h9⟩
theorem kdT_of {L : WgLink} {F : World → Prop} {C : Frame → Prop} {c : Frame} {cs : List Frame} (hc : C c) (hS : S = fun _ => False) (h : SKd P (Soon P Wg (RS ty Wg Ch Low0 S) (AnchWN L F Wg c cs)) g w) : KdT P ty Wg Ch Low0 (AnchS L F Wg C cs) S g w := by
  obtain ⟨h1, g', h2, h3⟩ := h
  exact ⟨h1, g', h2, gt_soon (fun g w h => ⟨hS, c, hc, h⟩) h3⟩
end
section
variable {P : Program} {main : Bool} {R : Bag → World → World → Prop} {D : Bag → World → World → Array Event → Prop} {Stop : Bag → Goroutine → World → Prop} {S : Bag} {w : World} {n : Nat} {b : Frame} {a : Act} {k : List Item} {cs : List Frame}
/-- one operation, what follows behind a variable -/
theorem Trek.oper_k {ops : Array Oper} {i : Nat} {rest : List Nat} {o : Oper} (ho : ops[i]? = some o) (hw : Region.wanted o (yielded ops a.tmps) = true) (hk : b.kind ≠ .early)
    (h : ∀ w₁, R S w w₁ → ∀ K : Act → World → Prop, (∀ a' w', D S w₁ w' (listed P b.fn a o w₁) ∧ Trek P main R D Stop n (_root_.Go.Proofs.YtmphfdibijbjeaaDoor.more S w₁ w') (G (b.at a' (.inRegion ops rest :: k)) cs) w' → K a' w') → uponK o a K ((execOp a.eval o).run P w₁)) :
    Trek P main R D Stop (n + 1) S (G (b.at a (.inRegion ops (i :: rest) :: k)) cs) w := by
  refine .inr ⟨rfl, fun w₁ h₁ => goes_oper ho hw hk ?_⟩
  have h2 := h w₁ h₁ (fun a' w' => D S w₁ w' (listed P b.fn a o w₁) ∧ Trek P main R D Stop n (_root_.Go.Proofs.YtmphfdibijbjeaaDoor.more S w₁ w') (G (b.at a' (.inRegion ops rest :: k)) cs) w') (fun _ _ x => x)
  revert h2
  cases (execOp a.eval o).run P w₁ with
  | ok x w' => cases x <;> exact id
  | halt _ _ => exact id
/-- a go statement that lists nothing -/
theorem spawn_step {ops : Array Oper} {i : Nat} {rest : List Nat} {o : Oper} {d : Deferred} {f : Fn} {c : Array Value} (ho : ops[i]? = some o) (hw : Region.wanted o (yielded ops a.tmps) = true) (hk : b.kind ≠ .early)
    (hr : (execOp a.eval o).run P w = .ok (.spawn d) w) (hd : d.target = .fn f c) (hl : listed P b.fn a o w = #[]) :
    stepG P main (G (b.at a (.inRegion ops (i :: rest) :: k)) cs) w = .spawn (G (b.at (a.put o.dst undef) (.inRegion ops rest :: k)) cs) (born P d) w #[] := by
  rw [stepG_spawn ho hw hk hr hd, hl]
/-- into a call -/
theorem Trek.enter (T : Fair2 R D) {ops : Array Oper} {i : Nat} {rest : List Nat} {o : Oper} {f : FuncId} {fn : Func} {c : Code} {args : Array Operand} {ats : Array TypeId}
    (ho : ops[i]? = some o) (hw : Region.wanted o (yielded ops a.tmps) = true) (hk : b.kind ≠ .early) (hop : o.op = .call { callee := .value (.func f), args, argTypes := ats })
    (hf : P.funcs[f]? = some fn) (hname : (fn.name == "runtime.NumGoroutine") = false) (hbody : fn.body = some c)
    (h : ∀ w₁, R S w w₁ → Trek P main R D Stop n S (G ((base f).at ⟨args.map a.eval ++ Array.replicate (fn.ntmps - (args.map a.eval).size) undef, []⟩ [.code c]) (b.at a (.inRegion ops (i :: rest) :: k) :: cs)) w₁) :
    Trek P main R D Stop (n + 1) S (G (b.at a (.inRegion ops (i :: rest) :: k)) cs) w := by
  refine .inr ⟨rfl, fun w₁ h₁ => goes_call ho hw hk hop hf hname hbody ⟨T.idle _ _, ?_⟩⟩
  rw [more_same (Nat.le_refl _)]
  exact h w₁ h₁
end
section
variable [Payload] {P : Program} {L : WgLink} {Wg Ch n Low0 M : Nat} {val : Nat → Nat} {box : Nat → Value} {Post : Bag → Goroutine → World → Prop} {S : Bag} {F : World → Prop}
  {b : Frame} {a : Act} {k : List Item} {cs : List Frame} {ops : Array Oper} {i : Nat} {rest : List Nat} {o : Oper} {args : Array Operand} {ats : Array TypeId} {mT : Nat}
/-- the call of Add(1) -/
theorem callAdd (H : WgLib P L) {j : Nat} {Next : Bag → Goroutine → World → Prop} (hr : ∀ {w w₁}, GrpF L Wg F w → RSt L.tWg Wg Ch Low0 S w w₁ → GrpF L Wg F w₁) (hs : ∀ w v, F w → F (w.setCell (stA Wg) v))
    (ho : ops[i]? = some o) (hw : Region.wanted o (yielded ops a.tmps) = true) (hk : b.kind ≠ .early) (hop : o.op = .call { callee := .value (.func L.add), args, argTypes := ats }) (hargs : args.map a.eval = #[.pointer (some ⟨Wg, 0, none⟩), .int .i64 1])
    (hT : ∀ w, GrpF L Wg F w → Goes P true (RSt L.tWg Wg Ch Low0 S) (DG Wg) (GoT P L.tWg Wg Ch Low0 M val box j Next S) mT (G (b.at (a.put o.dst (.tuple #[])) (.inRegion ops rest :: k)) cs) w) (w : World) (hF : GrpF L Wg F w) :
    TrS P L.tWg Wg Ch Low0 (KdS P L.tWg Wg Ch Low0 M val box j Next) 13 S (G (b.at a (.inRegion ops (i :: rest) :: k)) cs) w := by
  refine Trek.enter (c := body_add L) fairS ho hw hk hop H.f_add (nm_add L) rfl fun w₁ h₁ => ?_
  rw [hargs]
  refine trs_goes (fun g w h => kdS_of (fun _ _ h => h) h) ?_
  exact addOne (b₀ := b) (a₀ := a) (ops₀ := ops) (i₀ := i) (rest₀ := rest) (k₀ := k) (cs := cs) (mT := mT) H hr hs (fun w h => by rw [ho]; exact hT w h) w₁ (hr hF h₁)
/-- what waitIn and waitOn (HM) say -/
def WaitInS (P : Program) (L : WgLink) (Wg : Nat) (R : World → World → Prop) (F : World → Prop) : Prop :=
  ∀ {b₀ : Frame} {a₀ : Act} {ops₀ : Array Oper} {i₀ : Nat} {rest₀ : List Nat} {k₀ : List Item} {cs : List Frame} (w : World), GrpF L Wg F w →
    Goes P true R (DG Wg) (SKd P (Soon P Wg R (AnchWN L F Wg (b₀.at a₀ (.inRegion ops₀ (i₀ :: rest₀) :: k₀)) cs))) 3
      (G ((base L.wait).at ⟨#[.pointer (some ⟨Wg, 0, none⟩)] ++ Array.replicate 83 undef, []⟩ [.code (body_wait L)]) (b₀.at a₀ (.inRegion ops₀ (i₀ :: rest₀) :: k₀) :: cs)) w
def WaitOnS (P : Program) (L : WgLink) (Wg : Nat) (R : World → World → Prop) (F : World → Prop) : Prop :=
  ∀ {K : Goroutine → World → Prop} {b₀ : Frame} {a₀ : Act} {ops₀ : Array Oper} {i₀ : Nat} {rest₀ : List Nat} {k₀ : List Item} {cs : List Frame} {mT : Nat},
    (∀ w, GrpF L Wg F w → Goes P true R (DG Wg) K mT (G (b₀.at (a₀.put ((ops₀[i₀]?).bind (·.dst)) (.tuple #[])) (.inRegion ops₀ rest₀ :: k₀)) cs) w) →
    ∀ (g : Goroutine) (w : World), AnchWN L F Wg (b₀.at a₀ (.inRegion ops₀ (i₀ :: rest₀) :: k₀)) cs g w →
      Soon P Wg R (SW1 P L.tWg Wg (OutK P Wg R K) (fun v => Soon P Wg R (SW2 P L.tWg Wg v (Soon P Wg R (SW3 P L.tWg Wg (Soon P Wg R (SW4 P L.tWg Wg (OutK P Wg R K))))) (Soon P Wg R (AnchWN L F Wg (b₀.at a₀ (.inRegion ops₀ (i₀ :: rest₀) :: k₀)) cs))))) g w
/-- the call of Wait -/
theorem callWait (H : WgLib P L) {C : Frame → Prop} (hC : C (b.at a (.inRegion ops (i :: rest) :: k))) (hr : ∀ {w w₁}, GrpF L Wg F w → RSt L.tWg Wg Ch Low0 (fun _ => False) w w₁ → GrpF L Wg F w₁) (hW : WaitInS P L Wg (RSt L.tWg Wg Ch Low0 (fun _ => False)) F)
    (ho : ops[i]? = some o) (hw : Region.wanted o (yielded ops a.tmps) = true) (hk : b.kind ≠ .early) (hop : o.op = .call { callee := .value (.func L.wait), args, argTypes := ats }) (hargs : args.map a.eval = #[.pointer (some ⟨Wg, 0, none⟩)])
    (w : World) (hF : GrpF L Wg F w) :
    TrS P L.tWg Wg Ch Low0 (KdT P L.tWg Wg Ch Low0 (AnchS L F Wg C cs)) 4 (fun _ => False) (G (b.at a (.inRegion ops (i :: rest) :: k)) cs) w := by
  refine Trek.enter (c := body_wait L) fairS ho hw hk hop H.f_wait (nm_wait L) rfl fun w₁ h₁ => ?_
  rw [hargs]
  exact trs_goes (fun g w h => kdT_of hC rfl h) (hW w₁ (hr hF h₁))
end
end Go.Proofs.YtmphfdibijbjeaaDoor
/- countNumbers: the loop that starts the goroutines. -/
namespace Go.Proofs.YtmphfdibijbjeaaDoor
open Go.Conc Go.ConcN Go.RowKit Go.Conc.Lib Go.ConcR.Gen Go.ConcN.Gen
open Go.ConcR (KK wgBlock WgAt stA smA rd wr mk Payload Aside2 DC0)
set_option linter.unusedSimpArgs false
set_option linter.unusedVariables false
set_option maxRecDepth 100000
def sL : Code → Code
  | .seq a _ => a
  | c => c
def sR : Code → Code
  | .seq _ b => b
  | c => c
def bIn : Code → Code
  | .block _ c => c
  | c => c
def lIn : Code → Code
  | .loop c => c
  | c => c
noncomputable def bodyN : Code := Tryd.f10.body.getD .skip
noncomputable def rstN : Code := sR (sR (sR (sR bodyN)))
noncomputable def lbN : Code := lIn (bIn (sR (sL (sR (sR (sR bodyN))))))
/-- at the loop's head, i goroutines started -/
noncomputable def hdG (N : Nat) (x : Int) (i : Nat) (v5 v10 v11 v12 v13 v14 : Value) (cs : List Frame) (lb0 lb rst : Code) : Goroutine :=
  G ((base 10).at ⟨#[.int .i64 x, .pointer (some ⟨N, 0, none⟩), .int .i64 0, .pointer (some ⟨N + 2, 0, none⟩), .pointer (some ⟨N + 3, 0, none⟩), v5, undef, undef, .chan (some (N + 1)), .int .i64 (i : Nat), v10, v11, v12, v13, v14, undef, undef, undef, undef, undef, undef, undef, undef, undef, undef], []⟩
    [.code lb0, .inLoop lb, .inBlock 0, .code rst]) cs
noncomputable def hdN (N : Nat) (x : Int) (i : Nat) (v5 v10 v11 v12 v13 v14 : Value) (cs : List Frame) : Goroutine := hdG N x i v5 v10 v11 v12 v13 v14 cs lbN lbN rstN
/-- what is known at the loop's beginning -/
structure W0 (B0 N : Nat) (x : Int) (w₀ : World) : Prop where
  tab : DKB B0 w₀
  le : B0 ≤ N
  size : w₀.heap.size = N + 4
  ck : w₀.cell? ⟨N, 0, none⟩ = some (.int .i64 x)
  cc : w₀.cell? ⟨N + 2, 0, none⟩ = some (.chan (some (N + 1)))
/-- .. and from there on -/
structure FL (N : Nat) (w₀ w : World) : Prop where
  low : ∀ b, b < N + 4 → b ≠ N + 3 → b ≠ N + 1 → w.heap[b]? = w₀.heap[b]?
  os : w.os = w₀.os
  tape : w.tape = w₀.tape
  output : w.output = w₀.output
  size : N + 4 ≤ w.heap.size
abbrev FLv (N : Nat) (w₀ w : World) : Prop := FL N w₀ w ∧ WgLive lnk.tWg (N + 3) w
section
variable {N : Nat} {w₀ w w₁ : World} {S : Bag}
theorem FLv.rely (h : FLv N w₀ w) (r : RSt lnk.tWg (N + 3) (N + 1) (N + 4) S w w₁) : FLv N w₀ w₁ :=
  ⟨⟨fun b h1 h2 h3 => (r.rh.low b h1 (by rintro (e | e); exact h2 e; exact h3 e)).trans (h.1.low b h1 h2 h3), r.os.trans h.1.os, r.tape.trans h.1.tape, r.output.trans h.1.output, Nat.le_trans h.1.size r.rh.size⟩, r.rh.live h.2⟩
/-- the box of the round's digit is made -/
def Bx (N nb : Nat) (v : Value) (w₀ w : World) : Prop := FL N w₀ w ∧ N + 4 ≤ nb ∧ w.heap[nb]? = some (.cells #[v] 3)
abbrev Bxv (N nb : Nat) (v : Value) (w₀ w : World) : Prop := Bx N nb v w₀ w ∧ WgLive lnk.tWg (N + 3) w
theorem Bxv.rely {nb : Nat} {v : Value} (hS : S nb) (h : Bxv N nb v w₀ w) (r : RSt lnk.tWg (N + 3) (N + 1) (N + 4) S w w₁) : Bxv N nb v w₀ w₁ :=
  ⟨⟨(FLv.rely ⟨h.1.1, h.2⟩ r).1, h.1.2.1, (r.rh.own nb hS).trans h.1.2.2⟩, r.rh.live h.2⟩
theorem Bx.cell {nb : Nat} {v : Value} (h : Bx N nb v w₀ w) : w.cell? ⟨nb, 0, none⟩ = some v := by simp [World.cell?, h.2.2]
theorem Bx.thaw {nb : Nat} {v : Value} (h : Bx N nb v w₀ w) : w.frozen? ⟨nb, 0, none⟩ = false := by simp [World.frozen?, h.2.2]
theorem FL.set (h : FL N w₀ w) (a : Addr) (v : Value) (ha : N + 4 ≤ a.block ∨ a.block = N + 3 ∨ a.block = N + 1) : FL N w₀ (w.setCell a v) :=
  ⟨fun b h1 h2 h3 => by
    have : a.block ≠ b := by omega
    rw [← h.low b h1 h2 h3]
    simp [World.setCell, Array.getElem?_modify, this], h.os, h.tape, h.output, by have := h.size; simp [World.setCell]; omega⟩
theorem Bx.setG {nb : Nat} {v : Value} (h : Bx N nb v w₀ w) (a : Addr) (u : Value) (ha : a.block = N + 3) : Bx N nb v w₀ (w.setCell a u) := by
  have hge := h.2.1
  have hne : a.block ≠ nb := by omega
  exact ⟨h.1.set _ _ (.inr (.inl ha)), hge, by simp [World.setCell, Array.getElem?_modify, hne, h.2.2]⟩
theorem FL.alloc (h : FL N w₀ w) (o : Obj) : FL N w₀ (w.alloc o) :=
  ⟨fun b h1 h2 h3 => (Below.heap_alloc w o b (by have := h.size; omega)).trans (h.low b h1 h2 h3), h.os, h.tape, h.output, by have := h.size; simp; omega⟩
theorem live_other {w' : World} (h : WgLive lnk.tWg (N + 3) w) (e : w'.heap[N + 3]? = w.heap[N + 3]?) : WgLive lnk.tWg (N + 3) w' := let ⟨st, sm, hw⟩ := h; ⟨st, sm, hw.of_block e⟩
theorem dst_nil {Wg Ch Low0 : Nat} : DSt Wg Ch Low0 S w w #[] := ⟨Eff.refl _ _, fun e he => by simp at he⟩
theorem dst_alloc {Wg Ch Low0 : Nat} (o : Obj) : DSt Wg Ch Low0 S w (w.alloc o) #[] := ⟨⟨by simp, rfl, rfl, rfl, fun b hb _ => Below.heap_alloc w o b hb⟩, fun e he => by simp at he⟩
theorem DKB.low {B0 : Nat} (h : DKB B0 w) (hz : w.heap.size ≤ w₁.heap.size) (e : ∀ b, b < B0 → w₁.heap[b]? = w.heap[b]?) : DKB B0 w₁ :=
  h.relyT (Low := B0) (Shr := fun _ => False) (Lv := NoLv) (S := fun _ => False) ⟨Nat.le_refl _, fun _ _ h => h⟩ ⟨hz, fun b hb _ => e b hb, fun _ h => h.elim, fun _ => trivial⟩
end
section
variable {B0 N : Nat} {x : Int} {w₀ : World} {cs : List Frame} {Anch Post : Bag → Goroutine → World → Prop}
/-- what worker i counts -/
abbrev valN (x : Int) (i : Nat) : Nat := cntR x (1000 * i) 1000
abbrev boxN (i : Nat) : Value := .int .i64 (i : Nat)
/-- the child of a go statement -/
theorem childN (h0 : W0 B0 N x w₀) {i nb : Nat} (hi : i < 10) {w : World} (hF : Bx N nb (boxN i) w₀ w) (sh : Nat → Prop) (s3 : ¬ sh nb) (s4 : ∀ b, b < N + 4 → b ≠ N + 3 → b ≠ N + 1 → ¬ sh b) (hnb : nb < w.heap.size) :
    ∃ m, Trek Tryd.prog false (RH w.heap.size sh NoLv) (DH w.heap.size sh) (AtSnd Tryd.prog (N + 1) (.int .i64 (valN x i : Nat)) (NextT Tryd.prog lnk.tWg (N + 3) 26 (boxN i) nb)) m (fun _ => False) (born Tryd.prog (callL (N + 3) (N + 2) nb N)) w := by
  obtain ⟨m, hm⟩ := litSend (B0 := B0) (Low := w.heap.size) (Shr := sh) (Lv := NoLv)
  have hz := hF.1.size
  have hle := h0.le
  have hlow : ∀ b, b < N + 4 → b ≠ N + 3 → b ≠ N + 1 → b < w.heap.size ∧ ¬ sh b := fun b h1 h2 h3 => ⟨by omega, s4 b h1 h2 h3⟩
  have hce : ∀ a : Addr, a.block < N + 4 → a.block ≠ N + 3 → a.block ≠ N + 1 → w.cell? a = w₀.cell? a := fun a h1 h2 h3 => by simp [World.cell?, hF.1.low _ h1 h2 h3]
  refine ⟨m, Trek.imp ?_ (hm (N + 3) (N + 1) (N + 2) nb N i x (fun b => (w.heap[b]?).getD (.cells #[] 0)) (fun _ => False) w hi
    ⟨⟨⟨by omega, fun b hb => s4 b (by omega) (by omega) (by omega)⟩, h0.tab.low (by rw [h0.size]; exact hz) (fun b hb => hF.1.low b (by omega) (by omega) (by omega)), by omega⟩,
     ⟨fun _ h => h.elim, fun b hb _ => by simp [hb]⟩,
     hlow _ (by omega) (by omega) (by omega), ⟨hnb, s3⟩, hlow _ (by omega) (by omega) (by omega), (hce ⟨N + 2, 0, none⟩ (by show N + 2 < _; omega) (by show N + 2 ≠ _; omega) (by show N + 2 ≠ _; omega)).trans h0.cc, hF.cell,
     (hce ⟨N, 0, none⟩ (by show N < _; omega) (by show N ≠ _; omega) (by show N ≠ _; omega)).trans h0.ck⟩)⟩
  rintro S g w ⟨h1, g₂, z, h2, h3, h4⟩
  exact ⟨h1, g₂, z, h2, h4.cd, fun w₂ hl hh => ⟨26, Nat.le_refl _, litTail h3 ⟨hl, hh⟩⟩⟩
set_option maxHeartbeats 8000000 in
theorem roundG (h0 : W0 B0 N x w₀) {lb rst : Code} {i r : Nat} (hi : i < 10) {StopR : Bag → Goroutine → World → Prop} {mR : Nat}
    (hSp : SpT Tryd.prog lnk.tWg (N + 3) (N + 1) 10 (N + 4) 26 (valN x) boxN Anch r = GT Tryd.prog lnk.tWg (N + 3) (N + 1) (N + 4) StopR)
    (IH : ∀ v5 v10 v11 v12 v13 v14 w, FLv N w₀ w → TrS Tryd.prog lnk.tWg (N + 3) (N + 1) (N + 4) StopR mR (fun _ => False) (hdG N x (i + 1) v5 v10 v11 v12 v13 v14 cs lb lb rst) w)
    (v5 v10 v11 v12 v13 v14 : Value) (w : World) (hF : FLv N w₀ w) :
    TrS Tryd.prog lnk.tWg (N + 3) (N + 1) (N + 4) (KdS Tryd.prog lnk.tWg (N + 3) (N + 1) (N + 4) 26 (valN x) boxN i (SpT Tryd.prog lnk.tWg (N + 3) (N + 1) 10 (N + 4) 26 (valN x) boxN Anch r)) 40 (fun _ => False) (hdG N x i v5 v10 v11 v12 v13 v14 cs lbN lb rst) w := by
  have hlt : decide ((i : Int) < 10) = true := decide_eq_true (by omega)
  have hinc : IntKind.i64.wrap ((i : Int) + 1) = ((i + 1 : Nat) : Int) := by rw [IntKind.wrap_i64]; omega
  have hr0 : ∀ {w w₁ : World}, FLv N w₀ w → RSt lnk.tWg (N + 3) (N + 1) (N + 4) (fun _ => False) w w₁ → FLv N w₀ w₁ := fun h r => h.rely r
  simp only [hdG, lbN, lIn, bIn, sR, sL, bodyN, Tryd.f10, Option.getD_some] at IH ⊢
  refine Trek.still fairS rfl (fun _ => stepG_seq) ?_
  (refine Trek.still fairS rfl (fun _ => stepG_region) ?_; simp only [List.size_toArray, List.length_cons, List.length_nil, Nat.reduceAdd, Nat.zero_add, List.range, List.range.loop])
  (refine Trek.look_k rfl (by rfl) (by decide) ?_; intro wx hx K hK; replace hF := hr0 hF hx; clear hx; go_simp; refine hK _ ⟨?_, ?_⟩; (· (rw [listed_nil (by simp [go_sem])]; exact dst_nil)); clear hK K; try walk_nrm)
  refine Trek.still fairS rfl (fun _ => stepG_region_end) ?_
  refine Trek.still fairS rfl (fun _ => stepG_seq) ?_
  refine Trek.still fairS rfl (fun _ => stepG_cond (t := true) (by simp [Act.eval, hlt])) ?_
  simp only [if_true]
  refine Trek.still fairS rfl (fun _ => stepG_skip) ?_
  refine Trek.still fairS rfl (fun _ => stepG_seq) ?_
  refine Trek.still fairS rfl (fun _ => stepG_block) ?_
  refine Trek.still fairS rfl (fun _ => stepG_seq) ?_
  (refine Trek.still fairS rfl (fun _ => stepG_region) ?_; simp only [List.size_toArray, List.length_cons, List.length_nil, Nat.reduceAdd, Nat.zero_add, List.range, List.range.loop])
  (refine Trek.look_k rfl (by rfl) (by decide) ?_; intro wx hx K hK; replace hF := hr0 hF hx; clear hx; go_simp; refine hK _ ⟨?_, ?_⟩; (· (rw [listed_nil (by simp [go_sem])]; exact dst_nil)); clear hK K; try walk_nrm)
  refine Trek.oper_k rfl (by rfl) (by decide) ?_
  intro w1 hx K hK
  replace hF := hr0 hF hx
  clear hx
  go_simp
  refine hK _ _ ⟨?_, ?_⟩
  · rw [listed_nil (by simp [go_sem])]; exact dst_alloc _
  clear hK K
  try walk_nrm
  obtain ⟨nb, hnb⟩ : ∃ nb, nb = w1.heap.size := ⟨_, rfl⟩
  have hbx : Bxv N nb (.int .i64 0) w₀ (w1.alloc (.cells #[.int .i64 0] 3)) := by
    refine ⟨⟨hF.1.alloc _, ?_, ?_⟩, live_other hF.2 (Below.heap_alloc w1 _ _ (by have := hF.1.size; omega))⟩
    · have := hF.1.size; omega
    · rw [hnb]; exact heap_alloc_new w1 _
  have hS : more (fun _ => False) w1 (w1.alloc (.cells #[.int .i64 0] 3)) nb := by rw [hnb]; exact more_alloc _ w1 _
  rw [← hnb]
  generalize more (fun _ => False) w1 (w1.alloc (.cells #[.int .i64 0] 3)) = S1 at *
  generalize w1.alloc (.cells #[.int .i64 0] 3) = w2 at *
  clear hF hnb w1
  have hr1 : ∀ {v : Value} {w w₁ : World}, Bxv N nb v w₀ w → RSt lnk.tWg (N + 3) (N + 1) (N + 4) S1 w w₁ → Bxv N nb v w₀ w₁ := fun h r => Bxv.rely hS h r
  refine Trek.oper_k rfl (by rfl) (by decide) ?_
  intro w3 hx K hK
  replace hbx := hr1 hbx hx
  clear hx
  have hc1 := hbx.1.cell
  have hc2 := hbx.1.thaw
  go_simp
  refine hK _ _ ⟨?_, ?_⟩
  · refine ⟨⟨by simp [World.setCell], rfl, rfl, rfl, fun b hb hn => ?_⟩, fun e he => ?_⟩
    · have : nb ≠ b := fun e => hn (e ▸ hS)
      simp [World.setCell, Array.getElem?_modify, this]
    · have hm := mem_listed he
      simp [go_sem, storedEv, *] at hm
      subst hm
      exact .inl (.inl ⟨_, rfl, .inl hS⟩)
  clear hK K
  try walk_nrm
  have hb4 : Bxv N nb (boxN i) w₀ (w3.setCell ⟨nb, 0, none⟩ (.int .i64 (i : Nat))) := by
    have hge := hbx.1.2.1
    refine ⟨⟨hbx.1.1.set _ _ (.inl hge), hge, ?_⟩, live_other hbx.2 ?_⟩
    · simp [World.setCell, Array.getElem?_modify, hbx.1.2.2]
    · have : nb ≠ N + 3 := by omega
      simp [World.setCell, Array.getElem?_modify, this]
  rw [more_same (by simp [World.setCell])]
  generalize w3.setCell ⟨nb, 0, none⟩ (.int .i64 (i : Nat)) = w4 at *
  clear hbx hc1 hc2 w3
  refine Trek.still fairS rfl (fun _ => stepG_region_end) ?_
  refine Trek.still fairS rfl (fun _ => stepG_seq) ?_
  (refine Trek.still fairS rfl (fun _ => stepG_region) ?_; simp only [List.size_toArray, List.length_cons, List.length_nil, Nat.reduceAdd, Nat.zero_add, List.range, List.range.loop])
  refine Trek.mono (n := 13) ?_ (by omega)
  refine callAdd (F := Bx N nb (boxN i) w₀) (mT := 8) wgLib (fun h r => hr1 h r)
    (fun w v h => h.setG _ _ rfl) rfl (by rfl) (by decide) rfl (by simp [go_sem]) ?_ w4 hb4
  intro w6 hb6
  walk_nrm
  (u_in hr1 hb6; rw [stepG_region_end]; simp only [goes_go]; refine ⟨dg_nil, ?_⟩)
  (u_in hr1 hb6; rw [stepG_region]; simp only [goes_go, List.size_toArray, List.length_cons, List.length_nil, Nat.reduceAdd, Nat.zero_add, List.range, List.range.loop]; refine ⟨dg_nil, ?_⟩)
  (u_in hr1 hb6; refine goes_oper_k rfl rfl (by k_ne) (fun K hK => ?_); go_simp; refine hK _ _ ⟨?_, ?_⟩; (· (refine dg_none ?_; intro e he; have hm := mem_listed he; simp [go_sem, *] at hm)); clear hK K; try w_num)
  refine Goes.stop (fun w7 hx => ?_)
  replace hb6 := hr1 hb6 hx
  clear hx
  refine ⟨rfl, _, _, nb, spawn_step (d := callL (N + 3) (N + 2) nb N) rfl (by rfl) (by decide) ?_ rfl ?_, hS, fun sh s1 s2 s3 s4 => childN h0 hi hb6.1 sh s3 s4 ?_, ?_⟩
  · simp [go_sem, callL, Deferred.ofValue]
  · rw [listed_nil (by simp [go_sem, Deferred.ofValue])]
  · exact (Array.getElem?_eq_some_iff.1 hb6.1.2.2).1
  have hF : FLv N w₀ w7 := ⟨hb6.1.1, hb6.2⟩
  rw [hSp]
  refine ⟨mR + 12, ?_⟩
  walk_nrm
  refine Trek.still fairS rfl (fun _ => stepG_region_end) ?_
  refine Trek.still fairS rfl (fun _ => stepG_inBlock) ?_
  (refine Trek.still fairS rfl (fun _ => stepG_region) ?_; simp only [List.size_toArray, List.length_cons, List.length_nil, Nat.reduceAdd, Nat.zero_add, List.range, List.range.loop])
  (refine Trek.look_k rfl (by rfl) (by decide) ?_; intro wx hx K hK; replace hF := hr0 hF hx; clear hx; go_simp; refine hK _ ⟨?_, ?_⟩; (· (rw [listed_nil (by simp [go_sem])]; exact dst_nil)); clear hK K; try walk_nrm)
  (refine Trek.look_k rfl (by rfl) (by decide) ?_; intro wx hx K hK; replace hF := hr0 hF hx; clear hx; go_simp; refine hK _ ⟨?_, ?_⟩; (· (rw [listed_nil (by simp [go_sem])]; exact dst_nil)); clear hK K; try walk_nrm)
  refine Trek.still fairS rfl (fun _ => stepG_region_end) ?_
  refine Trek.still fairS rfl (fun _ => stepG_inLoop) ?_
  exact (IH _ _ _ _ _ _ _ hF).mono (by omega)
end
end Go.Proofs.YtmphfdibijbjeaaDoor
/- countNumbers: all rounds; the call of Wait. -/
namespace Go.Proofs.YtmphfdibijbjeaaDoor
open Go.Conc Go.ConcN Go.RowKit Go.Conc.Lib Go.ConcR.Gen Go.ConcN.Gen
open Go.ConcR (KK wgBlock WgAt stA smA rd wr mk Payload Aside2 DC0)
set_option linter.unusedSimpArgs false
set_option linter.unusedVariables false
set_option maxRecDepth 100000
def opsOf : Code → Array Oper
  | .region _ ops _ => ops
  | _ => #[]
noncomputable def r9N : Code := sL rstN
noncomputable def r10N : Code := sR rstN
/-- the slots behind the loop -/
noncomputable def aN (N : Nat) (x : Int) (v5 v10 v11 v12 v13 v14 v15 : Value) : Act :=
  ⟨#[.int .i64 x, .pointer (some ⟨N, 0, none⟩), .int .i64 0, .pointer (some ⟨N + 2, 0, none⟩), .pointer (some ⟨N + 3, 0, none⟩), v5, undef, undef, .chan (some (N + 1)), .int .i64 10, v10, v11, v12, v13, v14, v15, undef, undef, undef, undef, undef, undef, undef, undef, undef], []⟩
/-- the frame that waits -/
def FrN (N : Nat) (x : Int) (c : Frame) : Prop := ∃ v5 v10 v11 v12 v13 v14, c = (base 10).at (aN N x v5 v10 v11 v12 v13 v14 undef) (.inRegion (opsOf r9N) [0] :: [.code r10N])
section
variable {B0 N : Nat} {x : Int} {w₀ : World} {cs : List Frame}
abbrev AnchN (N : Nat) (x : Int) (w₀ : World) (cs : List Frame) : Bag → Goroutine → World → Prop := AnchS lnk (FL N w₀) (N + 3) (FrN N x) cs
set_option maxHeartbeats 8000000 in
theorem lastG (hW : WaitInS Tryd.prog lnk (N + 3) (RSt lnk.tWg (N + 3) (N + 1) (N + 4) (fun _ => False)) (FL N w₀)) {lb : Code} (v5 v10 v11 v12 v13 v14 : Value) (w : World) (hF : FLv N w₀ w) :
    TrS Tryd.prog lnk.tWg (N + 3) (N + 1) (N + 4) (KdT Tryd.prog lnk.tWg (N + 3) (N + 1) (N + 4) (AnchN N x w₀ cs)) 20 (fun _ => False) (hdG N x 10 v5 v10 v11 v12 v13 v14 cs lbN lb rstN) w := by
  have hr0 : ∀ {w w₁ : World}, FLv N w₀ w → RSt lnk.tWg (N + 3) (N + 1) (N + 4) (fun _ => False) w w₁ → FLv N w₀ w₁ := fun h r => h.rely r
  have hC : ∀ v10', FrN N x ((base 10).at (aN N x v5 v10' v11 v12 v13 v14 undef) (.inRegion (opsOf r9N) [0] :: [.code r10N])) := fun v10' => ⟨v5, v10', v11, v12, v13, v14, rfl⟩
  simp only [hdG, lbN, rstN, aN, r9N, r10N, opsOf, lIn, bIn, sR, sL, bodyN, Tryd.f10, Option.getD_some] at hC ⊢
  refine Trek.still fairS rfl (fun _ => stepG_seq) ?_
  (refine Trek.still fairS rfl (fun _ => stepG_region) ?_; simp only [List.size_toArray, List.length_cons, List.length_nil, Nat.reduceAdd, Nat.zero_add, List.range, List.range.loop])
  (refine Trek.look_k rfl (by rfl) (by decide) ?_; intro wx hx K hK; replace hF := hr0 hF hx; clear hx; go_simp; refine hK _ ⟨?_, ?_⟩; (· (rw [listed_nil (by simp [go_sem])]; exact dst_nil)); clear hK K; try walk_nrm)
  refine Trek.still fairS rfl (fun _ => stepG_region_end) ?_
  refine Trek.still fairS rfl (fun _ => stepG_seq) ?_
  refine Trek.still fairS rfl (fun _ => stepG_cond (t := false) (by simp [Act.eval])) ?_
  simp only [if_false, Bool.false_eq_true]
  refine Trek.still fairS rfl (fun _ => stepG_exit rfl) ?_
  refine Trek.still fairS rfl (fun _ => stepG_seq) ?_
  (refine Trek.still fairS rfl (fun _ => stepG_region) ?_; simp only [List.size_toArray, List.length_cons, List.length_nil, Nat.reduceAdd, Nat.zero_add, List.range, List.range.loop])
  refine Trek.mono (n := 4) ?_ (by omega)
  refine callWait wgLib (hC _) (fun h r => hr0 h r) hW rfl (by rfl) (by decide) rfl (by simp [go_sem]) _ hF
theorem allRounds (h0 : W0 B0 N x w₀) (hW : WaitInS Tryd.prog lnk (N + 3) (RSt lnk.tWg (N + 3) (N + 1) (N + 4) (fun _ => False)) (FL N w₀)) :
    ∀ (r i : Nat), i + r = 10 → ∃ (StopR : Bag → Goroutine → World → Prop) (mR : Nat), SpT Tryd.prog lnk.tWg (N + 3) (N + 1) 10 (N + 4) 26 (valN x) boxN (AnchN N x w₀ cs) r = GT Tryd.prog lnk.tWg (N + 3) (N + 1) (N + 4) StopR ∧
      ∀ v5 v10 v11 v12 v13 v14 w, FLv N w₀ w → TrS Tryd.prog lnk.tWg (N + 3) (N + 1) (N + 4) StopR mR (fun _ => False) (hdN N x i v5 v10 v11 v12 v13 v14 cs) w := by
  intro r
  induction r with
  | zero =>
    intro i hi
    obtain rfl : i = 10 := by omega
    exact ⟨_, 20, rfl, fun v5 v10 v11 v12 v13 v14 w hF => lastG hW v5 v10 v11 v12 v13 v14 w hF⟩
  | succ r ih =>
    intro i hi
    obtain ⟨StopR, mR, hSp, IH⟩ := ih (i + 1) (by omega)
    have hi' : 10 - (r + 1) = i := by omega
    refine ⟨KdS Tryd.prog lnk.tWg (N + 3) (N + 1) (N + 4) 26 (valN x) boxN i (SpT Tryd.prog lnk.tWg (N + 3) (N + 1) 10 (N + 4) 26 (valN x) boxN (AnchN N x w₀ cs) r), 40, by rw [← hi']; rfl, fun v5 v10 v11 v12 v13 v14 w hF => ?_⟩
    exact roundG h0 (by omega) hSp IH v5 v10 v11 v12 v13 v14 w hF
/-- from the loop's head -/
theorem startN (h0 : W0 B0 N x w₀) (hW : WaitInS Tryd.prog lnk (N + 3) (RSt lnk.tWg (N + 3) (N + 1) (N + 4) (fun _ => False)) (FL N w₀)) (v5 v10 v11 v12 v13 v14 : Value) {w : World} (hF : FLv N w₀ w) :
    SpT Tryd.prog lnk.tWg (N + 3) (N + 1) 10 (N + 4) 26 (valN x) boxN (AnchN N x w₀ cs) 10 (fun _ => False) (hdN N x 0 v5 v10 v11 v12 v13 v14 cs) w := by
  obtain ⟨StopR, mR, hSp, h⟩ := allRounds (cs := cs) h0 hW 10 0 rfl
  rw [hSp]
  exact ⟨mR, h v5 v10 v11 v12 v13 v14 w hF⟩
end
end Go.Proofs.YtmphfdibijbjeaaDoor
/- countNumbers behind Wait: close, the receives, the sum. -/
namespace Go.Proofs.YtmphfdibijbjeaaDoor
open Go.Conc Go.ConcN Go.RowKit
set_option linter.unusedSimpArgs false
set_option linter.unusedVariables false
set_option maxRecDepth 100000
noncomputable def r12N : Code := sR (sR r10N)
noncomputable def lb2N : Code := lIn (bIn (sR (sL r12N)))
noncomputable def r16N : Code := sR r12N
noncomputable def hd2 (N : Nat) (x : Int) (sum : Nat) (v5 v7 v10 v11 v12 v13 v14 v15 v18 v19 v20 v21 v22 v23 : Value) (cs : List Frame) (lb0 lb r16 : Code) : Goroutine :=
  G ((base 10).at ⟨#[.int .i64 x, .pointer (some ⟨N, 0, none⟩), .int .i64 0, .pointer (some ⟨N + 2, 0, none⟩), .pointer (some ⟨N + 3, 0, none⟩), v5, .int .i64 (sum : Nat), v7, .chan (some (N + 1)), .int .i64 10, v10, v11, v12, v13, v14, v15, .chan (some (N + 1)), .chan (some (N + 1)), v18, v19, v20, v21, v22, v23, undef], []⟩
    [.code lb0, .inLoop lb, .inBlock 2, .code r16]) cs
section
variable {B0 N : Nat} {x : Int} {w₀ : World} {cs : List Frame} {Wg : Nat} {Post : Value → World → Prop} {v5 v10 v11 v12 v13 v14 v15 : Value}
theorem FL.chan {w : World} (h : FL N w₀ w) {cap s r : Nat} {buf : Array Value} {cl tm : Bool} : FL N w₀ (w.setChan (N + 1) cap buf cl s r tm) :=
  ⟨fun b h1 h2 h3 => (chan_other h3).trans (h.low b h1 h2 h3), h.os, h.tape, h.output, by have := h.size; simp [World.setChan]; omega⟩
set_option maxHeartbeats 8000000 in
theorem recvStep {m sum v : Nat} {l : List Nat} {s r : Nat} {lb r16 : Code} {w : World} (hw : w.heap[N + 1]? = some (.chan 10 (((v :: l).map fun x => Value.int .i64 (x : Nat)).toArray) true s r false)) (hb : sum + v < 4611686018427387904)
    (hK : ∀ v7 v18 v19 v20 v21 v22 v23, FinG Tryd.prog Wg Post m (hd2 N x (sum + v) v5 v7 v10 v11 v12 v13 v14 v15 v18 v19 v20 v21 v22 v23 cs lb lb r16) (w.setChan (N + 1) 10 ((l.map fun x => Value.int .i64 (x : Nat)).toArray) true s (r + 1) false))
    (v7 v18 v19 v20 v21 v22 v23 : Value) : FinG Tryd.prog Wg Post (m + 30) (hd2 N x sum v5 v7 v10 v11 v12 v13 v14 v15 v18 v19 v20 v21 v22 v23 cs lb2N lb r16) w := by
  have hadd : IntKind.i64.wrap ((sum : Int) + (v : Int)) = ((sum + v : Nat) : Int) := by rw [IntKind.wrap_i64]; omega
  simp only [hd2, lb2N, r12N, r10N, rstN, lIn, bIn, sR, sL, bodyN, Tryd.f10, Option.getD_some] at hK ⊢
  refine FinG.still rfl (fun _ => stepG_seq) ?_
  (refine FinG.still rfl (fun _ => stepG_region) ?_; simp only [List.size_toArray, List.length_cons, List.length_nil, Nat.reduceAdd, Nat.zero_add, List.range, List.range.loop])
  refine FinG.recv (c := N + 1) (z := .int .i64 0) (f := true) rfl (by rfl) (by decide) (fun w => ?_) (fun w => ?_) hw ?_
  · simp [go_sem, execOp, rcase]
  · rw [listed_nil (by simp [go_sem])]
  simp only [recvd, if_true]
  walk_nrm
  (refine FinG.oper_k rfl (by rfl) (by decide) ?_; intro dx K hK; go_simp; refine hK _ _ ⟨?_, FinG.at ?_ dx⟩; (· (rw [listed_nil (by simp [go_sem])]; exact evP_none)); clear hK K dx; try walk_nrm)
  refine FinG.still rfl (fun _ => stepG_region_end) ?_
  refine FinG.still rfl (fun _ => stepG_seq) ?_
  refine FinG.still rfl (fun _ => stepG_cond (t := true) (by simp [Act.eval])) ?_
  simp only [if_true]
  refine FinG.still rfl (fun _ => stepG_skip) ?_
  refine FinG.still rfl (fun _ => stepG_block) ?_
  refine FinG.still rfl (fun _ => stepG_seq) ?_
  (refine FinG.still rfl (fun _ => stepG_region) ?_; simp only [List.size_toArray, List.length_cons, List.length_nil, Nat.reduceAdd, Nat.zero_add, List.range, List.range.loop])
  (refine FinG.oper_k rfl (by rfl) (by decide) ?_; intro dx K hK; go_simp; refine hK _ _ ⟨?_, FinG.at ?_ dx⟩; (· (rw [listed_nil (by simp [go_sem])]; exact evP_none)); clear hK K dx; try walk_nrm)
  (refine FinG.oper_k rfl (by rfl) (by decide) ?_; intro dx K hK; go_simp; refine hK _ _ ⟨?_, FinG.at ?_ dx⟩; (· (rw [listed_nil (by simp [go_sem])]; exact evP_none)); clear hK K dx; try walk_nrm)
  refine FinG.still rfl (fun _ => stepG_region_end) ?_
  (refine FinG.still rfl (fun _ => stepG_region) ?_; simp only [List.size_toArray, List.length_cons, List.length_nil, Nat.reduceAdd, Nat.zero_add, List.range, List.range.loop])
  (refine FinG.oper_k rfl (by rfl) (by decide) ?_; intro dx K hK; go_simp; refine hK _ _ ⟨?_, FinG.at ?_ dx⟩; (· (rw [listed_nil (by simp [go_sem])]; exact evP_none)); clear hK K dx; try walk_nrm)
  (refine FinG.oper_k rfl (by rfl) (by decide) ?_; intro dx K hK; go_simp; refine hK _ _ ⟨?_, FinG.at ?_ dx⟩; (· (rw [listed_nil (by simp [go_sem])]; exact evP_none)); clear hK K dx; try walk_nrm)
  (refine FinG.oper_k rfl (by rfl) (by decide) ?_; intro dx K hK; go_simp; refine hK _ _ ⟨?_, FinG.at ?_ dx⟩; (· (rw [listed_nil (by simp [go_sem])]; exact evP_none)); clear hK K dx; try walk_nrm)
  (refine FinG.oper_k rfl (by rfl) (by decide) ?_; intro dx K hK; go_simp; refine hK _ _ ⟨?_, FinG.at ?_ dx⟩; (· (rw [listed_nil (by simp [go_sem])]; exact evP_none)); clear hK K dx; try walk_nrm)
  refine FinG.still rfl (fun _ => stepG_region_end) ?_
  refine FinG.still rfl (fun _ => stepG_inBlock) ?_
  refine FinG.still rfl (fun _ => stepG_inLoop) ?_
  exact (hK _ _ _ _ _ _ _).mono (by omega)
set_option maxHeartbeats 8000000 in
/-- the channel is empty: out of the loop, and the sum is returned -/
theorem recvEnd {m sum : Nat} {s r : Nat} {lb : Code} {w : World} {b₀ : Frame} {a₀ : Act} {ops₀ : Array Oper} {i₀ : Nat} {rest₀ : List Nat} {k₀ : List Item} {cs' : List Frame} (hw : w.heap[N + 1]? = some (.chan 10 #[] true s r false))
    (hK : FinG Tryd.prog Wg Post m (G (b₀.at (a₀.put ((ops₀[i₀]?).bind (·.dst)) (.int .i64 (sum : Nat))) (.inRegion ops₀ rest₀ :: k₀)) cs') w)
    (v7 v18 v19 v20 v21 v22 v23 : Value) : FinG Tryd.prog Wg Post (m + 30) (hd2 N x sum v5 v7 v10 v11 v12 v13 v14 v15 v18 v19 v20 v21 v22 v23 (b₀.at a₀ (.inRegion ops₀ (i₀ :: rest₀) :: k₀) :: cs') lb2N lb r16N) w := by
  simp only [hd2, lb2N, r16N, r12N, r10N, rstN, lIn, bIn, sR, sL, bodyN, Tryd.f10, Option.getD_some]
  refine FinG.still rfl (fun _ => stepG_seq) ?_
  (refine FinG.still rfl (fun _ => stepG_region) ?_; simp only [List.size_toArray, List.length_cons, List.length_nil, Nat.reduceAdd, Nat.zero_add, List.range, List.range.loop])
  refine FinG.shut (c := N + 1) (z := .int .i64 0) (f := true) rfl (by rfl) (by decide) (fun w => ?_) (fun w => ?_) hw ?_
  · simp [go_sem, execOp, rcase]
  · rw [listed_nil (by simp [go_sem])]
  simp only [recvd, if_true]
  walk_nrm
  (refine FinG.oper_k rfl (by rfl) (by decide) ?_; intro dx K hK; go_simp; refine hK _ _ ⟨?_, FinG.at ?_ dx⟩; (· (rw [listed_nil (by simp [go_sem])]; exact evP_none)); clear hK K dx; try walk_nrm)
  refine FinG.still rfl (fun _ => stepG_region_end) ?_
  refine FinG.still rfl (fun _ => stepG_seq) ?_
  refine FinG.still rfl (fun _ => stepG_cond (t := false) (by simp [Act.eval])) ?_
  simp only [if_false, Bool.false_eq_true]
  refine FinG.still rfl (fun _ => stepG_exit rfl) ?_
  first | refine FinG.still rfl (fun _ => stepG_seq) ?_ | skip
  (refine FinG.still rfl (fun _ => stepG_region) ?_; simp only [List.size_toArray, List.length_cons, List.length_nil, Nat.reduceAdd, Nat.zero_add, List.range, List.range.loop])
  (refine FinG.oper_k rfl (by rfl) (by decide) ?_; intro dx K hK; go_simp; refine hK _ _ ⟨?_, FinG.at ?_ dx⟩; (· (rw [listed_nil (by simp [go_sem])]; exact evP_none)); clear hK K dx; try walk_nrm)
  (refine FinG.oper_k rfl (by rfl) (by decide) ?_; intro dx K hK; go_simp; refine hK _ _ ⟨?_, FinG.at ?_ dx⟩; (· (rw [listed_nil (by simp [go_sem])]; exact evP_none)); clear hK K dx; try walk_nrm)
  refine FinG.still rfl (fun _ => stepG_region_end) ?_
  first | refine FinG.still rfl (fun _ => stepG_ret') ?_ | refine FinG.still rfl (fun _ => stepG_end) ?_
  exact (FinG.leave1 rfl rfl Tryd.func10 rfl hK).mono (by omega)
/-- all that is in the channel -/
theorem recvAll {m T : Nat} {b₀ : Frame} {a₀ : Act} {ops₀ : Array Oper} {i₀ : Nat} {rest₀ : List Nat} {k₀ : List Item} {cs' : List Frame} (hT : T < 4611686018427387904)
    (hK : ∀ w, FL N w₀ w → FinG Tryd.prog Wg Post m (G (b₀.at (a₀.put ((ops₀[i₀]?).bind (·.dst)) (.int .i64 (T : Nat))) (.inRegion ops₀ rest₀ :: k₀)) cs') w) :
    ∀ (l : List Nat) (sum s r : Nat) (w : World), FL N w₀ w → w.heap[N + 1]? = some (.chan 10 ((l.map fun x => Value.int .i64 (x : Nat)).toArray) true s r false) → sum + l.sum = T → ∀ v7 v18 v19 v20 v21 v22 v23,
      FinG Tryd.prog Wg Post (m + 30 + 30 * l.length) (hd2 N x sum v5 v7 v10 v11 v12 v13 v14 v15 v18 v19 v20 v21 v22 v23 (b₀.at a₀ (.inRegion ops₀ (i₀ :: rest₀) :: k₀) :: cs') lb2N lb2N r16N) w := by
  intro l
  induction l with
  | nil =>
    intro sum s r w hF hw hs v7 v18 v19 v20 v21 v22 v23
    have e : sum = T := by simpa using hs
    subst e
    exact (recvEnd hw (hK w hF) v7 v18 v19 v20 v21 v22 v23).mono (by simp)
  | cons v l ih =>
    intro sum s r w hF hw hs v7 v18 v19 v20 v21 v22 v23
    simp only [List.sum_cons] at hs
    have hlt : N + 1 < w.heap.size := (Array.getElem?_eq_some_iff.1 hw).1
    refine (recvStep hw (by omega) (fun v7 v18 v19 v20 v21 v22 v23 => ih (sum + v) s (r + 1) _ hF.chan (chan_set hlt) (by omega) v7 v18 v19 v20 v21 v22 v23) v7 v18 v19 v20 v21 v22 v23).mono ?_
    simp only [List.length_cons]
    omega
set_option maxHeartbeats 8000000 in
/-- from Wait's return -/
theorem closeN {m T n : Nat} {b₀ : Frame} {a₀ : Act} {ops₀ : Array Oper} {i₀ : Nat} {rest₀ : List Nat} {k₀ : List Item} {cs' : List Frame} (hT : T < 4611686018427387904) (hWg : Wg ≠ N + 2) (hcc : w₀.cell? ⟨N + 2, 0, none⟩ = some (.chan (some (N + 1))))
    (hK : ∀ w, FL N w₀ w → FinG Tryd.prog Wg Post m (G (b₀.at (a₀.put ((ops₀[i₀]?).bind (·.dst)) (.int .i64 (T : Nat))) (.inRegion ops₀ rest₀ :: k₀)) cs') w)
    {w : World} (hF : FL N w₀ w) (hch : ChanHas (N + 1) 10 n T w) :
    FinG Tryd.prog Wg Post (m + 30 + 30 * n + 30) (G ((base 10).at (aN N x v5 v10 v11 v12 v13 v14 v15) (.inRegion (opsOf r9N) [] :: [.code r10N])) (b₀.at a₀ (.inRegion ops₀ (i₀ :: rest₀) :: k₀) :: cs')) w := by
  obtain ⟨l, s, hw, hl, hs⟩ := hch
  have hlt : N + 1 < w.heap.size := (Array.getElem?_eq_some_iff.1 hw).1
  have hc : w.cell? ⟨N + 2, 0, none⟩ = some (.chan (some (N + 1))) := by
    rw [← hcc]
    simp [World.cell?, hF.low (N + 2) (by omega) (by omega) (by omega)]
  have hgo := recvAll (x := x) (v5 := v5) (v10 := v10) (v11 := v11) (v12 := v12) (v13 := v13) (v14 := v14) (v15 := v15) hT hK l 0 s 0 (w.setChan (N + 1) 10 (l.map fun x => Value.int .i64 (x : Nat)).toArray true s 0 false) hF.chan (chan_set hlt) (by omega)
  rw [hl] at hgo
  simp only [hd2, aN, r9N, r10N, r12N, lb2N, r16N, rstN, opsOf, lIn, bIn, sR, sL, bodyN, Tryd.f10, Option.getD_some] at hgo ⊢
  refine FinG.still rfl (fun _ => stepG_region_end) ?_
  refine FinG.still rfl (fun _ => stepG_seq) ?_
  (refine FinG.still rfl (fun _ => stepG_region) ?_; simp only [List.size_toArray, List.length_cons, List.length_nil, Nat.reduceAdd, Nat.zero_add, List.range, List.range.loop])
  refine FinG.oper_k rfl (by rfl) (by decide) ?_
  intro d K hK
  have hc' : (w.at d).cell? ⟨N + 2, 0, none⟩ = some (.chan (some (N + 1))) := hc
  go_simp
  refine hK _ _ ⟨fun e he => ?_, FinG.at ?_ d⟩
  · have hm := mem_listed he
    simp [go_sem, *] at hm
    subst hm
    exact evP_cell (Ne.symm hWg)
  clear hK K hc'
  try walk_nrm
  refine FinG.oper_k rfl (by rfl) (by decide) ?_
  intro d' K hK
  have hr := fun ats ty => run_close_open (P := Tryd.prog) (w := w.at d') ats ty (show (w.at d').heap[N + 1]? = _ from hw)
  have hev := fun ats ty => events_close_open (P := Tryd.prog) (w := w.at d') (es := #[]) ats ty (show (w.at d').heap[N + 1]? = _ from hw)
  go_simp
  refine hK _ _ ⟨fun e he => ?_, FinG.at (w := w.setChan (N + 1) 10 (l.map fun x => Value.int .i64 (x : Nat)).toArray true s 0 false) ?_ d'⟩
  · have hm := mem_listed he
    simp [go_sem, hev] at hm
    rcases hm with rfl | rfl
    · exact evP_obj
    · exact evP_obj
  clear hK K hr hev
  try walk_nrm
  refine FinG.still rfl (fun _ => stepG_region_end) ?_
  refine FinG.still rfl (fun _ => stepG_seq) ?_
  (refine FinG.still rfl (fun _ => stepG_region) ?_; simp only [List.size_toArray, List.length_cons, List.length_nil, Nat.reduceAdd, Nat.zero_add, List.range, List.range.loop])
  (refine FinG.oper_k rfl (by rfl) (by decide) ?_; intro dx K hK; go_simp; refine hK _ _ ⟨?_, FinG.at ?_ dx⟩; (· (rw [listed_nil (by simp [go_sem])]; exact evP_none)); clear hK K dx; try walk_nrm)
  refine FinG.still rfl (fun _ => stepG_region_end) ?_
  refine FinG.still rfl (fun _ => stepG_seq) ?_
  refine FinG.still rfl (fun _ => stepG_seq) ?_
  (refine FinG.still rfl (fun _ => stepG_region) ?_; simp only [List.size_toArray, List.length_cons, List.length_nil, Nat.reduceAdd, Nat.zero_add, List.range, List.range.loop])
  refine FinG.oper_k rfl (by rfl) (by decide) ?_
  intro d K hK
  have hc' : ((w.setChan (N + 1) 10 (l.map fun x => Value.int .i64 (x : Nat)).toArray true s 0 false).at d).cell? ⟨N + 2, 0, none⟩ = some (.chan (some (N + 1))) := by
    rw [← hc]
    show World.cell? (w.setChan _ _ _ _ _ _ _) _ = _
    simp [World.cell?, chan_other (w := w) (c := N + 1) (bl := N + 2) (by omega)]
  go_simp
  refine hK _ _ ⟨fun e he => ?_, FinG.at ?_ d⟩
  · have hm := mem_listed he
    simp [go_sem, *] at hm
    subst hm
    exact evP_cell (Ne.symm hWg)
  clear hK K hc'
  try walk_nrm
  refine FinG.still rfl (fun _ => stepG_region_end) ?_
  refine FinG.still rfl (fun _ => stepG_block) ?_
  refine FinG.still rfl (fun _ => stepG_loop) ?_
  exact (hgo _ _ _ _ _ _ _).mono (by omega)
end
end Go.Proofs.YtmphfdibijbjeaaDoor
/- countNumbers: from the loop that starts the goroutines to the end of the run, on every tape. -/
namespace Go.Proofs.YtmphfdibijbjeaaDoor
open Go.Conc Go.ConcN Go.RowKit
open Go.ConcR (KK wgBlock WgAt stA smA rd wr mk Payload)
set_option linter.unusedSimpArgs false
set_option linter.unusedVariables false
set_option maxRecDepth 100000
section
variable {B0 N : Nat} {x : Int} {w₀ : World} {cs cs' : List Frame} {Post : Value → World → Prop} {b₀ : Frame} {a₀ : Act} {ops₀ : Array Oper} {i₀ : Nat} {rest₀ : List Nat} {k₀ : List Item}
/-- Wait has returned -/
def AftN (N : Nat) (x : Int) (w₀ : World) (cs : List Frame) (g : Goroutine) (w : World) : Prop :=
  ∃ v5 v10 v11 v12 v13 v14, g = G ((base 10).at (aN N x v5 v10 v11 v12 v13 v14 (.tuple #[])) (.inRegion (opsOf r9N) [] :: [.code r10N])) cs ∧ FL N w₀ w
abbrev RN (N : Nat) : World → World → Prop := RSt lnk.tWg (N + 3) (N + 1) (N + 4) (fun _ => False)
theorem flv_rn {w w₁ : World} (h : FLv N w₀ w) (r : RN N w w₁) : FLv N w₀ w₁ := h.rely r
theorem putN (v5 v10 v11 v12 v13 v14 : Value) : (aN N x v5 v10 v11 v12 v13 v14 undef).put (((opsOf r9N)[0]?).bind (·.dst)) (.tuple #[]) = aN N x v5 v10 v11 v12 v13 v14 (.tuple #[]) := by
  simp only [aN, opsOf, r9N, rstN, sL, sR, bodyN, Tryd.f10, Option.getD_some]
  simp [Act.put]
abbrev PostN (N : Nat) (x : Int) (w₀ : World) (cs : List Frame) (_ : Bag) (g : Goroutine) (w : World) : Prop := Soon Tryd.prog (N + 3) (RN N) (AftN N x w₀ cs) g w
theorem anchN_on (hO : WaitOnS Tryd.prog lnk (N + 3) (RN N) (FL N w₀)) (S : Bag) (g : Goroutine) (w : World) (h : AnchN N x w₀ cs S g w) :
    GT Tryd.prog lnk.tWg (N + 3) (N + 1) (N + 4) (W1T Tryd.prog lnk.tWg (N + 3) (N + 1) (N + 4) (AnchN N x w₀ cs) (PostN N x w₀ cs)) S g w := by
  obtain ⟨rfl, c, ⟨v5, v10, v11, v12, v13, v14, rfl⟩, h⟩ := h
  have hk := hO (K := AftN N x w₀ cs) (mT := 0) (fun w hF => Goes.stop fun w₁ r => ⟨v5, v10, v11, v12, v13, v14, by rw [putN], (flv_rn hF r).1⟩) g w h
  exact gt_soon (fun g w h => w1T_of (c := (base 10).at (aN N x v5 v10 v11 v12 v13 v14 undef) (.inRegion (opsOf r9N) [0] :: [.code r10N])) ⟨v5, v10, v11, v12, v13, v14, rfl⟩ rfl (fun _ _ h => h) h) hk
theorem anchN_run (S : Bag) (g : Goroutine) (w : World) (h : AnchN N x w₀ cs S g w) : g.status = .running := by
  obtain ⟨_, c, _, T, rfl, _⟩ := h
  rfl
/-- ████ from the loop's head to the end ████ -/
theorem countN {m T : Nat} (hI : WaitInS Tryd.prog lnk (N + 3) (RN N) (FL N w₀)) (hO : WaitOnS Tryd.prog lnk (N + 3) (RN N) (FL N w₀)) (h0 : W0 B0 N x w₀) (hTs : T = sumTo 10 (valN x)) (hT : T < 4611686018427387904)
    (hwg : WgAt lnk.tWg (N + 3) w₀ 0 0) (hch : w₀.heap[N + 1]? = some (.chan 10 #[] false 0 0 false)) {t : Trace} (hg : ∀ op ∈ t, op.g = 0) (hseen : Seen (N + 3) t) (hnr : ∀ op ∈ t, op.act ≠ .mark (.release (stA (N + 3)))) (hd : Deaf t 0 = 0)
    (hK : ∀ w, FL N w₀ w → FinG Tryd.prog (N + 3) Post m (G (b₀.at (a₀.put ((ops₀[i₀]?).bind (·.dst)) (.int .i64 (T : Nat))) (.inRegion ops₀ rest₀ :: k₀)) cs') w) (v5 v10 v11 v12 v13 v14 : Value) :
    ∃ M last o w' t', runNT Tryd.prog (M + 1) (solo (hdN N x 0 v5 v10 v11 v12 v13 v14 (b₀.at a₀ (.inRegion ops₀ (i₀ :: rest₀) :: k₀) :: cs')) w₀) t = (.ended o w', t') ∧
      runN Tryd.prog M (solo (hdN N x 0 v5 v10 v11 v12 v13 v14 (b₀.at a₀ (.inRegion ops₀ (i₀ :: rest₀) :: k₀) :: cs')) w₀) = .next last ∧ step Tryd.prog last = .ended o w' ∧ Go.Conc.Good Tryd.prog Post last o w' t' := by
  have hz := h0.size
  have hF : FLv N w₀ w₀ := ⟨⟨fun _ _ _ _ => rfl, rfl, rfl, rfl, by omega⟩, ⟨_, _, hwg⟩⟩
  have hst := startN (cs := b₀.at a₀ (.inRegion ops₀ (i₀ :: rest₀) :: k₀) :: cs') h0 hI v5 v10 v11 v12 v13 v14 hF
  obtain ⟨μ, hInv⟩ := k_begin (P := Tryd.prog) (ty := lnk.tWg) (M := 26) (val := valN x) (box := boxN) (Post := PostN N x w₀ (b₀.at a₀ (.inRegion ops₀ (i₀ :: rest₀) :: k₀) :: cs')) (sl := none) (t := t) (Wg := N + 3) (Ch := N + 1) (Low0 := N + 4) (n := 10)
    (by omega) (by omega) (by omega) (by omega) hg
    (fun op hop x hx hs => by
      obtain ⟨a, e1, e2⟩ := hs
      have := hseen op hop x hx a e1
      omega) (hseen.mono (by omega)) hnr hd hwg hch (by omega) hst
  obtain ⟨N1, m1, t1, r1, hD⟩ := k_runs (by omega) anchN_run (anchN_on hO) μ _ _ hInv
  obtain ⟨gs, w1, sl1, a1, S1, q, rfl, g0, ⟨mP, hP⟩, hL, hPa, hch1⟩ := hD
  have hG : FinG Tryd.prog (N + 3) Post ((m + 30 + 30 * 10 + 30) + mP) a1 w1 := by
    refine FinG.goesJ (J := fun w => ChanHas (N + 1) 10 10 T w) (fun w d h => h) (fun w w' es hd h => by rw [hd.1]; exact h) (fun w d => RSt.at _ w d) (fun w w' es hd e he => ⟨fun x hx _ => ((hd.2 e he).1 x hx).2, (hd.2 e he).2.1, (hd.2 e he).2.2.1⟩) ?_ hP (by rw [hTs]; exact hch1)
    rintro g w ⟨u5, u10, u11, u12, u13, u14, rfl, hF⟩ hch
    exact closeN hT (by omega) h0.cc hK hF hch
  obtain ⟨M, last, o, w', t', e1, e2, e3, e4⟩ := p_ends g0 hL hPa hG
  refine ⟨N1 + M, last, o, w', t', ?_, ?_, e3, e4⟩
  · rw [Nat.add_assoc, runNT_add, solo_eq_crowd, r1]; exact e1
  · rw [runN_add, ← runNT_fst Tryd.prog _ _ t, solo_eq_crowd, r1]; exact e2
end
end Go.Proofs.YtmphfdibijbjeaaDoor
