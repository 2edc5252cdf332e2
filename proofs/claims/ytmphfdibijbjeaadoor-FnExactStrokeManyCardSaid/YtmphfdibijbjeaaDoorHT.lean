/- The starter: what HK and HM tell, in the machine's words. Nothing of one program. -/
import Derived.Test.YtmphfdibijbjeaaDoorHS
import Derived.Test.YtmphfdibijbjeaaDoorHL
namespace Go.Proofs.YtmphfdibijbjeaaDoor
open Go.Conc Go.ConcN Go.Conc.Lib Go.ConcR.Gen Go.ConcN.Gen
open Go.ConcR (KK wgBlock WgAt stA smA rd wr mk Payload Aside2 DC0)
set_option linter.unusedSimpArgs false
set_option linter.unusedVariables false
set_option maxRecDepth 100000
set_option linter.unusedSectionVars false
section
variable [Payload] {P : Program} {ty : TypeId} {Wg Ch n Low0 M : Nat} {val : Nat → Nat} {box : Nat → Value} {Anch Post : Bag → Goroutine → World → Prop} {S : Bag} {g : Goroutine} {w : World}
theorem dst_of_dg {w w' : World} {es : Array Event} (h : DG Wg w w' es) : DSt Wg Ch Low0 S w w' es ∧ w'.heap.size ≤ w.heap.size := by
  obtain ⟨rfl, h⟩ := h
  exact ⟨⟨Eff.refl _ _, fun e he => .inr (h e he)⟩, Nat.le_refl _⟩
theorem trs_goes {K : Goroutine → World → Prop} {K' : Bag → Goroutine → World → Prop} (hK : ∀ g w, K g w → K' S g w) {m : Nat} (h : Goes P true (RSt ty Wg Ch Low0 S) (DG Wg) K m g w) : TrS P ty Wg Ch Low0 K' m S g w :=
  Trek.of_goes (fun _ _ r => r) (fun _ _ _ d => dst_of_dg d) hK h
theorem gt_soon {K : Goroutine → World → Prop} {K' : Bag → Goroutine → World → Prop} (hK : ∀ g w, K g w → K' S g w) (h : Soon P Wg (RSt ty Wg Ch Low0 S) K g w) : GT P ty Wg Ch Low0 K' S g w :=
  let ⟨m, h⟩ := h; ⟨m, trs_goes hK h⟩
abbrev RS (ty : TypeId) (Wg Ch Low0 : Nat) (S : Bag) : World → World → Prop := RSt ty Wg Ch Low0 S
theorem kdS_of {j : Nat} {Next : Bag → Goroutine → World → Prop} {K : Goroutine → World → Prop} (hK : ∀ g w, K g w → GoT P ty Wg Ch Low0 M val box j Next S g w)
    (h : SKd P (Soon P Wg (RS ty Wg Ch Low0 S) (SA1 P ty Wg (Soon P Wg (RS ty Wg Ch Low0 S) (SKe P (Soon P Wg (RS ty Wg Ch Low0 S) K))))) g w) : KdS P ty Wg Ch Low0 M val box j Next S g w := by
  obtain ⟨h1, g', h2, h3⟩ := h
  refine ⟨h1, g', h2, gt_soon (fun g w h => ?_) h3⟩
  obtain ⟨h1, h2⟩ := h
  refine ⟨h1, fun v hv hw => ?_⟩
  obtain ⟨g', h3, h4⟩ := h2 v hv hw
  refine ⟨g', h3, gt_soon (fun g w h => ?_) h4⟩
  obtain ⟨h1, g', h2, h3⟩ := h
  exact ⟨h1, g', h2, gt_soon hK h3⟩
theorem keT_of {K : Goroutine → World → Prop} (hK : ∀ g w, Soon P Wg (RS ty Wg Ch Low0 S) K g w → Post S g w) (h : OutK P Wg (RS ty Wg Ch Low0 S) K g w) : GT P ty Wg Ch Low0 (KeT P ty Wg Ch Low0 Post) S g w := by
  refine gt_soon (fun g w h => ?_) h
  obtain ⟨h1, g', h2, h3⟩ := h
  refine ⟨h1, g', h2, gt_soon (fun g w h => ?_) h3⟩
  obtain ⟨h1, g', h2, h3⟩ := h
  exact ⟨h1, g', h2, hK _ _ h3⟩
/-- the anchor in Wait -/
def AnchS (L : WgLink) (F : World → Prop) (Wg : Nat) (C : Frame → Prop) (cs : List Frame) (S : Bag) (g : Goroutine) (w : World) : Prop := S = (fun _ => False) ∧ ∃ c, C c ∧ AnchWN L F Wg c cs g w
theorem w1T_of {L : WgLink} {F : World → Prop} {C : Frame → Prop} {c : Frame} {cs : List Frame} {K : Goroutine → World → Prop} (hc : C c) (hS : S = fun _ => False) (hK : ∀ g w, Soon P Wg (RS ty Wg Ch Low0 S) K g w → Post S g w)
    (h : SW1 P ty Wg (OutK P Wg (RS ty Wg Ch Low0 S) K) (fun v => Soon P Wg (RS ty Wg Ch Low0 S) (SW2 P ty Wg v (Soon P Wg (RS ty Wg Ch Low0 S) (SW3 P ty Wg (Soon P Wg (RS ty Wg Ch Low0 S) (SW4 P ty Wg (OutK P Wg (RS ty Wg Ch Low0 S) K))))) (Soon P Wg (RS ty Wg Ch Low0 S) (AnchWN L F Wg c cs)))) g w) :
    W1T P ty Wg Ch Low0 (AnchS L F Wg C cs) Post S g w := by
  obtain ⟨h1, h2⟩ := h
  refine ⟨h1, fun v hv hw => ?_⟩
  obtain ⟨g', h3, h4, h5⟩ := h2 v hv hw
  refine ⟨g', h3, fun e => keT_of hK (h4 e), fun e => gt_soon (fun g w h => ?_) (h5 e)⟩
  obtain ⟨h1, h2⟩ := h
  refine ⟨h1, fun v hv hw => ?_⟩
  obtain ⟨h6, h7⟩ := h2 v hv hw
  refine ⟨fun e => ?_, fun e => ?_⟩
  · obtain ⟨g', h8, h9⟩ := h6 e
    refine ⟨g', h8, gt_soon (fun g w h => ?_) h9⟩
    obtain ⟨h1, h2, h3, h4⟩ := h
    refine ⟨h1, h2, h3, fun hw => ?_⟩
    obtain ⟨g', h5, h6⟩ := h4 hw
    refine ⟨g', h5, gt_soon (fun g w h => ?_) h6⟩
    obtain ⟨h1, h2⟩ := h
    refine ⟨h1, fun hw => ?_⟩
    obtain ⟨g', h5, h6⟩ := h2 hw
    exact ⟨g', h5, keT_of hK h6⟩
  · obtain ⟨g', h8, h9⟩ := h7 e
    exact ⟨g', h8, gt_soon (fun g w h => ⟨hS, c, hc, h⟩) h9⟩
theorem kdT_of {L : WgLink} {F : World → Prop} {C : Frame → Prop} {c : Frame} {cs : List Frame} (hc : C c) (hS : S = fun _ => False) (h : SKd P (Soon P Wg (RS ty Wg Ch Low0 S) (AnchWN L F Wg c cs)) g w) : KdT P ty Wg Ch Low0 (AnchS L F Wg C cs) S g w := by
  obtain ⟨h1, g', h2, h3⟩ := h
  exact ⟨h1, g', h2, gt_soon (fun g w h => ⟨hS, c, hc, h⟩) h3⟩
end
section
variable {P : Program} {main : Bool} {R : Bag → World → World → Prop} {D : Bag → World → World → Array Event → Prop} {Stop : Bag → Goroutine → World → Prop} {S : Bag} {w : World} {n : Nat} {b : Frame} {a : Act} {k : List Item} {cs : List Frame}
/-- one operation, what follows behind a variable -/
theorem Trek.oper_k {ops : Array Oper} {i : Nat} {rest : List Nat} {o : Oper} (ho : ops[i]? = some o) (hw : Region.wanted o (yielded ops a.tmps) = true) (hk : b.kind ≠ .early)
    (h : ∀ w₁, R S w w₁ → ∀ K : Act → World → Prop, (∀ a' w', D S w₁ w' (listed P b.fn a o w₁) ∧ Trek P main R D Stop n (_root_.Go.Proofs.YtmphfdibijbjeaaDoor.more S w₁ w') (G (b.at a' (.inRegion ops rest :: k)) cs) w' → K a' w') → uponK o a K ((execOp a.eval o).run P w₁)) :
    Trek P main R D Stop (n + 1) S (G (b.at a (.inRegion ops (i :: rest) :: k)) cs) w := by
  refine .inr ⟨rfl, fun w₁ h₁ => goes_oper ho hw hk ?_⟩
  have h2 := h w₁ h₁ (fun a' w' => D S w₁ w' (listed P b.fn a o w₁) ∧ Trek P main R D Stop n (_root_.Go.Proofs.YtmphfdibijbjeaaDoor.more S w₁ w') (G (b.at a' (.inRegion ops rest :: k)) cs) w') (fun _ _ x => x)
  revert h2
  cases (execOp a.eval o).run P w₁ with
  | ok x w' => cases x <;> exact id
  | halt _ _ => exact id
/-- a go statement that lists nothing -/
theorem spawn_step {ops : Array Oper} {i : Nat} {rest : List Nat} {o : Oper} {d : Deferred} {f : Fn} {c : Array Value} (ho : ops[i]? = some o) (hw : Region.wanted o (yielded ops a.tmps) = true) (hk : b.kind ≠ .early)
    (hr : (execOp a.eval o).run P w = .ok (.spawn d) w) (hd : d.target = .fn f c) (hl : listed P b.fn a o w = #[]) :
    stepG P main (G (b.at a (.inRegion ops (i :: rest) :: k)) cs) w = .spawn (G (b.at (a.put o.dst undef) (.inRegion ops rest :: k)) cs) (born P d) w #[] := by
  rw [stepG_spawn ho hw hk hr hd, hl]
/-- into a call -/
theorem Trek.enter (T : Fair2 R D) {ops : Array Oper} {i : Nat} {rest : List Nat} {o : Oper} {f : FuncId} {fn : Func} {c : Code} {args : Array Operand} {ats : Array TypeId}
    (ho : ops[i]? = some o) (hw : Region.wanted o (yielded ops a.tmps) = true) (hk : b.kind ≠ .early) (hop : o.op = .call { callee := .value (.func f), args, argTypes := ats })
    (hf : P.funcs[f]? = some fn) (hname : (fn.name == "runtime.NumGoroutine") = false) (hbody : fn.body = some c)
    (h : ∀ w₁, R S w w₁ → Trek P main R D Stop n S (G ((base f).at ⟨args.map a.eval ++ Array.replicate (fn.ntmps - (args.map a.eval).size) undef, []⟩ [.code c]) (b.at a (.inRegion ops (i :: rest) :: k) :: cs)) w₁) :
    Trek P main R D Stop (n + 1) S (G (b.at a (.inRegion ops (i :: rest) :: k)) cs) w := by
  refine .inr ⟨rfl, fun w₁ h₁ => goes_call ho hw hk hop hf hname hbody ⟨T.idle _ _, ?_⟩⟩
  rw [more_same (Nat.le_refl _)]
  exact h w₁ h₁
end
section
variable [Payload] {P : Program} {L : WgLink} {Wg Ch n Low0 M : Nat} {val : Nat → Nat} {box : Nat → Value} {Post : Bag → Goroutine → World → Prop} {S : Bag} {F : World → Prop}
  {b : Frame} {a : Act} {k : List Item} {cs : List Frame} {ops : Array Oper} {i : Nat} {rest : List Nat} {o : Oper} {args : Array Operand} {ats : Array TypeId} {mT : Nat}
/-- the call of Add(1) -/
theorem callAdd (H : WgLib P L) {j : Nat} {Next : Bag → Goroutine → World → Prop} (hr : ∀ {w w₁}, GrpF L Wg F w → RSt L.tWg Wg Ch Low0 S w w₁ → GrpF L Wg F w₁) (hs : ∀ w v, F w → F (w.setCell (stA Wg) v))
    (ho : ops[i]? = some o) (hw : Region.wanted o (yielded ops a.tmps) = true) (hk : b.kind ≠ .early) (hop : o.op = .call { callee := .value (.func L.add), args, argTypes := ats }) (hargs : args.map a.eval = #[.pointer (some ⟨Wg, 0, none⟩), .int .i64 1])
    (hT : ∀ w, GrpF L Wg F w → Goes P true (RSt L.tWg Wg Ch Low0 S) (DG Wg) (GoT P L.tWg Wg Ch Low0 M val box j Next S) mT (G (b.at (a.put o.dst (.tuple #[])) (.inRegion ops rest :: k)) cs) w) (w : World) (hF : GrpF L Wg F w) :
    TrS P L.tWg Wg Ch Low0 (KdS P L.tWg Wg Ch Low0 M val box j Next) 13 S (G (b.at a (.inRegion ops (i :: rest) :: k)) cs) w := by
  refine Trek.enter (c := body_add L) fairS ho hw hk hop H.f_add (nm_add L) rfl fun w₁ h₁ => ?_
  rw [hargs]
  refine trs_goes (fun g w h => kdS_of (fun _ _ h => h) h) ?_
  exact addOne (b₀ := b) (a₀ := a) (ops₀ := ops) (i₀ := i) (rest₀ := rest) (k₀ := k) (cs := cs) (mT := mT) H hr hs (fun w h => by rw [ho]; exact hT w h) w₁ (hr hF h₁)
/-- what waitIn and waitOn (HM) say -/
def WaitInS (P : Program) (L : WgLink) (Wg : Nat) (R : World → World → Prop) (F : World → Prop) : Prop :=
  ∀ {b₀ : Frame} {a₀ : Act} {ops₀ : Array Oper} {i₀ : Nat} {rest₀ : List Nat} {k₀ : List Item} {cs : List Frame} (w : World), GrpF L Wg F w →
    Goes P true R (DG Wg) (SKd P (Soon P Wg R (AnchWN L F Wg (b₀.at a₀ (.inRegion ops₀ (i₀ :: rest₀) :: k₀)) cs))) 3
      (G ((base L.wait).at ⟨#[.pointer (some ⟨Wg, 0, none⟩)] ++ Array.replicate 83 undef, []⟩ [.code (body_wait L)]) (b₀.at a₀ (.inRegion ops₀ (i₀ :: rest₀) :: k₀) :: cs)) w
def WaitOnS (P : Program) (L : WgLink) (Wg : Nat) (R : World → World → Prop) (F : World → Prop) : Prop :=
  ∀ {K : Goroutine → World → Prop} {b₀ : Frame} {a₀ : Act} {ops₀ : Array Oper} {i₀ : Nat} {rest₀ : List Nat} {k₀ : List Item} {cs : List Frame} {mT : Nat},
    (∀ w, GrpF L Wg F w → Goes P true R (DG Wg) K mT (G (b₀.at (a₀.put ((ops₀[i₀]?).bind (·.dst)) (.tuple #[])) (.inRegion ops₀ rest₀ :: k₀)) cs) w) →
    ∀ (g : Goroutine) (w : World), AnchWN L F Wg (b₀.at a₀ (.inRegion ops₀ (i₀ :: rest₀) :: k₀)) cs g w →
      Soon P Wg R (SW1 P L.tWg Wg (OutK P Wg R K) (fun v => Soon P Wg R (SW2 P L.tWg Wg v (Soon P Wg R (SW3 P L.tWg Wg (Soon P Wg R (SW4 P L.tWg Wg (OutK P Wg R K))))) (Soon P Wg R (AnchWN L F Wg (b₀.at a₀ (.inRegion ops₀ (i₀ :: rest₀) :: k₀)) cs))))) g w
/-- the call of Wait -/
theorem callWait (H : WgLib P L) {C : Frame → Prop} (hC : C (b.at a (.inRegion ops (i :: rest) :: k))) (hr : ∀ {w w₁}, GrpF L Wg F w → RSt L.tWg Wg Ch Low0 (fun _ => False) w w₁ → GrpF L Wg F w₁) (hW : WaitInS P L Wg (RSt L.tWg Wg Ch Low0 (fun _ => False)) F)
    (ho : ops[i]? = some o) (hw : Region.wanted o (yielded ops a.tmps) = true) (hk : b.kind ≠ .early) (hop : o.op = .call { callee := .value (.func L.wait), args, argTypes := ats }) (hargs : args.map a.eval = #[.pointer (some ⟨Wg, 0, none⟩)])
    (w : World) (hF : GrpF L Wg F w) :
    TrS P L.tWg Wg Ch Low0 (KdT P L.tWg Wg Ch Low0 (AnchS L F Wg C cs)) 4 (fun _ => False) (G (b.at a (.inRegion ops (i :: rest) :: k)) cs) w := by
  refine Trek.enter (c := body_wait L) fairS ho hw hk hop H.f_wait (nm_wait L) rfl fun w₁ h₁ => ?_
  rw [hargs]
  exact trs_goes (fun g w h => kdT_of hC rfl h) (hW w₁ (hr hF h₁))
end
end Go.Proofs.YtmphfdibijbjeaaDoor
