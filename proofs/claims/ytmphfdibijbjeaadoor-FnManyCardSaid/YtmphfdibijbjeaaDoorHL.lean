/- The stops of sync.WaitGroup's Wait. Nothing of one program. -/
import Derived.Test.YtmphfdibijbjeaaDoorHK
namespace Go.Proofs.YtmphfdibijbjeaaDoor
open Go.Conc Go.ConcN Go.Conc.Lib Go.ConcN.Gen
open Go.ConcR (KK wgBlock WgAt stA smA rd wr mk Payload Aside2 DC0)
set_option linter.unusedSimpArgs false
set_option linter.unusedVariables false
set_option maxRecDepth 100000
section
variable (P : Program) (ty : TypeId) (Wg : Nat)
def SAcq (K : Goroutine → World → Prop) (g : Goroutine) (w : World) : Prop := g.status = .running ∧ ∃ g', stepG P true g w = .go g' w #[mk (.acquire (stA Wg))] ∧ K g' w
/-- the load behind the semaphore -/
def SW4 (K : Goroutine → World → Prop) (g : Goroutine) (w : World) : Prop := g.status = .running ∧ (WgAt ty Wg w 0 0 → ∃ g', stepG P true g w = .go g' w #[rd (stA Wg)] ∧ K g' w)
/-- the semaphore -/
def SW3 (K : Goroutine → World → Prop) (g : Goroutine) (w : World) : Prop :=
  g.status = .running ∧ g.offers = none ∧ ((∃ st, WgAt ty Wg w st 0) → stepG P true g w = .go { g with status := .blocked } w #[]) ∧
    (WgAt ty Wg w 0 1 → ∃ g', stepG P true g w = .go g' (w.setCell (smA Wg) (.int .u32 0)) (semEvents (smA Wg)) ∧ K g' (w.setCell (smA Wg) (.int .u32 0)))
/-- the CompareAndSwap: it hits, or a worker's add came between -/
def SW2 (vs : Nat) (KH KM : Goroutine → World → Prop) (g : Goroutine) (w : World) : Prop :=
  g.status = .running ∧ ∀ v : Nat, v < 2147483648 → WgAt ty Wg w (v * KK) 0 →
    (v = vs → ∃ g', stepG P true g w = .go g' (w.setCell (stA Wg) (.int .u64 (v * KK + 1))) #[rd (stA Wg), wr (stA Wg)] ∧ KH g' (w.setCell (stA Wg) (.int .u64 (v * KK + 1)))) ∧
    (v ≠ vs → ∃ g', stepG P true g w = .go g' w #[rd (stA Wg)] ∧ KM g' w)
/-- the load at the loop's head -/
def SW1 (K0 : Goroutine → World → Prop) (K1 : Nat → Goroutine → World → Prop) (g : Goroutine) (w : World) : Prop :=
  g.status = .running ∧ ∀ v : Nat, v < 2147483648 → WgAt ty Wg w (v * KK) 0 → ∃ g', stepG P true g w = .go g' w #[rd (stA Wg)] ∧ (v = 0 → K0 g' w) ∧ (v ≠ 0 → K1 v g' w)
end
/-- behind Wait's loop: what follows the acquire -/
abbrev OutK (P : Program) (Wg : Nat) (R : World → World → Prop) (K : Goroutine → World → Prop) : Goroutine → World → Prop := Soon P Wg R (SKe P (Soon P Wg R (SAcq P Wg (Soon P Wg R K))))
end Go.Proofs.YtmphfdibijbjeaaDoor
