/- What the starter may list while it does the group's bookkeeping. Nothing of one program. -/
import Derived.Test.YtmphfdibijbjeaaDoorHG
import Derived.Conc.CrowdSpec
namespace Go.Proofs.YtmphfdibijbjeaaDoor
open Go.Conc Go.ConcN
open Go.ConcR (KK wgBlock WgAt stA smA rd wr mk Payload Aside2 DC0)
set_option linter.unusedSimpArgs false
set_option linter.unusedVariables false
set_option maxRecDepth 100000
/-- what the starter may list while it does the group's bookkeeping: the group's own words -/
def EvG (Wg : Nat) (e : Event) : Prop := (∀ x, (MemAct.ofEvent e).touch? = some x → ShN Wg x.loc ∧ x.kind ≠ .plain) ∧ e.loc ≠ .mark .disable ∧ e.loc ≠ .mark .enable ∧ e.loc ≠ .mark (.release (stA Wg))
def DG (Wg : Nat) (w w' : World) (es : Array Event) : Prop := w' = w ∧ ∀ e ∈ es, EvG Wg e
theorem dg_none {Wg : Nat} {w : World} {es : Array Event} (h : ∀ e ∈ es, False) : DG Wg w w es := ⟨rfl, fun e he => (h e he).elim⟩
theorem dg_nil {Wg : Nat} {w : World} : DG Wg w w #[] := dg_none fun e he => by simp at he
theorem evG_read {Wg : Nat} (a : Addr) (h : a.block = Wg) : EvG Wg ⟨.mark (.read a), false, true⟩ := by
  refine ⟨fun x hx => ?_, by simp, by simp, by simp⟩
  simp only [MemAct.ofEvent, MemAct.touch?, Option.some.injEq] at hx
  subst hx
  exact ⟨⟨a, rfl, h⟩, by simp⟩
theorem evG_write {Wg : Nat} (a : Addr) (h : a.block = Wg) : EvG Wg ⟨.mark (.write a), false, true⟩ := by
  refine ⟨fun x hx => ?_, by simp, by simp, by simp⟩
  simp only [MemAct.ofEvent, MemAct.touch?, Option.some.injEq] at hx
  subst hx
  exact ⟨⟨a, rfl, h⟩, by simp⟩
end Go.Proofs.YtmphfdibijbjeaaDoor
