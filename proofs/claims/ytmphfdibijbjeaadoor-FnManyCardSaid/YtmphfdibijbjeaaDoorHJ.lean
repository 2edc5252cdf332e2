/- A worker behind its send: the deferred Done, by the kit's walk. -/
import Derived.Test.YtmphfdibijbjeaaDoorHI
import Derived.Test.YtmphfdibijbjeaaDoorHW
namespace Go.Proofs.YtmphfdibijbjeaaDoor
open Go.Conc Go.ConcN Go.RowKit Go.Conc.Lib Go.ConcR.Gen Go.ConcN.Gen
open Go.ConcR (KK wgBlock WgAt stA smA rd wr mk Payload Aside2 DC0)
set_option linter.unusedSimpArgs false
set_option linter.unusedVariables false
set_option maxRecDepth 100000
abbrev noL : Nat → Loc → Prop := fun _ _ => False
theorem quitsTailL (T : Array Value) : QuitsD Tryd.prog 2 0 (G { bL.at ⟨T, []⟩ [] with mode := .returning } [botL]) := by
  refine QuitsD.ctl (g' := G botL []) rfl (fun w => ?_) ?_
  · simp [G, stepG, unwind, doReturn, results, Frame.at, bL, baseD, botL, Tryd.func15, Tryd.f15, seen, GStep.after, goexitEntry]
  refine QuitsD.ctl (g' := { G botL [] with status := .finished }) rfl (fun w => ?_) ⟨rfl, rfl⟩
  simp [G, stepG, unwind, botL, goexitEntry, Frame.catches]
  rfl
set_option maxHeartbeats 4000000 in
theorem litTail {Wg bc n : Nat} {v : Value} {g : Goroutine} {w : World} (hg : Sent Wg g) (hK : WgLive lnk.tWg Wg w ∧ Has bc (1 - 1) v w) :
    Goes Tryd.prog false (RW lnk.tWg Wg bc n 0 (1 - 1)) (DWs Wg noL noL bc n 1) (AtR0 Tryd.prog lnk.tWg Wg bc n 0 1 v) 26 g w := by
  obtain ⟨T, ops, rfl⟩ := hg

  u_c stepG_region_end kn_rely hK
  u_c stepG_end kn_rely hK
  (u_in kn_rely hK; rw [stepG_unwind_enter rfl Tryd.func16 (nm_done lnk) rfl]; simp only [goes_go]; refine ⟨by u_nil, ?_⟩; walk_nrmf Tryd.f16)
  have hA := @doneN _ lnk Tryd.prog wgLib noL noL Wg bc n 0 1 v
  simp only [body_done, doneFn, Option.getD_some] at hA
  exact hA rfl (quitsTailL _) _ hK
end Go.Proofs.YtmphfdibijbjeaaDoor
