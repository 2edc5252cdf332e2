/- Wait, as HM walks it, for this group. -/
import Derived.Test.YtmphfdibijbjeaaDoorMc
import Derived.Test.YtmphfdibijbjeaaDoorHM
namespace Go.Proofs.YtmphfdibijbjeaaDoor
open Go.Conc Go.ConcN Go.RowKit
set_option linter.unusedSimpArgs false
set_option linter.unusedVariables false
set_option maxRecDepth 100000
theorem waitsI (N : Nat) (w₀ : World) : WaitInS Tryd.prog lnk (N + 3) (RN N) (FL N w₀) := fun w hF => waitIn wgLib (fun h r => flv_rn h r) w hF
theorem waitsO (N : Nat) (w₀ : World) : WaitOnS Tryd.prog lnk (N + 3) (RN N) (FL N w₀) := fun hT g w h => waitOn wgLib (fun h r => flv_rn h r) (fun w a v ha hF => hF.set a v (.inr (.inl ha))) hT g w h
theorem manyAll {B0 : Nat} (k : Int) (W : World) (hD : DKB B0 W) (hB : B0 ≤ W.heap.size) :
    ∃ M last o w' t', runNT Tryd.prog (M + 1) (solo (G (Frame.enter Tryd.prog 4 #[.int .i64 k] .normal) []) W) #[] = (.ended o w', t') ∧ runN Tryd.prog M (solo (G (Frame.enter Tryd.prog 4 #[.int .i64 k] .normal) []) W) = .next last ∧
      step Tryd.prog last = .ended o w' ∧ Go.Conc.Good Tryd.prog (PostX W) last o w' t' := manyRun waitsI waitsO k W hD hB
end Go.Proofs.YtmphfdibijbjeaaDoor
