/- FnMany: the run, from the code's bytes. -/
import Derived.Test.YtmphfdibijbjeaaDoorGU
import Derived.Test.YtmphfdibijbjeaaDoorGK
namespace Go.Proofs.YtmphfdibijbjeaaDoor
open Go.Conc Go.ConcN Go.RowKit
set_option linter.unusedSimpArgs false
set_option linter.unusedVariables false
set_option maxRecDepth 100000
theorem code_of {W : World} {a : Option Addr} {len cap : Nat} {zs : List Int} (h : IsRow .u8 W a len cap zs) : CodeF W.heap.size a len cap W := by
  rcases h with ⟨rfl, rfl, rfl, rfl⟩ | ⟨x, rfl, hl, hm, hz, hcell, hwz⟩
  · exact ⟨Nat.le_refl _, Nat.le_refl _, fun h => by omega⟩
  · refine ⟨Nat.le_refl _, hl, fun h0 => ?_⟩
    obtain ⟨b, off, spot⟩ := x
    have hc := hcell 0 (by omega)
    have hspot : spot = none := by simpa [Addr.add] using World.cell?_spot hc
    subst hspot
    have e : (⟨b, off, none⟩ : Addr).add 0 = ⟨b, off, none⟩ := by unfold Addr.add; split <;> simp_all
    rw [e] at hc
    exact ⟨b, off, _, rfl, World.block_lt_of_cell? W _ hc, hc⟩
theorem manyAllM {B0 : Nat} (a : Option Addr) (len cap : Nat) (zs : List Int) (W : World) (hC : IsRow .u8 W a len cap zs) (hD : DKB B0 W) (hB : B0 ≤ W.heap.size) :
    ∃ M last o w' t', runNT Tryd.prog (M + 1) (solo (G (Frame.enter Tryd.prog 3 #[.slice a len cap] .normal) []) W) #[] = (.ended o w', t') ∧ runN Tryd.prog M (solo (G (Frame.enter Tryd.prog 3 #[.slice a len cap] .normal) []) W) = .next last ∧
      step Tryd.prog last = .ended o w' ∧ Go.Conc.Good Tryd.prog (PostX W) last o w' t' := manyRunM waitsI waitsO a len cap W (code_of hC) hD hB
end Go.Proofs.YtmphfdibijbjeaaDoor
