/- What all workers count together. -/
import Derived.Test.YtmphfdibijbjeaaDoorHZ
import Derived.Test.YtmphfdibijbjeaaDoorVC
import Derived.Test.YtmphfdibijbjeaaDoorVP
namespace Go.Proofs.YtmphfdibijbjeaaDoor
open Go.Conc Go.ConcN
set_option linter.unusedSimpArgs false
set_option linter.unusedVariables false
set_option maxRecDepth 100000
theorem lens_bc (n : Nat) (h : n ≤ 9999) : lens n 4 = bc (vsg n) := by
  have e3 : n / 1000 % 10 = n / 1000 := by omega
  rw [bc_sg]
  simp only [lens, Nat.pow_zero, Nat.div_one, Nat.zero_add, Nat.reducePow, e3]
  rw [kds_len _ (Nat.mod_lt _ (by omega)), kds_len _ (Nat.mod_lt _ (by omega)), kds_len _ (Nat.mod_lt _ (by omega)), kds_len _ (by omega)]
theorem cnt_mny (K a : Nat) : ∀ i, a + i ≤ 10000 → mny K (a + i) = mny K a + cntR (K : Int) a i
  | 0, _ => by simp [cntR]
  | i + 1, h => by
    have ih := cnt_mny K a i (by omega)
    have e : lens (a + i) 4 = bc (vsg (a + i)) := lens_bc _ (by omega)
    rw [← Nat.add_assoc, mny, ih, cntR, e]
    by_cases hb : bc (vsg (a + i)) = K
    · rw [if_pos hb, if_pos (by omega), Nat.add_assoc]
    · rw [if_neg hb, if_neg (by omega), Nat.add_assoc]
theorem sum_mny (K : Nat) : ∀ j, j ≤ 10 → sumTo j (valN (K : Int)) = mny K (1000 * j)
  | 0, _ => rfl
  | j + 1, h => by
    rw [sumTo, sum_mny K j (by omega), show 1000 * (j + 1) = 1000 * j + 1000 by omega, cnt_mny K (1000 * j) 1000 (by omega)]
end Go.Proofs.YtmphfdibijbjeaaDoor
