/- The model's chapter 2 (package spec): PileSum, PileLess, PileSize, PileSteps. -/
import Derived.Test.YtgcalmenlcpjpaaDoorBV
namespace Go.Proofs.YtgcalmenlcpjpaaDoor
open Go.RowKit
set_option linter.unusedVariables false
set_option maxRecDepth 100000
def sumB (f : Nat → Int) (n : Nat) (p : Nat → Int) (m : Nat) (q : Nat → Int) (l : Nat) : Bool := pilB f n p m && (pilB f n q l && ofB f n (val f p n + val f q n))
theorem PileR.no {w w1 : World} {f : Nat → Int} {n : Nat} {N : Int} {ok : Bool} {a : Option Addr} {c : Nat} (h : ok = false) (g : Below w.heap.size w w1) : PileR w w1 f n N ok (.returned (.tuple #[.slice a 0 c, .bool false])) :=
  ⟨a, 0, c, by rw [h], by rw [h]; rfl, Res.none_ _ _ _ _ _, g⟩
theorem PileR.later {w w1 w2 : World} {f : Nat → Int} {n : Nat} {N : Int} {ok ok' : Bool} {e : Ending} (h : PileR w1 w2 f n N ok e) (g : Below w.heap.size w w1) (hk : ok = ok') : PileR w w2 f n N ok' e := by
  obtain ⟨a, m, c, rfl, rfl, hr, hb⟩ := h
  subst hk
  exact ⟨a, _, c, rfl, rfl, hr.mono g.size (Nat.le_refl _), g.trans (hb.mono g.size)⟩
def lessB (f : Nat → Int) (n : Nat) (p : Nat → Int) (m : Nat) (q : Nat → Int) (l : Nat) : Bool := valB f n p m && (valB f n q l && decide (val f q n ≤ val f p n))
theorem valR_eq {f : Nat → Int} {n : Nat} {p : Nat → Int} {m : Nat} (h : valB f n p m = true) : valR f n p m = val f p n := by unfold valR; rw [if_pos h]
def sizR (f : Nat → Int) (n : Nat) (p : Nat → Int) (m : Nat) : Int := if pilB f n p m = true then sumF p n else 0
theorem sum_bd {p : Nat → Int} {n : Nat} (h0 : ∀ j, j < n → 0 ≤ p j) (h1 : ∀ j, j < n → p j ≤ 1000000) (hn : n ≤ 6) : ∀ k, k ≤ n → 0 ≤ sumF p k ∧ sumF p k ≤ 1000000 * k
  | 0, _ => by simp [sumF]
  | k + 1, hk => by
    have := sum_bd h0 h1 hn k (by omega)
    have := h0 k (by omega)
    have := h1 k (by omega)
    simp only [sumF]
    omega
def stpR (f : Nat → Int) (n : Nat) (p : Nat → Int) (m : Nat) : Int := if valB f n p m = true then stp f p (n - 1) else 0
theorem stp_bd {f p : Nat → Int} {n : Nat} (hs : SysF f n) (h0 : ∀ j, j < n → 0 ≤ p j) (h1 : ∀ j, j < n → p j ≤ 1000000) (hn : n ≤ 6) : ∀ k, k < n → 0 ≤ stp f p k ∧ stp f p k ≤ 1000000 * k
  | 0, _ => by simp [stp, sumF]
  | k + 1, hk => by
    have := stp_bd hs h0 h1 hn k (by omega)
    have := car_nonneg hs h0 (k + 1) hk
    have := car_le hs h0 h1 (by omega) (k + 1) hk
    unfold stp at *
    simp only [sumF]
    omega
end Go.Proofs.YtgcalmenlcpjpaaDoor
