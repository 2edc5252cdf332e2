/- How many numbers have k strokes, plain: by digits. No program. -/
import Derived.Test.YtmphfdibijbjeaaDoorVA
namespace Go.Proofs.YtmphfdibijbjeaaDoor
set_option linter.unusedVariables false
set_option maxRecDepth 100000
def isV (a k : Nat) : Nat := if a = k then 1 else 0
def vcnt (g : Nat → Nat) (k : Nat) : Nat → Nat
  | 0 => 0
  | n + 1 => vcnt g k n + isV (g n) k
theorem mny_cnt (k : Nat) : ∀ n, mny k n = vcnt (fun n => bc (vsg n)) k n
  | 0 => rfl
  | n + 1 => by rw [mny, vcnt, mny_cnt k n]; rfl
theorem cnt_congr {g h : Nat → Nat} {k : Nat} : ∀ n, (∀ m, m < n → g m = h m) → vcnt g k n = vcnt h k n
  | 0, _ => rfl
  | n + 1, e => by rw [vcnt, vcnt, cnt_congr n (fun m hm => e m (by omega)), e n (by omega)]
theorem cnt_shift (g : Nat → Nat) (j k : Nat) : ∀ n, vcnt (fun m => g m + j) k n = if j ≤ k then vcnt g (k - j) n else 0
  | 0 => by unfold vcnt; split <;> rfl
  | n + 1 => by
    rw [vcnt, cnt_shift g j k n]
    by_cases h : j ≤ k
    · rw [if_pos h, if_pos h, vcnt]
      congr 1
      unfold isV
      by_cases e : g n + j = k
      · rw [if_pos e, if_pos (by omega)]
      · rw [if_neg e, if_neg (by omega)]
    · unfold isV
      rw [if_neg h, if_neg h, if_neg (by omega)]
theorem cnt_ten (g h : Nat → Nat) (k : Nat) : ∀ M, (∀ m d, m < M → d < 10 → g (10 * m + d) = bq d + h m) →
    vcnt g k (10 * M) = vcnt h k M + 5 * vcnt (fun m => h m + 1) k M + 3 * vcnt (fun m => h m + 2) k M + vcnt (fun m => h m + 3) k M
  | 0, _ => rfl
  | M + 1, e => by
    have ih := cnt_ten g h k M (fun m d hm hd => e m d (by omega) hd)
    have b : ∀ d, d < 10 → g (10 * M + d) = bq d + h M := fun d hd => e M d (by omega) hd
    have q0 : bq 0 = 0 := by decide
    have q1 : bq 1 = 1 := by decide
    have q2 : bq 2 = 1 := by decide
    have q3 : bq 3 = 1 := by decide
    have q4 : bq 4 = 1 := by decide
    have q5 : bq 5 = 2 := by decide
    have q6 : bq 6 = 1 := by decide
    have q7 : bq 7 = 2 := by decide
    have q8 : bq 8 = 2 := by decide
    have q9 : bq 9 = 3 := by decide
    have b0 := b 0 (by omega); have b1 := b 1 (by omega); have b2 := b 2 (by omega); have b3 := b 3 (by omega); have b4 := b 4 (by omega)
    have b5 := b 5 (by omega); have b6 := b 6 (by omega); have b7 := b 7 (by omega); have b8 := b 8 (by omega); have b9 := b 9 (by omega)
    rw [q0] at b0; rw [q1] at b1; rw [q2] at b2; rw [q3] at b3; rw [q4] at b4; rw [q5] at b5; rw [q6] at b6; rw [q7] at b7; rw [q8] at b8; rw [q9] at b9
    have s : vcnt g k (10 * (M + 1)) = vcnt g k (10 * M) + isV (g (10 * M + 0)) k + isV (g (10 * M + 1)) k + isV (g (10 * M + 2)) k + isV (g (10 * M + 3)) k + isV (g (10 * M + 4)) k
        + isV (g (10 * M + 5)) k + isV (g (10 * M + 6)) k + isV (g (10 * M + 7)) k + isV (g (10 * M + 8)) k + isV (g (10 * M + 9)) k := rfl
    rw [s, ih, b0, b1, b2, b3, b4, b5, b6, b7, b8, b9, Nat.zero_add, Nat.add_comm 1 (h M), Nat.add_comm 2 (h M), Nat.add_comm 3 (h M)]
    simp only [vcnt]
    omega
/-- in how many ways i digits have k strokes -/
def wys : Nat → Nat → Nat
  | 0, k => if k = 0 then 1 else 0
  | i + 1, k => wys i k + 5 * (if 1 ≤ k then wys i (k - 1) else 0) + 3 * (if 2 ≤ k then wys i (k - 2) else 0) + (if 3 ≤ k then wys i (k - 3) else 0)
theorem wys_step {g h : Nat → Nat} {M i : Nat} (hh : ∀ k, vcnt h k M = wys i k) (e : ∀ m d, m < M → d < 10 → g (10 * m + d) = bq d + h m) (k : Nat) : vcnt g k (10 * M) = wys (i + 1) k := by
  rw [cnt_ten g h k M e, cnt_shift, cnt_shift, cnt_shift, wys]
  simp only [hh]
theorem mny_wys (k : Nat) : mny k 10000 = wys 4 k := by
  rw [mny_cnt]
  have h0 : ∀ k, vcnt (fun _ => 0) k 1 = wys 0 k := fun k => by
    simp only [vcnt, wys, Nat.zero_add, isV]
    by_cases e : k = 0
    · subst e; rfl
    · rw [if_neg e, if_neg (fun h => e h.symm)]
  have h1 : ∀ k, vcnt bq k (10 * 1) = wys 1 k := wys_step h0 fun m d hm hd => by
    obtain rfl : m = 0 := by omega
    rw [Nat.mul_zero, Nat.zero_add, Nat.add_zero]
  have h2 : ∀ k, vcnt (fun m => bq (m % 10) + bq (m / 10)) k (10 * (10 * 1)) = wys 2 k := wys_step h1 fun m d hm hd => by
    show bq ((10 * m + d) % 10) + bq ((10 * m + d) / 10) = _
    rw [show (10 * m + d) % 10 = d by omega, show (10 * m + d) / 10 = m by omega]
  have h3 : ∀ k, vcnt (fun m => bq (m % 10) + bq (m / 10 % 10) + bq (m / 100)) k (10 * (10 * (10 * 1))) = wys 3 k := wys_step h2 fun m d hm hd => by
    show bq ((10 * m + d) % 10) + bq ((10 * m + d) / 10 % 10) + bq ((10 * m + d) / 100) = _
    rw [show (10 * m + d) % 10 = d by omega, show (10 * m + d) / 10 % 10 = m % 10 by omega, show (10 * m + d) / 100 = m / 10 by omega]
    omega
  exact wys_step h3 (fun m d hm hd => by
    show bc (vsg (10 * m + d)) = _
    rw [bc_sg, show (10 * m + d) % 10 = d by omega, show (10 * m + d) / 10 % 10 = m % 10 by omega, show (10 * m + d) / 100 % 10 = m / 10 % 10 by omega, show (10 * m + d) / 1000 = m / 100 by omega]
    omega) k
theorem wys_out (i : Nat) : ∀ k, 3 * i < k → wys i k = 0 := by
  induction i with
  | zero => intro k hk; exact if_neg (by omega)
  | succ i ih =>
    intro k hk
    rw [wys, if_pos (by omega), if_pos (by omega), if_pos (by omega), ih k (by omega), ih (k - 1) (by omega), ih (k - 2) (by omega), ih (k - 3) (by omega)]
/-- what the law has put together when it has gone through a values whole, and b digits' kinds of value a -/
def dgc (b : Nat) : Nat := [1, 5, 3, 1].getD b 0
def atV (x y v : Nat) : Nat := if x = y then v else 0
theorem atV_mul (x y v c : Nat) : atV x y (v * c) = c * atV x y v := by
  unfold atV
  by_cases e : x = y
  · rw [if_pos e, if_pos e, Nat.mul_comm]
  · rw [if_neg e, if_neg e, Nat.mul_zero]
def ltV (i j x a : Nat) : Nat := if j ≤ x ∧ x - j < a then wys i (x - j) else 0
theorem ltV_succ (i j x a : Nat) : ltV i j x (a + 1) = ltV i j x a + atV x (a + j) (wys i a) := by
  unfold ltV atV
  by_cases e : x = a + j
  · subst e
    rw [Nat.add_sub_cancel, if_pos (by omega), if_neg (by omega), if_pos rfl, Nat.zero_add]
  · by_cases g : j ≤ x ∧ x - j < a
    · rw [if_pos g, if_pos (by omega), if_neg e, Nat.add_zero]
    · rw [if_neg g, if_neg (by omega), if_neg e]
def prt (i : Nat) : Nat → Nat → Nat → Nat
  | 0, 0, _ => 0
  | a + 1, 0, x => prt i a 4 x
  | a, b + 1, x => prt i a b x + atV x (a + b) (wys i a * dgc b)
theorem prt_full (i : Nat) : ∀ a x, prt i a 0 x = ltV i 0 x a + 5 * ltV i 1 x a + 3 * ltV i 2 x a + ltV i 3 x a
  | 0, x => by
    have z : ∀ j, ltV i j x 0 = 0 := fun j => if_neg (by omega)
    rw [prt, z, z, z, z]
  | a + 1, x => by
    have s : prt i (a + 1) 0 x = prt i a 0 x + atV x (a + 0) (wys i a * dgc 0) + atV x (a + 1) (wys i a * dgc 1) + atV x (a + 2) (wys i a * dgc 2) + atV x (a + 3) (wys i a * dgc 3) := by
      simp only [prt]
    have d0 : dgc 0 = 1 := rfl
    have d1 : dgc 1 = 5 := rfl
    have d2 : dgc 2 = 3 := rfl
    have d3 : dgc 3 = 1 := rfl
    rw [s, prt_full i a x, atV_mul, atV_mul, atV_mul, atV_mul, d0, d1, d2, d3, ltV_succ, ltV_succ, ltV_succ, ltV_succ]
    omega
theorem prt_done (i x : Nat) : prt i (3 * i + 1) 0 x = wys (i + 1) x := by
  rw [prt_full, wys]
  have cj : ∀ j, ltV i j x (3 * i + 1) = (if j ≤ x then wys i (x - j) else 0) := fun j => by
    unfold ltV
    by_cases h : j ≤ x
    · rw [if_pos h]
      by_cases g : x - j < 3 * i + 1
      · rw [if_pos ⟨h, g⟩]
      · rw [if_neg (fun hh => g hh.2), wys_out i _ (by omega)]
    · rw [if_neg h, if_neg (fun hh => h hh.1)]
  rw [cj 0, cj 1, cj 2, cj 3, if_pos (Nat.zero_le x), Nat.sub_zero]
end Go.Proofs.YtmphfdibijbjeaaDoor
