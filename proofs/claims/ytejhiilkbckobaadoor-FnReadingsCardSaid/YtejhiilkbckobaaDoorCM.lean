/- Chapter 4, plain: clay texts, their numbers, readings; days; places. -/
import Derived.Test.YtejhiilkbckobaaDoorRM
namespace Go.Proofs.YtejhiilkbckobaaDoor
set_option linter.unusedVariables false
set_option maxRecDepth 100000
/-- a digit's text -/
def cdig (d : Nat) : List UInt8 := if d = 0 then [46] else many [60] (d / 10) ++ many [89] (d % 10)
/-- the clay text -/
def clay (n : Nat) : List UInt8 := if _h : n < 60 then cdig n else clay (n / 60) ++ 32 :: cdig (n % 60)
termination_by n
decreasing_by omega
theorem clay_low (n : Nat) (h : n < 60) : clay n = cdig n := by rw [clay, dif_pos h]
theorem clay_high (n : Nat) (h : ¬ n < 60) : clay n = clay (n / 60) ++ 32 :: cdig (n % 60) := by rw [clay, dif_neg h]
/-- what a sign does to a number -/
def cst (n : Nat) (c : UInt8) : Nat := if c = 60 then n + 10 else if c = 89 then n + 1 else if c = 32 then n * 60 else n
def cval (l : List UInt8) : Nat := l.foldl cst 0
theorem cst_le (n : Nat) (c : UInt8) : n ≤ cst n c := by unfold cst; split <;> (try split) <;> (try split) <;> omega
theorem fold_le (l : List UInt8) : ∀ n, n ≤ l.foldl cst n := by
  induction l with
  | nil => exact fun n => Nat.le_refl n
  | cons c r ih => exact fun n => Nat.le_trans (cst_le n c) (ih (cst n c))
theorem cval_prefix (l : List UInt8) (k : Nat) : cval (l.take k) ≤ cval l := by
  have := fold_le (l.drop k) (cval (l.take k))
  unfold cval at *
  rwa [← List.foldl_append, List.take_append_drop] at this
theorem cval_snoc (l : List UInt8) (k : Nat) (h : k < l.length) : cval (l.take (k + 1)) = cst (cval (l.take k)) l[k] := by
  unfold cval
  rw [List.take_succ_eq_append_getElem h, List.foldl_append]; rfl
theorem fold_tens (k : Nat) : ∀ n, (many [60] k : List UInt8).foldl cst n = n + 10 * k := by
  induction k with
  | zero => intro n; rfl
  | succ k ih => intro n; rw [many_succ, List.foldl_append, ih]; show n + 10 + 10 * k = _; omega
theorem fold_ones (k : Nat) : ∀ n, (many [89] k : List UInt8).foldl cst n = n + k := by
  induction k with
  | zero => intro n; rfl
  | succ k ih => intro n; rw [many_succ, List.foldl_append, ih]; show n + 1 + k = _; omega
theorem fold_cdig (d n : Nat) : (cdig d).foldl cst n = n + d := by
  unfold cdig
  split
  · rename_i h; subst h; rfl
  · rw [List.foldl_append, fold_tens, fold_ones]; omega
theorem clay_val (n : Nat) : cval (clay n) = n := by
  induction n using Nat.strongRecOn with
  | ind n ih =>
    by_cases h : n < 60
    · rw [clay_low n h]; unfold cval; rw [fold_cdig]; omega
    · rw [clay_high n h]
      have e := ih (n / 60) (by omega)
      unfold cval at *
      rw [List.foldl_append, e, List.foldl_cons, fold_cdig]
      show n / 60 * 60 + n % 60 = n
      omega
theorem cdig_len (d : Nat) (h : d < 60) : 1 ≤ (cdig d).length ∧ (cdig d).length ≤ 14 := by
  unfold cdig
  split
  · exact ⟨by decide, by decide⟩
  · rw [List.length_append, many_length, many_length]
    simp only [List.length_cons, List.length_nil]
    omega
theorem clay_len (k : Nat) : ∀ n, n < 60 ^ (k + 1) → 1 ≤ (clay n).length ∧ (clay n).length ≤ 14 + 15 * k := by
  induction k with
  | zero =>
    intro n h
    rw [clay_low n (by omega)]
    exact cdig_len n (by omega)
  | succ k ih =>
    intro n h
    by_cases hn : n < 60
    · rw [clay_low n hn]
      have := cdig_len n hn
      omega
    · rw [clay_high n hn]
      have h1 := ih (n / 60) (by rw [Nat.pow_succ] at h; omega)
      have h2 := cdig_len (n % 60) (by omega)
      simp only [List.length_append, List.length_cons]
      omega
theorem clay_short (n : Nat) (h : n < 12960000) : 1 ≤ (clay n).length ∧ (clay n).length ≤ 59 := clay_len 3 n (by omega)
/-- is it a clay text? -/
def isC (l : List UInt8) : Bool := decide (cval l ≤ 12959999) && decide (clay (cval l) = l)
theorem isC_of (l : List UInt8) (h : isC l = true) : cval l ≤ 12959999 ∧ clay (cval l) = l := by
  unfold isC at h; rw [Bool.and_eq_true, decide_eq_true_eq, decide_eq_true_eq] at h; exact h
theorem isC_clay (n : Nat) (h : n ≤ 12959999) : isC (clay n) = true := by
  unfold isC; rw [clay_val]; simp; exact h
/-- days: their digits -/
theorem days_back (n : Int) (h0 : 0 ≤ n) (h1 : n ≤ 2879999) : 144000 * (n / 144000) + 7200 * (n / 7200 % 20) + 360 * (n / 360 % 20) + 20 * (n / 20 % 18) + n % 20 = n := by omega
theorem days_of (a b c d e : Int) (ha : 0 ≤ a ∧ a ≤ 19) (hb : 0 ≤ b ∧ b ≤ 19) (hc : 0 ≤ c ∧ c ≤ 19) (hd : 0 ≤ d ∧ d ≤ 17) (he : 0 ≤ e ∧ e ≤ 19) :
    let n := 144000 * a + 7200 * b + 360 * c + 20 * d + e
    0 ≤ n ∧ n ≤ 2879999 ∧ n / 144000 = a ∧ n / 7200 % 20 = b ∧ n / 360 % 20 = c ∧ n / 20 % 18 = d ∧ n % 20 = e := by
  intro n
  refine ⟨by omega, by omega, by omega, by omega, by omega, by omega, by omega⟩
/-- places: the product of the first k -/
def prd (p : Nat → Int) : Nat → Int
  | 0 => 1
  | k + 1 => prd p k * p k
/-- the number of the first k digits -/
def dnum (p d : Nat → Int) : Nat → Int
  | 0 => 0
  | k + 1 => dnum p d k * p k + d k
/-- what is left of N when j digits are taken from the end of n places -/
def lft (p : Nat → Int) (n : Nat) (N : Int) : Nat → Int
  | 0 => N
  | j + 1 => lft p n N j / p (n - 1 - j)
/-- the digit at place k -/
def pdg (p : Nat → Int) (n : Nat) (N : Int) (k : Nat) : Int := lft p n N (n - 1 - k) % p k
theorem prd_pos (p : Nat → Int) (n : Nat) (h : ∀ k, k < n → 2 ≤ p k) : ∀ k, k ≤ n → 1 ≤ prd p k := by
  intro k
  induction k with
  | zero => intro _; exact Int.le_refl 1
  | succ k ih =>
    intro hk
    have h1 := ih (by omega); have h2 := h k (by omega)
    simp only [prd]
    have := Int.mul_le_mul h1 (show (1 : Int) ≤ p k by omega) (by omega) (by omega)
    omega
theorem prd_bound (p : Nat → Int) (n : Nat) (h : ∀ k, k < n → 2 ≤ p k ∧ p k ≤ 100) : ∀ k, k ≤ n → prd p k ≤ 100 ^ k := by
  intro k
  induction k with
  | zero => intro _; exact Int.le_refl 1
  | succ k ih =>
    intro hk
    have h0 := prd_pos p n (fun k hk => (h k hk).1) k (by omega)
    have h1 := ih (by omega); have h2 := h k (by omega)
    simp only [prd]
    have := Int.mul_le_mul h1 h2.2 (by omega) (by omega)
    rw [Int.pow_succ]
    exact this
theorem lft_lt (p : Nat → Int) (n : Nat) (N : Int) (h : ∀ k, k < n → 2 ≤ p k) (h0 : 0 ≤ N) (h1 : N < prd p n) : ∀ j, j ≤ n → 0 ≤ lft p n N j ∧ lft p n N j < prd p (n - j) := by
  intro j
  induction j with
  | zero => intro _; exact ⟨h0, h1⟩
  | succ j ih =>
    intro hj
    obtain ⟨a, b⟩ := ih (by omega)
    have hp := h (n - 1 - j) (by omega)
    simp only [lft]
    refine ⟨Int.ediv_nonneg a (by omega), ?_⟩
    rw [show n - j = (n - (j + 1)) + 1 by omega] at b
    simp only [prd] at b
    rw [show n - (j + 1) = n - 1 - j by omega] at b ⊢
    exact Int.ediv_lt_of_lt_mul (by omega) b
theorem lft_zero (p : Nat → Int) (n : Nat) (N : Int) (h : ∀ k, k < n → 2 ≤ p k) (h0 : 0 ≤ N) (h1 : N < prd p n) : lft p n N n = 0 := by
  obtain ⟨a, b⟩ := lft_lt p n N h h0 h1 n (Nat.le_refl n)
  rw [Nat.sub_self] at b
  simp only [prd] at b
  omega
theorem pdg_bd (p : Nat → Int) (n : Nat) (N : Int) (k : Nat) (h : 2 ≤ p k) : 0 ≤ pdg p n N k ∧ pdg p n N k < p k :=
  ⟨Int.emod_nonneg _ (by omega), Int.emod_lt_of_pos _ (by omega)⟩
/-- digits lead back -/
theorem pdg_num (p : Nat → Int) (n : Nat) (N : Int) (h : ∀ k, k < n → 2 ≤ p k) (h0 : 0 ≤ N) (h1 : N < prd p n) : ∀ k, k ≤ n → dnum p (pdg p n N) k = lft p n N (n - k) := by
  intro k
  induction k with
  | zero => intro _; rw [Nat.sub_zero, lft_zero p n N h h0 h1]; rfl
  | succ k ih =>
    intro hk
    have e := ih (by omega)
    simp only [dnum, pdg]
    rw [e, show n - k = (n - 1 - k) + 1 by omega, show n - (k + 1) = n - 1 - k by omega]
    simp only [lft]
    rw [show n - 1 - (n - 1 - k) = k by omega]
    have := Int.mul_ediv_add_emod (lft p n N (n - 1 - k)) (p k)
    rw [Int.mul_comm] at this
    exact this
theorem dnum_congr (p d e : Nat → Int) : ∀ n, (∀ k, k < n → d k = e k) → dnum p d n = dnum p e n
  | 0, _ => rfl
  | n + 1, h => by simp only [dnum]; rw [dnum_congr p d e n (fun k hk => h k (by omega)), h n (by omega)]
theorem dnum_lt (p d : Nat → Int) (n : Nat) (h : ∀ k, k < n → 2 ≤ p k) (hd : ∀ k, k < n → 0 ≤ d k ∧ d k < p k) : ∀ k, k ≤ n → 0 ≤ dnum p d k ∧ dnum p d k < prd p k := by
  intro k
  induction k with
  | zero => intro _; exact ⟨Int.le_refl 0, by simp [dnum, prd]⟩
  | succ k ih =>
    intro hk
    obtain ⟨a, b⟩ := ih (by omega)
    have hp := h k (by omega); have hdk := hd k (by omega)
    simp only [dnum, prd]
    have m1 := Int.mul_nonneg a (show 0 ≤ p k by omega)
    have m2 := Int.mul_le_mul_of_nonneg_right (show dnum p d k + 1 ≤ prd p k by omega) (show 0 ≤ p k by omega)
    rw [Int.add_mul] at m2
    omega
/-- numbers lead back to digits -/
theorem num_lft (p d : Nat → Int) (n : Nat) (h : ∀ k, k < n → 2 ≤ p k) (hd : ∀ k, k < n → 0 ≤ d k ∧ d k < p k) : ∀ j, j ≤ n → lft p n (dnum p d n) j = dnum p d (n - j) := by
  intro j
  induction j with
  | zero => intro _; rfl
  | succ j ih =>
    intro hj
    simp only [lft]
    rw [ih (by omega), show n - j = (n - 1 - j) + 1 by omega, show n - (j + 1) = n - 1 - j by omega]
    simp only [dnum]
    have hp := h (n - 1 - j) (by omega); have hdk := hd (n - 1 - j) (by omega)
    rw [Int.add_comm, Int.add_mul_ediv_right _ _ (by omega), Int.ediv_eq_zero_of_lt hdk.1 hdk.2]
    omega
theorem num_pdg (p d : Nat → Int) (n : Nat) (h : ∀ k, k < n → 2 ≤ p k) (hd : ∀ k, k < n → 0 ≤ d k ∧ d k < p k) (k : Nat) (hk : k < n) : pdg p n (dnum p d n) k = d k := by
  unfold pdg
  rw [num_lft p d n h hd (n - 1 - k) (by omega), show n - (n - 1 - k) = k + 1 by omega]
  simp only [dnum]
  have hdk := hd k hk
  rw [Int.add_comm, Int.add_mul_emod_self_right]
  exact Int.emod_eq_of_lt hdk.1 hdk.2
end Go.Proofs.YtejhiilkbckobaaDoor
