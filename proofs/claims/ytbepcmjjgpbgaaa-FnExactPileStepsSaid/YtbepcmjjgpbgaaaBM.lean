/- Piles of signs, plain: values, plain piles, carries, sizes. No program. -/
namespace Go.Proofs.Ytbepcmjjgpbgaaa
set_option linter.unusedVariables false
set_option maxRecDepth 100000
/-- f 0 + .. + f (k - 1) -/
def sumF (f : Nat → Int) : Nat → Int
  | 0 => 0
  | k + 1 => sumF f k + f k
theorem sumF_congr {f g : Nat → Int} : ∀ (k : Nat), (∀ j, j < k → f j = g j) → sumF f k = sumF g k
  | 0, _ => rfl
  | k + 1, h => by unfold sumF; rw [sumF_congr k (fun j hj => h j (by omega)), h k (by omega)]
theorem sumF_add (f g : Nat → Int) : ∀ k, sumF (fun j => f j + g j) k = sumF f k + sumF g k
  | 0 => rfl
  | k + 1 => by have := sumF_add f g k; simp only [sumF]; omega
theorem sumF_nonneg {f : Nat → Int} : ∀ (k : Nat), (∀ j, j < k → 0 ≤ f j) → 0 ≤ sumF f k
  | 0, _ => Int.le_refl _
  | k + 1, h => by have := sumF_nonneg k (fun j hj => h j (by omega)); have := h k (by omega); simp only [sumF]; omega
theorem sumF_le {f g : Nat → Int} : ∀ (k : Nat), (∀ j, j < k → f j ≤ g j) → sumF f k ≤ sumF g k
  | 0, _ => Int.le_refl _
  | k + 1, h => by have := sumF_le k (fun j hj => h j (by omega)); have := h k (by omega); simp only [sumF]; omega
theorem sumF_mono {f : Nat → Int} {k n : Nat} (h : ∀ j, j < n → 0 ≤ f j) (hk : k ≤ n) : sumF f k ≤ sumF f n := by
  induction n with
  | zero => obtain rfl : k = 0 := by omega
            exact Int.le_refl _
  | succ n ih =>
    by_cases e : k = n + 1
    · subst e; exact Int.le_refl _
    · have := ih (fun j hj => h j (by omega)) (by omega); have := h n (by omega); simp only [sumF]; omega
theorem sumF_zero {f : Nat → Int} : ∀ (k : Nat), (∀ j, j < k → 0 ≤ f j) → sumF f k = 0 → ∀ j, j < k → f j = 0
  | 0, _, _, j, hj => by omega
  | k + 1, h, h0, j, hj => by
    have h1 := sumF_nonneg k (fun j hj => h j (by omega))
    have h2 := h k (by omega)
    simp only [sumF] at h0
    by_cases e : j = k
    · subst e; omega
    · exact sumF_zero k (fun j hj => h j (by omega)) (by omega) j (by omega)
theorem sumF_none {f : Nat → Int} : ∀ (k : Nat), (∀ j, j < k → f j = 0) → sumF f k = 0
  | 0, _ => rfl
  | k + 1, h => by have := sumF_none k (fun j hj => h j (by omega)); have := h k (by omega); simp only [sumF]; omega

/-- a system of n values -/
structure SysF (v : Nat → Int) (n : Nat) : Prop where
  len : 1 ≤ n
  one : v 0 = 1
  pos : ∀ j, j < n → 1 ≤ v j
  step : ∀ j, j + 1 < n → v j < v (j + 1) ∧ v (j + 1) % v j = 0
/-- as many of value j as make one of the next one -/
def rat (v : Nat → Int) (j : Nat) : Int := v (j + 1) / v j
theorem SysF.rat_eq {v : Nat → Int} {n j : Nat} (h : SysF v n) (hj : j + 1 < n) : v (j + 1) = v j * rat v j := by
  have := Int.mul_ediv_add_emod (v (j + 1)) (v j)
  have := (h.step j hj).2
  unfold rat
  omega
theorem SysF.rat_two {v : Nat → Int} {n j : Nat} (h : SysF v n) (hj : j + 1 < n) : 2 ≤ rat v j := by
  have h1 := h.rat_eq hj
  have h2 := (h.step j hj).1
  have h3 := h.pos j (by omega)
  by_cases h4 : rat v j ≤ 1
  · have := Int.mul_le_mul_of_nonneg_left h4 (by omega : 0 ≤ v j)
    omega
  · omega
theorem SysF.dvd {v : Nat → Int} {n : Nat} (h : SysF v n) {i : Nat} : ∀ {j : Nat}, i ≤ j → j < n → v i ∣ v j
  | 0, hi, _ => by obtain rfl : i = 0 := by omega
                   exact Int.dvd_refl _
  | j + 1, hi, hj => by
    by_cases e : i = j + 1
    · subst e; exact Int.dvd_refl _
    · exact Int.dvd_trans (h.dvd (by omega : i ≤ j) (by omega)) (Int.dvd_of_emod_eq_zero (h.step j hj).2)
/-- the value of a pile's first k numbers -/
def val (v p : Nat → Int) (k : Nat) : Int := sumF (fun j => v j * p j) k
theorem val_add (v p q : Nat → Int) (k : Nat) : val v (fun j => p j + q j) k = val v p k + val v q k := by
  unfold val
  rw [← sumF_add]
  exact sumF_congr k fun j _ => Int.mul_add _ _ _
/-- what is left of a number for the values ahead of j -/
def rest (v : Nat → Int) (n : Nat) (N : Int) (j : Nat) : Int := if j < n then N % v j else N
/-- the plain pile -/
def pl (v : Nat → Int) (n : Nat) (N : Int) (j : Nat) : Int := rest v n N (j + 1) / v j
theorem rest_step {v : Nat → Int} {n : Nat} (h : SysF v n) (N : Int) (j : Nat) (hj : j < n) : rest v n N j = rest v n N (j + 1) % v j := by
  unfold rest
  rw [if_pos hj]
  by_cases h1 : j + 1 < n
  · rw [if_pos h1, Int.emod_emod_of_dvd N (h.dvd (by omega) h1)]
  · rw [if_neg h1]
theorem rest_nonneg {v : Nat → Int} {n : Nat} (h : SysF v n) (N : Int) (h0 : 0 ≤ N) (j : Nat) : 0 ≤ rest v n N j := by
  unfold rest
  split
  · rename_i hj; have := h.pos j hj; exact Int.emod_nonneg _ (by omega)
  · exact h0
theorem rest_le {v : Nat → Int} {n : Nat} (h : SysF v n) (N : Int) (h0 : 0 ≤ N) (j : Nat) : rest v n N j ≤ N := by
  unfold rest
  split
  · rename_i hj
    have := h.pos j hj
    have h1 := Int.mul_ediv_add_emod N (v j)
    have h2 : 0 ≤ v j * (N / v j) := Int.mul_nonneg (by omega) (Int.ediv_nonneg h0 (by omega))
    omega
  · exact Int.le_refl _
theorem pl_nonneg {v : Nat → Int} {n : Nat} (h : SysF v n) (N : Int) (h0 : 0 ≤ N) (j : Nat) (hj : j < n) : 0 ≤ pl v n N j :=
  Int.ediv_nonneg (rest_nonneg h N h0 _) (by have := h.pos j hj; omega)
theorem pl_le {v : Nat → Int} {n : Nat} (h : SysF v n) (N : Int) (h0 : 0 ≤ N) (j : Nat) (hj : j < n) : pl v n N j ≤ N :=
  Int.le_trans (Int.ediv_le_self _ (rest_nonneg h N h0 _)) (rest_le h N h0 _)
/-- a pile is plain -/
def Plain (v p : Nat → Int) (n : Nat) : Prop := ∀ j, j + 1 < n → p j < rat v j
theorem pl_plain {v : Nat → Int} {n : Nat} (h : SysF v n) (N : Int) : Plain v (pl v n N) n := by
  intro j hj
  have h1 := h.pos j (by omega)
  have h2 := h.pos (j + 1) hj
  unfold pl rest
  rw [if_pos hj]
  have h3 := h.rat_eq hj
  have h4 := Int.emod_lt_of_pos N (by omega : 0 < v (j + 1))
  refine Int.ediv_lt_of_lt_mul (by omega) ?_
  rw [Int.mul_comm]
  omega
theorem pl_val {v : Nat → Int} {n : Nat} (h : SysF v n) (N : Int) : ∀ k, k ≤ n → val v (pl v n N) k = rest v n N k
  | 0, _ => by
    have := h.len
    unfold rest
    rw [if_pos (by omega), h.one, Int.emod_one]
    rfl
  | k + 1, hk => by
    have ih := pl_val h N k (by omega)
    have h1 := rest_step h N k (by omega)
    have h2 := Int.mul_ediv_add_emod (rest v n N (k + 1)) (v k)
    unfold val at ih ⊢
    simp only [sumF]
    rw [ih, h1]
    show _ + v k * (rest v n N (k + 1) / v k) = _
    omega
theorem pl_value {v : Nat → Int} {n : Nat} (h : SysF v n) (N : Int) : val v (pl v n N) n = N := by
  rw [pl_val h N n (Nat.le_refl _)]
  unfold rest
  rw [if_neg (by omega)]
/-- what a plain pile's first numbers tell is less than the next value -/
theorem plain_lt {v p : Nat → Int} {n : Nat} (h : SysF v n) (h0 : ∀ j, j < n → 0 ≤ p j) (hp : Plain v p n) : ∀ k, k < n → 0 ≤ val v p k ∧ val v p k < v k
  | 0, _ => by have := h.one; unfold val sumF; omega
  | k + 1, hk => by
    obtain ⟨a, b⟩ := plain_lt h h0 hp k (by omega)
    have h1 := h.rat_eq hk
    have h2 := hp k hk
    have h3 := h0 k (by omega)
    have h4 := h.pos k (by omega)
    have h5 : 0 ≤ v k * p k := Int.mul_nonneg (by omega) h3
    have h6 : v k * (p k + 1) ≤ v k * rat v k := Int.mul_le_mul_of_nonneg_left (by omega) (by omega)
    rw [Int.mul_add, Int.mul_one] at h6
    unfold val at a b ⊢
    simp only [sumF]
    omega
/-- the whole value is what the first numbers tell, and a multiple of the next value -/
theorem val_split {v p : Nat → Int} {n : Nat} (h : SysF v n) (k : Nat) (hk : k < n) : ∀ m, k ≤ m → m ≤ n → ∃ c, val v p m = val v p k + v k * c := by
  intro m hkm
  induction m with
  | zero => intro _; obtain rfl : k = 0 := by omega
            exact ⟨0, by simp⟩
  | succ m ih =>
    intro hm
    by_cases e : k = m + 1
    · subst e; exact ⟨0, by simp⟩
    · obtain ⟨c, hc⟩ := ih (by omega) (by omega)
      obtain ⟨d, hd⟩ := h.dvd (show k ≤ m by omega) (by omega)
      refine ⟨c + d * p m, ?_⟩
      show sumF _ m + v m * p m = _
      have hc' : sumF (fun j => v j * p j) m = val v p k + v k * c := hc
      rw [hc', hd, Int.mul_add, Int.mul_assoc, Int.add_assoc]
/-- there is one plain pile for each number -/
theorem plain_unique {v p : Nat → Int} {n : Nat} (h : SysF v n) (h0 : ∀ j, j < n → 0 ≤ p j) (hp : Plain v p n) (k : Nat) (hk : k < n) : p k = pl v n (val v p n) k := by
  have hr : rest v n (val v p n) (k + 1) = val v p (k + 1) := by
    unfold rest
    by_cases e : k + 1 < n
    · rw [if_pos e]
      obtain ⟨c, hc⟩ := val_split (p := p) h (k + 1) e n (by omega) (Nat.le_refl _)
      have h1 := plain_lt h h0 hp (k + 1) e
      rw [hc, Int.add_mul_emod_self_left]
      exact Int.emod_eq_of_lt h1.1 h1.2
    · rw [if_neg e, show k + 1 = n by omega]
  have h1 := plain_lt h h0 hp k hk
  have h2 := h.pos k hk
  unfold pl
  rw [hr]
  show _ = (sumF (fun j => v j * p j) k + v k * p k) / v k
  rw [Int.add_mul_ediv_left _ _ (by omega : v k ≠ 0)]
  have h3 : sumF (fun j => v j * p j) k / v k = 0 := Int.ediv_eq_zero_of_lt h1.1 h1.2
  omega
/-- how many are exchanged for value j -/
def car (v p : Nat → Int) : Nat → Int
  | 0 => 0
  | j + 1 => (p j + car v p j) / rat v j
/-- the pile when all is exchanged -/
def exq (v p : Nat → Int) (n j : Nat) : Int := if j + 1 < n then (p j + car v p j) % rat v j else p j + car v p j
/-- how many exchanges for the first values -/
def stp (v p : Nat → Int) (k : Nat) : Int := sumF (fun j => car v p (j + 1)) k
theorem car_nonneg {v p : Nat → Int} {n : Nat} (h : SysF v n) (h0 : ∀ j, j < n → 0 ≤ p j) : ∀ j, j < n → 0 ≤ car v p j
  | 0, _ => Int.le_refl _
  | j + 1, hj => by
    have := car_nonneg h h0 j (by omega)
    have := h.rat_two hj
    have := h0 j (by omega)
    exact Int.ediv_nonneg (by omega) (by omega)
theorem car_le {v p : Nat → Int} {n : Nat} {M : Int} (h : SysF v n) (h0 : ∀ j, j < n → 0 ≤ p j) (h1 : ∀ j, j < n → p j ≤ M) (hM : 0 ≤ M) : ∀ j, j < n → car v p j ≤ M
  | 0, _ => hM
  | j + 1, hj => by
    have a := car_le h h0 h1 hM j (by omega)
    have b := h.rat_two hj
    have c := h1 j (by omega)
    have d := h0 j (by omega)
    have e := car_nonneg h h0 j (by omega)
    refine Int.ediv_le_of_le_mul (by omega) ?_
    have : M * 2 ≤ M * rat v j := Int.mul_le_mul_of_nonneg_left b hM
    omega
theorem exq_nonneg {v p : Nat → Int} {n : Nat} (h : SysF v n) (h0 : ∀ j, j < n → 0 ≤ p j) (j : Nat) (hj : j < n) : 0 ≤ exq v p n j := by
  unfold exq
  split
  · rename_i e; have := h.rat_two e; exact Int.emod_nonneg _ (by omega)
  · have := car_nonneg h h0 j hj; have := h0 j hj; omega
theorem exq_plain {v p : Nat → Int} {n : Nat} (h : SysF v n) : Plain v (exq v p n) n := by
  intro j hj
  unfold exq
  rw [if_pos hj]
  have := h.rat_two hj
  exact Int.emod_lt_of_pos _ (by omega)
theorem exq_step {v p : Nat → Int} {n : Nat} (j : Nat) (hj : j + 1 < n) : p j + car v p j = rat v j * car v p (j + 1) + exq v p n j := by
  unfold exq
  rw [if_pos hj]
  show _ = rat v j * ((p j + car v p j) / rat v j) + _
  have := Int.mul_ediv_add_emod (p j + car v p j) (rat v j)
  omega
theorem exq_val {v p : Nat → Int} {n : Nat} (h : SysF v n) : ∀ k, k < n → val v p k = val v (exq v p n) k + v k * car v p k
  | 0, _ => by simp [val, sumF, car]
  | k + 1, hk => by
    have ih := exq_val (p := p) h k (by omega)
    have h1 := exq_step (p := p) (v := v) k hk
    have h2 := h.rat_eq hk
    have h3 : v k * (p k + car v p k) = v k * rat v k * car v p (k + 1) + v k * exq v p n k := by rw [h1, Int.mul_add, Int.mul_assoc]
    rw [← h2, Int.mul_add] at h3
    unfold val at ih ⊢
    simp only [sumF]
    omega
theorem exq_value {v p : Nat → Int} {n : Nat} (h : SysF v n) : val v (exq v p n) n = val v p n := by
  obtain ⟨m, rfl⟩ : ∃ m, n = m + 1 := ⟨n - 1, by have := h.len; omega⟩
  have h1 := exq_val (p := p) h m (by omega)
  have h2 : exq v p (m + 1) m = p m + car v p m := by unfold exq; rw [if_neg (by omega)]
  have h3 : v m * exq v p (m + 1) m = v m * p m + v m * car v p m := by rw [h2, Int.mul_add]
  unfold val at h1 ⊢
  simp only [sumF]
  omega
theorem exq_pl {v p : Nat → Int} {n : Nat} (h : SysF v n) (h0 : ∀ j, j < n → 0 ≤ p j) (k : Nat) (hk : k < n) : exq v p n k = pl v n (val v p n) k := by
  rw [plain_unique h (exq_nonneg h h0) (exq_plain h) k hk, exq_value h]
theorem stp_nonneg {v p : Nat → Int} {n : Nat} (h : SysF v n) (h0 : ∀ j, j < n → 0 ≤ p j) (k : Nat) (hk : k < n) : 0 ≤ stp v p k :=
  sumF_nonneg k fun j hj => car_nonneg h h0 (j + 1) (by omega)
theorem size_step {v p : Nat → Int} {n : Nat} (h : SysF v n) (h0 : ∀ j, j < n → 0 ≤ p j) : ∀ k, k < n → sumF (exq v p n) k + car v p k + stp v p k ≤ sumF p k
  | 0, _ => by simp [sumF, car, stp]
  | k + 1, hk => by
    have ih := size_step h h0 k (by omega)
    have h1 := exq_step (p := p) (v := v) k hk
    have h2 := h.rat_two hk
    have h3 := car_nonneg h h0 (k + 1) hk
    have h4 : car v p (k + 1) * 2 ≤ car v p (k + 1) * rat v k := Int.mul_le_mul_of_nonneg_left h2 h3
    rw [Int.mul_comm (car v p (k + 1)) (rat v k)] at h4
    unfold stp at ih ⊢
    simp only [sumF]
    omega
/-- exchanges save signs: at least one each -/
theorem size_saved {v p : Nat → Int} {n : Nat} (h : SysF v n) (h0 : ∀ j, j < n → 0 ≤ p j) : sumF (pl v n (val v p n)) n + stp v p (n - 1) ≤ sumF p n := by
  rw [← sumF_congr n fun j hj => exq_pl h h0 j hj]
  obtain ⟨m, rfl⟩ : ∃ m, n = m + 1 := ⟨n - 1, by have := h.len; omega⟩
  have h1 := size_step h h0 m (by omega)
  have h2 : exq v p (m + 1) m = p m + car v p m := by unfold exq; rw [if_neg (by omega)]
  rw [Nat.add_sub_cancel]
  simp only [sumF]
  omega
theorem size_plain {v p : Nat → Int} {n : Nat} (h : SysF v n) (h0 : ∀ j, j < n → 0 ≤ p j) : sumF (pl v n (val v p n)) n ≤ sumF p n := by
  have := size_saved h h0
  have := stp_nonneg h h0 (n - 1) (by have := h.len; omega)
  omega
theorem plain_car {v p : Nat → Int} {n : Nat} (h : SysF v n) (h0 : ∀ j, j < n → 0 ≤ p j) (hp : Plain v p n) : ∀ j, j < n → car v p j = 0
  | 0, _ => rfl
  | j + 1, hj => by
    have ih := plain_car h h0 hp j (by omega)
    have h1 := hp j hj
    have h2 := h0 j (by omega)
    show (p j + car v p j) / rat v j = 0
    rw [ih, Int.add_zero]
    exact Int.ediv_eq_zero_of_lt h2 h1
theorem stp_plain {v p : Nat → Int} {n : Nat} (h : SysF v n) (h0 : ∀ j, j < n → 0 ≤ p j) : stp v p (n - 1) = 0 ↔ Plain v p n := by
  have hn := h.len
  constructor
  · intro hz j hj
    have hc := sumF_zero (n - 1) (fun j hj => car_nonneg h h0 (j + 1) (by omega)) hz
    have h1 : (p j + car v p j) / rat v j = 0 := hc j (by omega)
    have h2 := h.rat_two hj
    have h3 := car_nonneg h h0 j (by omega)
    have h4 := h0 j (by omega)
    have h5 := Int.lt_ediv_add_one_mul_self (p j + car v p j) (by omega : 0 < rat v j)
    rw [h1] at h5
    omega
  · intro hp
    exact sumF_none (n - 1) fun j hj => plain_car h h0 hp (j + 1) (by omega)
theorem exq_plain_eq {v p : Nat → Int} {n : Nat} (h : SysF v n) (h0 : ∀ j, j < n → 0 ≤ p j) : (∀ j, j < n → p j = exq v p n j) ↔ Plain v p n := by
  constructor
  · intro he j hj
    rw [he j (by omega)]
    exact exq_plain h j hj
  · intro hp j hj
    rw [plain_unique h h0 hp j hj, ← exq_pl h h0 j hj]
/-- one sign of value i -/
def unit (i j : Nat) : Int := if j = i then 1 else 0
theorem unit_sum (f : Nat → Int) (i : Nat) : ∀ k, sumF (fun j => f j * unit i j) k = if i < k then f i else 0
  | 0 => rfl
  | k + 1 => by
    have ih := unit_sum f i k
    simp only [sumF]
    rw [ih]
    unfold unit
    by_cases e : k = i
    · subst e; simp
    · rw [if_neg e]
      by_cases h : i < k
      · rw [if_pos h, if_pos (by omega)]; simp
      · rw [if_neg h, if_neg (by omega)]; simp
theorem unit_pl {v : Nat → Int} {n : Nat} (h : SysF v n) (i : Nat) (hi : i < n) (j : Nat) (hj : j < n) : pl v n (v i) j = unit i j := by
  have h1 : val v (unit i) n = v i := by unfold val; rw [unit_sum, if_pos hi]
  have h2 := plain_unique (p := unit i) h (fun j _ => by unfold unit; split <;> omega) (fun j hj => by have := h.rat_two hj; unfold unit; split <;> omega) j hj
  rw [h1] at h2
  exact h2.symm
theorem unit_size (i n : Nat) (hi : i < n) : sumF (unit i) n = 1 := by
  have := unit_sum (fun _ => 1) i n
  rw [if_pos hi] at this
  rw [← this]
  exact sumF_congr n fun j _ => by simp
theorem zero_pl {v : Nat → Int} {n : Nat} (h : SysF v n) (j : Nat) (hj : j < n) : pl v n 0 j = 0 := by
  have h1 := pl_nonneg h 0 (Int.le_refl _) j hj
  have h2 := pl_le h 0 (Int.le_refl _) j hj
  omega
/-- sizes are at most values -/
theorem size_val {v p : Nat → Int} {n : Nat} (h : SysF v n) (h0 : ∀ j, j < n → 0 ≤ p j) : sumF p n ≤ val v p n :=
  sumF_le n fun j hj => by
    have h1 := h.pos j hj
    have := Int.mul_le_mul_of_nonneg_right h1 (h0 j hj)
    omega
theorem size_zero {v p : Nat → Int} {n : Nat} (h : SysF v n) (h0 : ∀ j, j < n → 0 ≤ p j) : sumF p n = 0 ↔ val v p n = 0 := by
  constructor
  · intro hz
    exact sumF_none n fun j hj => by show v j * p j = 0; rw [sumF_zero n h0 hz j hj, Int.mul_zero]
  · intro hz
    have := size_val h h0
    have := sumF_nonneg n h0
    omega
theorem val_le {v p : Nat → Int} {n : Nat} {V M : Int} (h0 : ∀ j, j < n → 0 ≤ p j) (h1 : ∀ j, j < n → p j ≤ M) (g0 : ∀ j, j < n → 0 ≤ v j) (g1 : ∀ j, j < n → v j ≤ V) (hV : 0 ≤ V) : ∀ k, k ≤ n → val v p k ≤ k * (V * M)
  | 0, _ => by simp [val, sumF]
  | k + 1, hk => by
    have ih := val_le h0 h1 g0 g1 hV k (by omega)
    have a : v k * p k ≤ V * M := Int.le_trans (Int.mul_le_mul_of_nonneg_right (g1 k (by omega)) (h0 k (by omega))) (Int.mul_le_mul_of_nonneg_left (h1 k (by omega)) hV)
    unfold val at ih ⊢
    simp only [sumF]
    have : ((k + 1 : Nat) : Int) * (V * M) = k * (V * M) + V * M := by rw [Int.natCast_add, Int.add_mul]; simp
    omega
end Go.Proofs.Ytbepcmjjgpbgaaa
