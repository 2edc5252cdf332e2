/- Several texts of mine, one after another: BM, BS, UB, UC, YB, RIp, RIj, RIo, RSo, AL, AW, AI, AO, AR, AS, CR, CS, YC, YE, VR, YN. -/
import Derived.Test.YthbdnmnhoifnoaaGreatDoorMg2
import Derived.Test.YthbdnmnhoifnoaaGreatDoorMg1
import Derived.Laws.BytesArg
import Derived.Deep.RegionLaw
import Derived.IntWalk
import Derived.Test.YthbdnmnhoifnoaaGreatDoorRows
import Derived.BigQuiet
import Derived.Deep.QuietTactic
import Derived.ProofKit
import Derived.LaidMore
import Derived.OpenShut
import Derived.Stop.Joined
import Derived.MakeChecks
import Derived.WalkSmall
import Derived.ChangeVars
import Derived.Below
import Derived.Lib.Strings
import Derived.Lib.Bytealg
import Derived.StillTailTactics
import Derived.Outline
import Derived.Lib.Hide
/- Piles of signs, plain: values, plain piles, carries, sizes. No program. -/
namespace Go.Proofs.YthbdnmnhoifnoaaGreatDoor
set_option linter.unusedVariables false
set_option maxRecDepth 100000
/-- f 0 + .. + f (k - 1) -/
def sumF (f : Nat → Int) : Nat → Int
  | 0 => 0
  | k + 1 => sumF f k + f k
theorem sumF_congr {f g : Nat → Int} : ∀ (k : Nat), (∀ j, j < k → f j = g j) → sumF f k = sumF g k
  | 0, _ => rfl
  | k + 1, h => by unfold sumF; rw [sumF_congr k (fun j hj => h j (by omega)), h k (by omega)]
theorem sumF_add (f g : Nat → Int) : ∀ k, sumF (fun j => f j + g j) k = sumF f k + sumF g k
  | 0 => rfl
  | k + 1 => by have := sumF_add f g k; simp only [sumF]; omega
theorem sumF_nonneg {f : Nat → Int} : ∀ (k : Nat), (∀ j, j < k → 0 ≤ f j) → 0 ≤ sumF f k
  | 0, _ => Int.le_refl _
  | k + 1, h => by have := sumF_nonneg k (fun j hj => h j (by omega)); have := h k (by omega); simp only [sumF]; omega
theorem sumF_le {f g : Nat → Int} : ∀ (k : Nat), (∀ j, j < k → f j ≤ g j) → sumF f k ≤ sumF g k
  | 0, _ => Int.le_refl _
  | k + 1, h => by have := sumF_le k (fun j hj => h j (by omega)); have := h k (by omega); simp only [sumF]; omega
theorem sumF_mono {f : Nat → Int} {k n : Nat} (h : ∀ j, j < n → 0 ≤ f j) (hk : k ≤ n) : sumF f k ≤ sumF f n := by
  induction n with
  | zero => obtain rfl : k = 0 := by omega
            exact Int.le_refl _
  | succ n ih =>
    by_cases e : k = n + 1
    · subst e; exact Int.le_refl _
    · have := ih (fun j hj => h j (by omega)) (by omega); have := h n (by omega); simp only [sumF]; omega
theorem sumF_zero {f : Nat → Int} : ∀ (k : Nat), (∀ j, j < k → 0 ≤ f j) → sumF f k = 0 → ∀ j, j < k → f j = 0
  | 0, _, _, j, hj => by omega
  | k + 1, h, h0, j, hj => by
    have h1 := sumF_nonneg k (fun j hj => h j (by omega))
    have h2 := h k (by omega)
    simp only [sumF] at h0
    by_cases e : j = k
    · subst e; omega
    · exact sumF_zero k (fun j hj => h j (by omega)) (by omega) j (by omega)
theorem sumF_none {f : Nat → Int} : ∀ (k : Nat), (∀ j, j < k → f j = 0) → sumF f k = 0
  | 0, _ => rfl
  | k + 1, h => by have := sumF_none k (fun j hj => h j (by omega)); have := h k (by omega); simp only [sumF]; omega

/-- a system of n values -/
structure SysF (v : Nat → Int) (n : Nat) : Prop where
  len : 1 ≤ n
  one : v 0 = 1
  pos : ∀ j, j < n → 1 ≤ v j
  step : ∀ j, j + 1 < n → v j < v (j + 1) ∧ v (j + 1) % v j = 0
/-- as many of value j as make one of the next one -/
def rat (v : Nat → Int) (j : Nat) : Int := v (j + 1) / v j
theorem SysF.rat_eq {v : Nat → Int} {n j : Nat} (h : SysF v n) (hj : j + 1 < n) : v (j + 1) = v j * rat v j := by
  have := Int.mul_ediv_add_emod (v (j + 1)) (v j)
  have := (h.step j hj).2
  unfold rat
  omega
theorem SysF.rat_two {v : Nat → Int} {n j : Nat} (h : SysF v n) (hj : j + 1 < n) : 2 ≤ rat v j := by
  have h1 := h.rat_eq hj
  have h2 := (h.step j hj).1
  have h3 := h.pos j (by omega)
  by_cases h4 : rat v j ≤ 1
  · have := Int.mul_le_mul_of_nonneg_left h4 (by omega : 0 ≤ v j)
    omega
  · omega
theorem SysF.dvd {v : Nat → Int} {n : Nat} (h : SysF v n) {i : Nat} : ∀ {j : Nat}, i ≤ j → j < n → v i ∣ v j
  | 0, hi, _ => by obtain rfl : i = 0 := by omega
                   exact Int.dvd_refl _
  | j + 1, hi, hj => by
    by_cases e : i = j + 1
    · subst e; exact Int.dvd_refl _
    · exact Int.dvd_trans (h.dvd (by omega : i ≤ j) (by omega)) (Int.dvd_of_emod_eq_zero (h.step j hj).2)
/-- the value of a pile's first k numbers -/
def val (v p : Nat → Int) (k : Nat) : Int := sumF (fun j => v j * p j) k
theorem val_add (v p q : Nat → Int) (k : Nat) : val v (fun j => p j + q j) k = val v p k + val v q k := by
  unfold val
  rw [← sumF_add]
  exact sumF_congr k fun j _ => Int.mul_add _ _ _
/-- what is left of a number for the values ahead of j -/
def rest (v : Nat → Int) (n : Nat) (N : Int) (j : Nat) : Int := if j < n then N % v j else N
/-- the plain pile -/
def pl (v : Nat → Int) (n : Nat) (N : Int) (j : Nat) : Int := rest v n N (j + 1) / v j
theorem rest_step {v : Nat → Int} {n : Nat} (h : SysF v n) (N : Int) (j : Nat) (hj : j < n) : rest v n N j = rest v n N (j + 1) % v j := by
  unfold rest
  rw [if_pos hj]
  by_cases h1 : j + 1 < n
  · rw [if_pos h1, Int.emod_emod_of_dvd N (h.dvd (by omega) h1)]
  · rw [if_neg h1]
theorem rest_nonneg {v : Nat → Int} {n : Nat} (h : SysF v n) (N : Int) (h0 : 0 ≤ N) (j : Nat) : 0 ≤ rest v n N j := by
  unfold rest
  split
  · rename_i hj; have := h.pos j hj; exact Int.emod_nonneg _ (by omega)
  · exact h0
theorem rest_le {v : Nat → Int} {n : Nat} (h : SysF v n) (N : Int) (h0 : 0 ≤ N) (j : Nat) : rest v n N j ≤ N := by
  unfold rest
  split
  · rename_i hj
    have := h.pos j hj
    have h1 := Int.mul_ediv_add_emod N (v j)
    have h2 : 0 ≤ v j * (N / v j) := Int.mul_nonneg (by omega) (Int.ediv_nonneg h0 (by omega))
    omega
  · exact Int.le_refl _
theorem pl_nonneg {v : Nat → Int} {n : Nat} (h : SysF v n) (N : Int) (h0 : 0 ≤ N) (j : Nat) (hj : j < n) : 0 ≤ pl v n N j :=
  Int.ediv_nonneg (rest_nonneg h N h0 _) (by have := h.pos j hj; omega)
theorem pl_le {v : Nat → Int} {n : Nat} (h : SysF v n) (N : Int) (h0 : 0 ≤ N) (j : Nat) (hj : j < n) : pl v n N j ≤ N :=
  Int.le_trans (Int.ediv_le_self _ (rest_nonneg h N h0 _)) (rest_le h N h0 _)
/-- a pile is plain -/
def Plain (v p : Nat → Int) (n : Nat) : Prop := ∀ j, j + 1 < n → p j < rat v j
theorem pl_plain {v : Nat → Int} {n : Nat} (h : SysF v n) (N : Int) : Plain v (pl v n N) n := by
  intro j hj
  have h1 := h.pos j (by omega)
  have h2 := h.pos (j + 1) hj
  unfold pl rest
  rw [if_pos hj]
  have h3 := h.rat_eq hj
  have h4 := Int.emod_lt_of_pos N (by omega : 0 < v (j + 1))
  refine Int.ediv_lt_of_lt_mul (by omega) ?_
  rw [Int.mul_comm]
  omega
theorem pl_val {v : Nat → Int} {n : Nat} (h : SysF v n) (N : Int) : ∀ k, k ≤ n → val v (pl v n N) k = rest v n N k
  | 0, _ => by
    have := h.len
    unfold rest
    rw [if_pos (by omega), h.one, Int.emod_one]
    rfl
  | k + 1, hk => by
    have ih := pl_val h N k (by omega)
    have h1 := rest_step h N k (by omega)
    have h2 := Int.mul_ediv_add_emod (rest v n N (k + 1)) (v k)
    unfold val at ih ⊢
    simp only [sumF]
    rw [ih, h1]
    show _ + v k * (rest v n N (k + 1) / v k) = _
    omega
theorem pl_value {v : Nat → Int} {n : Nat} (h : SysF v n) (N : Int) : val v (pl v n N) n = N := by
  rw [pl_val h N n (Nat.le_refl _)]
  unfold rest
  rw [if_neg (by omega)]
/-- what a plain pile's first numbers tell is less than the next value -/
theorem plain_lt {v p : Nat → Int} {n : Nat} (h : SysF v n) (h0 : ∀ j, j < n → 0 ≤ p j) (hp : Plain v p n) : ∀ k, k < n → 0 ≤ val v p k ∧ val v p k < v k
  | 0, _ => by have := h.one; unfold val sumF; omega
  | k + 1, hk => by
    obtain ⟨a, b⟩ := plain_lt h h0 hp k (by omega)
    have h1 := h.rat_eq hk
    have h2 := hp k hk
    have h3 := h0 k (by omega)
    have h4 := h.pos k (by omega)
    have h5 : 0 ≤ v k * p k := Int.mul_nonneg (by omega) h3
    have h6 : v k * (p k + 1) ≤ v k * rat v k := Int.mul_le_mul_of_nonneg_left (by omega) (by omega)
    rw [Int.mul_add, Int.mul_one] at h6
    unfold val at a b ⊢
    simp only [sumF]
    omega
/-- the whole value is what the first numbers tell, and a multiple of the next value -/
theorem val_split {v p : Nat → Int} {n : Nat} (h : SysF v n) (k : Nat) (hk : k < n) : ∀ m, k ≤ m → m ≤ n → ∃ c, val v p m = val v p k + v k * c := by
  intro m hkm
  induction m with
  | zero => intro _; obtain rfl : k = 0 := by omega
            exact ⟨0, by simp⟩
  | succ m ih =>
    intro hm
    by_cases e : k = m + 1
    · subst e; exact ⟨0, by simp⟩
    · obtain ⟨c, hc⟩ := ih (by omega) (by omega)
      obtain ⟨d, hd⟩ := h.dvd (show k ≤ m by omega) (by omega)
      refine ⟨c + d * p m, ?_⟩
      show sumF _ m + v m * p m = _
      have hc' : sumF (fun j => v j * p j) m = val v p k + v k * c := hc
      rw [hc', hd, Int.mul_add, Int.mul_assoc, Int.add_assoc]
/-- there is one plain pile for each number -/
theorem plain_unique {v p : Nat → Int} {n : Nat} (h : SysF v n) (h0 : ∀ j, j < n → 0 ≤ p j) (hp : Plain v p n) (k : Nat) (hk : k < n) : p k = pl v n (val v p n) k := by
  have hr : rest v n (val v p n) (k + 1) = val v p (k + 1) := by
    unfold rest
    by_cases e : k + 1 < n
    · rw [if_pos e]
      obtain ⟨c, hc⟩ := val_split (p := p) h (k + 1) e n (by omega) (Nat.le_refl _)
      have h1 := plain_lt h h0 hp (k + 1) e
      rw [hc, Int.add_mul_emod_self_left]
      exact Int.emod_eq_of_lt h1.1 h1.2
    · rw [if_neg e, show k + 1 = n by omega]
  have h1 := plain_lt h h0 hp k hk
  have h2 := h.pos k hk
  unfold pl
  rw [hr]
  show _ = (sumF (fun j => v j * p j) k + v k * p k) / v k
  rw [Int.add_mul_ediv_left _ _ (by omega : v k ≠ 0)]
  have h3 : sumF (fun j => v j * p j) k / v k = 0 := Int.ediv_eq_zero_of_lt h1.1 h1.2
  omega
/-- how many are exchanged for value j -/
def car (v p : Nat → Int) : Nat → Int
  | 0 => 0
  | j + 1 => (p j + car v p j) / rat v j
/-- the pile when all is exchanged -/
def exq (v p : Nat → Int) (n j : Nat) : Int := if j + 1 < n then (p j + car v p j) % rat v j else p j + car v p j
/-- how many exchanges for the first values -/
def stp (v p : Nat → Int) (k : Nat) : Int := sumF (fun j => car v p (j + 1)) k
theorem car_nonneg {v p : Nat → Int} {n : Nat} (h : SysF v n) (h0 : ∀ j, j < n → 0 ≤ p j) : ∀ j, j < n → 0 ≤ car v p j
  | 0, _ => Int.le_refl _
  | j + 1, hj => by
    have := car_nonneg h h0 j (by omega)
    have := h.rat_two hj
    have := h0 j (by omega)
    exact Int.ediv_nonneg (by omega) (by omega)
theorem car_le {v p : Nat → Int} {n : Nat} {M : Int} (h : SysF v n) (h0 : ∀ j, j < n → 0 ≤ p j) (h1 : ∀ j, j < n → p j ≤ M) (hM : 0 ≤ M) : ∀ j, j < n → car v p j ≤ M
  | 0, _ => hM
  | j + 1, hj => by
    have a := car_le h h0 h1 hM j (by omega)
    have b := h.rat_two hj
    have c := h1 j (by omega)
    have d := h0 j (by omega)
    have e := car_nonneg h h0 j (by omega)
    refine Int.ediv_le_of_le_mul (by omega) ?_
    have : M * 2 ≤ M * rat v j := Int.mul_le_mul_of_nonneg_left b hM
    omega
theorem exq_nonneg {v p : Nat → Int} {n : Nat} (h : SysF v n) (h0 : ∀ j, j < n → 0 ≤ p j) (j : Nat) (hj : j < n) : 0 ≤ exq v p n j := by
  unfold exq
  split
  · rename_i e; have := h.rat_two e; exact Int.emod_nonneg _ (by omega)
  · have := car_nonneg h h0 j hj; have := h0 j hj; omega
theorem exq_plain {v p : Nat → Int} {n : Nat} (h : SysF v n) : Plain v (exq v p n) n := by
  intro j hj
  unfold exq
  rw [if_pos hj]
  have := h.rat_two hj
  exact Int.emod_lt_of_pos _ (by omega)
theorem exq_step {v p : Nat → Int} {n : Nat} (j : Nat) (hj : j + 1 < n) : p j + car v p j = rat v j * car v p (j + 1) + exq v p n j := by
  unfold exq
  rw [if_pos hj]
  show _ = rat v j * ((p j + car v p j) / rat v j) + _
  have := Int.mul_ediv_add_emod (p j + car v p j) (rat v j)
  omega
theorem exq_val {v p : Nat → Int} {n : Nat} (h : SysF v n) : ∀ k, k < n → val v p k = val v (exq v p n) k + v k * car v p k
  | 0, _ => by simp [val, sumF, car]
  | k + 1, hk => by
    have ih := exq_val (p := p) h k (by omega)
    have h1 := exq_step (p := p) (v := v) k hk
    have h2 := h.rat_eq hk
    have h3 : v k * (p k + car v p k) = v k * rat v k * car v p (k + 1) + v k * exq v p n k := by rw [h1, Int.mul_add, Int.mul_assoc]
    rw [← h2, Int.mul_add] at h3
    unfold val at ih ⊢
    simp only [sumF]
    omega
theorem exq_value {v p : Nat → Int} {n : Nat} (h : SysF v n) : val v (exq v p n) n = val v p n := by
  obtain ⟨m, rfl⟩ : ∃ m, n = m + 1 := ⟨n - 1, by have := h.len; omega⟩
  have h1 := exq_val (p := p) h m (by omega)
  have h2 : exq v p (m + 1) m = p m + car v p m := by unfold exq; rw [if_neg (by omega)]
  have h3 : v m * exq v p (m + 1) m = v m * p m + v m * car v p m := by rw [h2, Int.mul_add]
  unfold val at h1 ⊢
  simp only [sumF]
  omega
theorem exq_pl {v p : Nat → Int} {n : Nat} (h : SysF v n) (h0 : ∀ j, j < n → 0 ≤ p j) (k : Nat) (hk : k < n) : exq v p n k = pl v n (val v p n) k := by
  rw [plain_unique h (exq_nonneg h h0) (exq_plain h) k hk, exq_value h]
theorem stp_nonneg {v p : Nat → Int} {n : Nat} (h : SysF v n) (h0 : ∀ j, j < n → 0 ≤ p j) (k : Nat) (hk : k < n) : 0 ≤ stp v p k :=
  sumF_nonneg k fun j hj => car_nonneg h h0 (j + 1) (by omega)
theorem size_step {v p : Nat → Int} {n : Nat} (h : SysF v n) (h0 : ∀ j, j < n → 0 ≤ p j) : ∀ k, k < n → sumF (exq v p n) k + car v p k + stp v p k ≤ sumF p k
  | 0, _ => by simp [sumF, car, stp]
  | k + 1, hk => by
    have ih := size_step h h0 k (by omega)
    have h1 := exq_step (p := p) (v := v) k hk
    have h2 := h.rat_two hk
    have h3 := car_nonneg h h0 (k + 1) hk
    have h4 : car v p (k + 1) * 2 ≤ car v p (k + 1) * rat v k := Int.mul_le_mul_of_nonneg_left h2 h3
    rw [Int.mul_comm (car v p (k + 1)) (rat v k)] at h4
    unfold stp at ih ⊢
    simp only [sumF]
    omega
/-- exchanges save signs: at least one each -/
theorem size_saved {v p : Nat → Int} {n : Nat} (h : SysF v n) (h0 : ∀ j, j < n → 0 ≤ p j) : sumF (pl v n (val v p n)) n + stp v p (n - 1) ≤ sumF p n := by
  rw [← sumF_congr n fun j hj => exq_pl h h0 j hj]
  obtain ⟨m, rfl⟩ : ∃ m, n = m + 1 := ⟨n - 1, by have := h.len; omega⟩
  have h1 := size_step h h0 m (by omega)
  have h2 : exq v p (m + 1) m = p m + car v p m := by unfold exq; rw [if_neg (by omega)]
  rw [Nat.add_sub_cancel]
  simp only [sumF]
  omega
theorem size_plain {v p : Nat → Int} {n : Nat} (h : SysF v n) (h0 : ∀ j, j < n → 0 ≤ p j) : sumF (pl v n (val v p n)) n ≤ sumF p n := by
  have := size_saved h h0
  have := stp_nonneg h h0 (n - 1) (by have := h.len; omega)
  omega
theorem plain_car {v p : Nat → Int} {n : Nat} (h : SysF v n) (h0 : ∀ j, j < n → 0 ≤ p j) (hp : Plain v p n) : ∀ j, j < n → car v p j = 0
  | 0, _ => rfl
  | j + 1, hj => by
    have ih := plain_car h h0 hp j (by omega)
    have h1 := hp j hj
    have h2 := h0 j (by omega)
    show (p j + car v p j) / rat v j = 0
    rw [ih, Int.add_zero]
    exact Int.ediv_eq_zero_of_lt h2 h1
theorem stp_plain {v p : Nat → Int} {n : Nat} (h : SysF v n) (h0 : ∀ j, j < n → 0 ≤ p j) : stp v p (n - 1) = 0 ↔ Plain v p n := by
  have hn := h.len
  constructor
  · intro hz j hj
    have hc := sumF_zero (n - 1) (fun j hj => car_nonneg h h0 (j + 1) (by omega)) hz
    have h1 : (p j + car v p j) / rat v j = 0 := hc j (by omega)
    have h2 := h.rat_two hj
    have h3 := car_nonneg h h0 j (by omega)
    have h4 := h0 j (by omega)
    have h5 := Int.lt_ediv_add_one_mul_self (p j + car v p j) (by omega : 0 < rat v j)
    rw [h1] at h5
    omega
  · intro hp
    exact sumF_none (n - 1) fun j hj => plain_car h h0 hp (j + 1) (by omega)
theorem exq_plain_eq {v p : Nat → Int} {n : Nat} (h : SysF v n) (h0 : ∀ j, j < n → 0 ≤ p j) : (∀ j, j < n → p j = exq v p n j) ↔ Plain v p n := by
  constructor
  · intro he j hj
    rw [he j (by omega)]
    exact exq_plain h j hj
  · intro hp j hj
    rw [plain_unique h h0 hp j hj, ← exq_pl h h0 j hj]
/-- one sign of value i -/
def unit (i j : Nat) : Int := if j = i then 1 else 0
theorem unit_sum (f : Nat → Int) (i : Nat) : ∀ k, sumF (fun j => f j * unit i j) k = if i < k then f i else 0
  | 0 => rfl
  | k + 1 => by
    have ih := unit_sum f i k
    simp only [sumF]
    rw [ih]
    unfold unit
    by_cases e : k = i
    · subst e; simp
    · rw [if_neg e]
      by_cases h : i < k
      · rw [if_pos h, if_pos (by omega)]; simp
      · rw [if_neg h, if_neg (by omega)]; simp
theorem unit_pl {v : Nat → Int} {n : Nat} (h : SysF v n) (i : Nat) (hi : i < n) (j : Nat) (hj : j < n) : pl v n (v i) j = unit i j := by
  have h1 : val v (unit i) n = v i := by unfold val; rw [unit_sum, if_pos hi]
  have h2 := plain_unique (p := unit i) h (fun j _ => by unfold unit; split <;> omega) (fun j hj => by have := h.rat_two hj; unfold unit; split <;> omega) j hj
  rw [h1] at h2
  exact h2.symm
theorem unit_size (i n : Nat) (hi : i < n) : sumF (unit i) n = 1 := by
  have := unit_sum (fun _ => 1) i n
  rw [if_pos hi] at this
  rw [← this]
  exact sumF_congr n fun j _ => by simp
theorem zero_pl {v : Nat → Int} {n : Nat} (h : SysF v n) (j : Nat) (hj : j < n) : pl v n 0 j = 0 := by
  have h1 := pl_nonneg h 0 (Int.le_refl _) j hj
  have h2 := pl_le h 0 (Int.le_refl _) j hj
  omega
/-- sizes are at most values -/
theorem size_val {v p : Nat → Int} {n : Nat} (h : SysF v n) (h0 : ∀ j, j < n → 0 ≤ p j) : sumF p n ≤ val v p n :=
  sumF_le n fun j hj => by
    have h1 := h.pos j hj
    have := Int.mul_le_mul_of_nonneg_right h1 (h0 j hj)
    omega
theorem size_zero {v p : Nat → Int} {n : Nat} (h : SysF v n) (h0 : ∀ j, j < n → 0 ≤ p j) : sumF p n = 0 ↔ val v p n = 0 := by
  constructor
  · intro hz
    exact sumF_none n fun j hj => by show v j * p j = 0; rw [sumF_zero n h0 hz j hj, Int.mul_zero]
  · intro hz
    have := size_val h h0
    have := sumF_nonneg n h0
    omega
theorem val_le {v p : Nat → Int} {n : Nat} {V M : Int} (h0 : ∀ j, j < n → 0 ≤ p j) (h1 : ∀ j, j < n → p j ≤ M) (g0 : ∀ j, j < n → 0 ≤ v j) (g1 : ∀ j, j < n → v j ≤ V) (hV : 0 ≤ V) : ∀ k, k ≤ n → val v p k ≤ k * (V * M)
  | 0, _ => by simp [val, sumF]
  | k + 1, hk => by
    have ih := val_le h0 h1 g0 g1 hV k (by omega)
    have a : v k * p k ≤ V * M := Int.le_trans (Int.mul_le_mul_of_nonneg_right (g1 k (by omega)) (h0 k (by omega))) (Int.mul_le_mul_of_nonneg_left (h1 k (by omega)) hV)
    unfold val at ih ⊢
    simp only [sumF]
    have : ((k + 1 : Nat) : Int) * (V * M) = k * (V * M) + V * M := by rw [Int.natCast_add, Int.add_mul]; simp
    omega
end Go.Proofs.YthbdnmnhoifnoaaGreatDoor

/- The model's chapter 2 (package spec): PileIn. -/
namespace Go.Proofs.YthbdnmnhoifnoaaGreatDoor
open Go.RowKit
set_option linter.unusedVariables false
set_option maxRecDepth 100000
/-- what PileIn has looked at when it comes to number k -/
def Chk (f : Nat → Int) (k : Nat) : Prop := (0 < k → f 0 = 1) ∧ (∀ j, j < k → 1 ≤ f j ∧ f j ≤ 1000000) ∧ ∀ j, j + 1 < k → f j < f (j + 1) ∧ f (j + 1) % f j = 0
theorem Chk.mono {f : Nat → Int} {k n : Nat} (h : Chk f n) (hk : k ≤ n) : Chk f k := ⟨fun h0 => h.1 (by omega), fun j hj => h.2.1 j (by omega), fun j hj => h.2.2 j (by omega)⟩
/-- a list is a system -/
def sysB (f : Nat → Int) (n : Nat) : Bool :=
  decide (1 ≤ n ∧ n ≤ 6 ∧ f 0 = 1 ∧ (∀ j, j < n → 1 ≤ f j ∧ f j ≤ 1000000) ∧ ∀ j, j < n - 1 → f j < f (j + 1) ∧ f (j + 1) % f j = 0)
theorem sysB_chk (f : Nat → Int) (n : Nat) : sysB f n = true ↔ Chk f n ∧ 1 ≤ n ∧ n ≤ 6 := by
  unfold sysB
  rw [decide_eq_true_eq]
  constructor
  · rintro ⟨h1, h2, h3, h4, h5⟩
    exact ⟨⟨fun _ => h3, h4, fun j hj => h5 j (by omega)⟩, h1, h2⟩
  · rintro ⟨⟨h3, h4, h5⟩, h1, h2⟩
    exact ⟨h1, h2, h3 (by omega), h4, fun j hj => h5 j (by omega)⟩
theorem sysB_sys {f : Nat → Int} {n : Nat} (h : sysB f n = true) : SysF f n ∧ n ≤ 6 ∧ ∀ j, j < n → f j ≤ 1000000 := by
  obtain ⟨⟨h3, h4, h5⟩, h1, h2⟩ := (sysB_chk f n).1 h
  exact ⟨⟨h1, h3 (by omega), fun j hj => (h4 j hj).1, h5⟩, h2, fun j hj => (h4 j hj).2⟩
theorem sysB_not {f : Nat → Int} {n k : Nat} (hk : k ≤ n) (h : ¬ Chk f k) : sysB f n = false := by
  rw [Bool.eq_false_iff]
  intro h'
  exact h (((sysB_chk f n).1 h').1.mono hk)
theorem sysB_congr {f g : Nat → Int} {n : Nat} (h : ∀ j, j < n → f j = g j) : sysB f n = sysB g n := by
  rw [Bool.eq_iff_iff, sysB_chk, sysB_chk]
  have key : ∀ {f g : Nat → Int}, (∀ j, j < n → f j = g j) → Chk f n → Chk g n := by
    intro f g h c
    refine ⟨fun h0 => by rw [← h 0 h0]; exact c.1 h0, fun j hj => by rw [← h j hj]; exact c.2.1 j hj, fun j hj => by rw [← h j (by omega), ← h (j + 1) hj]; exact c.2.2 j hj⟩
  constructor
  · rintro ⟨c, r⟩; exact ⟨key h c, r⟩
  · rintro ⟨c, r⟩; exact ⟨key (fun j hj => (h j hj).symm) c, r⟩
theorem ret_bool {a b : Bool} (h : a = b) : Ending.returned (.bool a) = .returned (.bool b) := by rw [h]
theorem in_any (n a b : Int) (w : World) : Calls Tryz.prog 17 #[.int .i64 n, .int .i64 a, .int .i64 b] w fun e w' => e = .returned (.bool (decide (a ≤ n ∧ n ≤ b))) ∧ w = w' := by
  by_cases h1 : a ≤ n
  · by_cases h2 : n ≤ b
    · go_enter Tryz.func17, Tryz.ntmps17
      go_wp2
      go_ret
      simp [h1, h2]
    · go_enter Tryz.func17, Tryz.ntmps17
      go_wp2
      go_ret
      simp
      omega
  · go_enter Tryz.func17, Tryz.ntmps17
    go_wp2
    go_ret
    simp
    omega
end Go.Proofs.YthbdnmnhoifnoaaGreatDoor

/- The model's chapter 6 (package spec): l6Dec of a digit, l6rFour. -/
namespace Go.Proofs.YthbdnmnhoifnoaaGreatDoor
open Go.RowKit
set_option linter.unusedVariables false
set_option maxRecDepth 100000
theorem byte_text {w : World} {b : Nat} {d : Nat} (hd : d < 10) (h : w.heap[b]? = some (.cells #[.int .u8 (48 + (d : Int))] 5 (0, 0))) :
    Sem.run Tryz.prog (convert 22 9 (.slice (some ⟨b, 0, none⟩) 1 1)) w = .ok (.string ⟨#[dch d]⟩) w := by
  have := run_convert_bytes_arg (P := Tryz.prog) w 22 5 Tryz.underlying22 Tryz.underlying5 b 0 1 1 [48 + (d : Int)] rfl (fun i hi => by
    obtain rfl : i = 0 := by omega
    exact cell_at h rfl) 9 Tryz.underlying9
  rw [this]
  have e : strOfNums [48 + (d : Int)] = ⟨#[dch d]⟩ := by
    unfold strOfNums dch
    rw [List.map_singleton, show (48 + (d : Int)).toNat = 48 + d by omega]
  rw [e]
/-- the steps of the ranks -/
def rkT (i : Nat) : Nat := if i = 0 then 1000 else if i = 1 then 100 else if i = 2 then 10 else 1
theorem rkT_dgt (n i : Nat) (h : i < 4) : n / rkT i % 10 = dgt n i ∧ 1 ≤ rkT i ∧ rkT i ≤ 1000 := by
  rcases (show i = 0 ∨ i = 1 ∨ i = 2 ∨ i = 3 by omega) with rfl | rfl | rfl | rfl <;> simp [rkT, dgt]
theorem rkS_len (n : Nat) : ∀ k, (rkS n k).1.length ≤ 3 * k
  | 0 => by simp [rkS]
  | k + 1 => by
    have := rkS_len n k
    unfold rkS
    split
    · show (rkS n k).1.length ≤ _; omega
    · simp only [List.length_append, List.length_cons, List.length_nil]
      have : (rsg k).length ≤ 1 := by unfold rsg; split <;> (try split) <;> (try split) <;> simp
      split <;> simp <;> omega
/-- the world behind both tables -/
def rkW (w : World) : World := (w.alloc (.cells #[.string ⟨#[113]⟩, .string ⟨#[98]⟩, .string ⟨#[115]⟩, .string ⟨#[]⟩] 9)).alloc (.cells #[.int .i64 1000, .int .i64 100, .int .i64 10, .int .i64 1] 3)
theorem rkW_at (w : World) (k : Nat) (h : k < 4) : (rkW w).cell? ⟨w.heap.size, k, none⟩ = some (.string ⟨(rsg k).toArray⟩) ∧ (rkW w).cell? ⟨w.heap.size + 1, k, none⟩ = some (.int .i64 (rkT k : Nat)) := by
  have h1 : (rkW w).heap[w.heap.size]? = some (.cells #[.string ⟨#[113]⟩, .string ⟨#[98]⟩, .string ⟨#[115]⟩, .string ⟨#[]⟩] 9 (0, 0)) := (Below.heap_alloc _ _ _ (by simp)).trans (heap_alloc_new w _)
  have h2 : (rkW w).heap[w.heap.size + 1]? = some (.cells #[.int .i64 1000, .int .i64 100, .int .i64 10, .int .i64 1] 3 (0, 0)) := by
    have := heap_alloc_new (w.alloc (.cells #[.string ⟨#[113]⟩, .string ⟨#[98]⟩, .string ⟨#[115]⟩, .string ⟨#[]⟩] 9)) (.cells #[.int .i64 1000, .int .i64 100, .int .i64 10, .int .i64 1] 3)
    rwa [World.size_alloc] at this
  rcases (show k = 0 ∨ k = 1 ∨ k = 2 ∨ k = 3 by omega) with rfl | rfl | rfl | rfl <;> exact ⟨cell_at h1 rfl, cell_at h2 rfl⟩
theorem cat_bytes (a b : List UInt8) : (⟨a.toArray⟩ : ByteArray) ++ ⟨b.toArray⟩ = ⟨(a ++ b).toArray⟩ := by
  apply ByteArray.ext
  rw [ByteArray.data_append]
  simp
end Go.Proofs.YthbdnmnhoifnoaaGreatDoor

/- The model's chapter 6 (package spec): l6rOf, RankOf, RankRead. -/
namespace Go.Proofs.YthbdnmnhoifnoaaGreatDoor
open Go.RowKit
set_option linter.unusedVariables false
set_option maxRecDepth 100000
theorem rret {a b : Value} (h : a = b) : Ending.returned a = .returned b := by rw [h]
theorem rbytes_at (l : List UInt8) (k : Nat) (hk : k < l.length) (c : UInt8) (h : l[k] = c) : ∀ hix, ((((⟨l.toArray⟩ : ByteArray)[k]'hix).toNat : Int)) = (c.toNat : Int) := by
  intro hix
  have e : (⟨l.toArray⟩ : ByteArray)[k]'hix = c := h
  rw [e]
theorem rbyte_ne (c : UInt8) (n : Nat) (hn : n < 256) (h : c ≠ UInt8.ofNat n) : ((c.toNat : Int) == (n : Int)) = false := by
  rw [beq_eq_false_iff_ne]
  intro e
  apply h
  apply UInt8.toNat_inj.1
  rw [UInt8.toNat_ofNat']
  omega
/-- RankOf's answer -/
def rkR (n : Int) : Value := if 0 ≤ n ∧ n ≤ 99999999 then .tuple #[.string ⟨(rkO n.toNat).toArray⟩, .bool true] else .tuple #[.string ⟨#[]⟩, .bool false]
/-- RankRead's answer -/
def rrR (l : List UInt8) : Value := if rrB l = true then .tuple #[.int .i64 (rkN l : Nat), .bool true] else .tuple #[.int .i64 0, .bool false]
theorem rrR_no {l : List UInt8} (h : ¬ (l.length ≤ 20 ∧ rkN l ≤ 99999999 ∧ rkO (rkN l) = l)) : rrR l = .tuple #[.int .i64 0, .bool false] := by
  unfold rrR
  rw [if_neg (fun h' => h ((rrB_spec l).1 h'))]
/-- the state behind k bytes -/
def rdK (l : List UInt8) (k : Nat) : Nat × Nat × Nat := (l.take k).foldl rdS (0, 0, 0)
theorem rdK_succ (l : List UInt8) (k : Nat) (h : k < l.length) : rdK l (k + 1) = rdS (rdK l k) l[k] := by
  unfold rdK
  rw [List.take_succ_eq_append_getElem h, List.foldl_append]
  rfl
theorem rdK_bd (l : List UInt8) (hl : l.length ≤ 20) (k : Nat) (h : k ≤ l.length) : (rdK l k).1 ≤ 1200000000000 ∧ (rdK l k).2.1 ≤ 5100000 ∧ (rdK l k).2.2 ≤ 255 := by
  obtain ⟨B, L, h1, h2, h3, h4, h5⟩ := rdS_bd l hl k h
  unfold rdK
  exact ⟨by omega, by omega, h3⟩
theorem sub48 (c : UInt8) : IntKind.u8.wrap ((c.toNat : Int) - 48) = ((c - 48).toNat : Int) := by
  rw [IntKind.wrap_u8, UInt8.toNat_sub]
  have := c.toNat_lt
  have e : (48 : UInt8).toNat = 48 := rfl
  rw [e]
  omega
theorem rdS_q (st : Nat × Nat × Nat) : rdS st 113 = (st.1, st.2.1 + 1000 * st.2.2, 0) := rfl
theorem rdS_b (st : Nat × Nat × Nat) : rdS st 98 = (st.1, st.2.1 + 100 * st.2.2, 0) := rfl
theorem rdS_s (st : Nat × Nat × Nat) : rdS st 115 = (st.1, st.2.1 + 10 * st.2.2, 0) := rfl
theorem rdS_w (st : Nat × Nat × Nat) : rdS st 119 = (st.1 + 10000 * (st.2.1 + st.2.2), 0, 0) := rfl
theorem rdS_o (st : Nat × Nat × Nat) : rdS st 111 = (st.1, st.2.1, 0) := rfl
theorem rdS_e (st : Nat × Nat × Nat) (c : UInt8) (h1 : c ≠ 113) (h2 : c ≠ 98) (h3 : c ≠ 115) (h4 : c ≠ 119) (h5 : c ≠ 111) : rdS st c = (st.1, st.2.1, (c - 48).toNat) := by
  unfold rdS
  rw [if_neg h1, if_neg h2, if_neg h3, if_neg h4, if_neg h5]
end Go.Proofs.YthbdnmnhoifnoaaGreatDoor

/- The model's chapter 8 (package spec): l6Dec, l8Decimal. -/
namespace Go.Proofs.YthbdnmnhoifnoaaGreatDoor
open Go.RowKit
set_option linter.unusedVariables false
set_option maxRecDepth 100000
/-- a text's number, if it is one -/
def dcR (l : List UInt8) : Value := if dcB l = true then .tuple #[.int .i64 (dcN (l.take 9) : Nat), .bool true] else .tuple #[.int .i64 0, .bool false]
theorem dcN_succ (l : List UInt8) (k : Nat) (h : k < l.length) : dcN (l.take (k + 1)) = 10 * dcN (l.take k) + (l[k].toNat - 48) := by
  unfold dcN
  rw [List.take_succ_eq_append_getElem h, List.foldl_append]
  rfl
theorem dcN_bd (l : List UInt8) : ∀ k, k ≤ l.length → (l.take k).all dgC = true → dcN (l.take k) < 10 ^ k
  | 0, _, _ => by simp [dcN]
  | k + 1, h, ha => by
    rw [List.take_succ_eq_append_getElem (by omega), List.all_append, Bool.and_eq_true] at ha
    have ih := dcN_bd l k (by omega) ha.1
    have hd : dgC l[k] = true := by simpa using ha.2
    unfold dgC at hd
    rw [Bool.and_eq_true, decide_eq_true_eq, decide_eq_true_eq] at hd
    rw [dcN_succ l k (by omega), Nat.pow_succ]
    omega
theorem dcB_no (l : List UInt8) (k : Nat) (hk : k < l.length) (h9 : k < 9) (h : dgC l[k] = false) : dcB l = false := by
  unfold dcB
  have : (l.take 9).all dgC = false := by
    rw [List.all_eq_false]
    exact ⟨l[k], by rw [List.mem_take_iff_getElem]; exact ⟨k, by omega, rfl⟩, by rw [h]; simp⟩
  rw [this]
  rfl
end Go.Proofs.YthbdnmnhoifnoaaGreatDoor

/- Contracts of the program's chapter 1: the texts by pieces. -/
namespace Go.Proofs.YthbdnmnhoifnoaaGreatDoor
open Go.RowKit
set_option linter.unusedVariables false
set_option maxRecDepth 100000
theorem hasRoman_any (n : Int) (w : World) : Calls Tryz.prog 14 #[.int .i64 n] w fun e w' => e = .returned (.bool (decide (1 ≤ n ∧ n ≤ 3999))) ∧ w = w' := by
  by_cases h1 : 1 ≤ n
  · by_cases h2 : n ≤ 3999
    · go_enter Tryz.func14, Tryz.ntmps14
      go_wp2
      go_ret
      simp [h1, h2]
    · go_enter Tryz.func14, Tryz.ntmps14
      go_wp2
      go_ret
      simp
      omega
  · go_enter Tryz.func14, Tryz.ntmps14
    go_wp2
    go_ret
    simp
    omega
/-- pieces as they lie in memory -/
def pieceCells (ps : List (List UInt8 × Nat)) : List Value := ps.flatMap fun p => [.string ⟨p.1.toArray⟩, .int .i64 (p.2 : Nat)]
def Pieces (w : World) (b : Nat) (ps : List (List UInt8 × Nat)) : Prop := ∃ T, w.heap[b]? = some (.cells (pieceCells ps).toArray T (0, 0))
theorem pieceCells_at : ∀ (ps : List (List UInt8 × Nat)) (i : Nat), i < ps.length → (pieceCells ps)[i * 2]? = some (.string ⟨(ps.getD i ([], 0)).1.toArray⟩) ∧ (pieceCells ps)[i * 2 + 1]? = some (.int .i64 ((ps.getD i ([], 0)).2 : Nat))
  | [], i, h => by simp at h
  | p :: ps, 0, _ => by simp [pieceCells]
  | p :: ps, i + 1, h => by
    have ih := pieceCells_at ps i (by simpa using h)
    have e : pieceCells (p :: ps) = .string ⟨p.1.toArray⟩ :: .int .i64 (p.2 : Nat) :: pieceCells ps := by simp [pieceCells]
    rw [e, show (i + 1) * 2 = i * 2 + 1 + 1 by omega]
    simpa using ih
theorem strictPieces_any (w : World) : Calls Tryz.prog 16 #[] w fun e w' => e = .returned (.slice (some ⟨w.heap.size, 0, none⟩) 13 13) ∧ Pieces w' w.heap.size strictP ∧ Below w.heap.size w w' := by
  go_enter Tryz.func16, Tryz.ntmps16
  go_wp2
  go_ret
  exact ⟨rfl, ⟨_, heap_alloc_new _ _⟩, (Below.refl _ _).alloc (Nat.le_refl _) _⟩
theorem addedPieces_any (w : World) : Calls Tryz.prog 142 #[] w fun e w' => e = .returned (.slice (some ⟨w.heap.size, 0, none⟩) 7 7) ∧ Pieces w' w.heap.size addedP ∧ Below w.heap.size w w' := by
  go_enter Tryz.func142, Tryz.ntmps142
  go_wp2
  go_ret
  exact ⟨rfl, ⟨_, heap_alloc_new _ _⟩, (Below.refl _ _).alloc (Nat.le_refl _) _⟩
end Go.Proofs.YthbdnmnhoifnoaaGreatDoor

/- The program's joinPieces. -/
namespace Go.Proofs.YthbdnmnhoifnoaaGreatDoor
open Go.RowKit
set_option linter.unusedVariables false
set_option maxRecDepth 100000
theorem info_u8 : (Tryz.prog.info? 5).map (fun i => (i.zero, i.size, i.bytes)) = some (some (.int .u8 0), 1, 1) := by kernel_rfl
theorem many_take_step (v : Nat) (b : List UInt8) (m : Nat) (h : v ≤ m) (hv : 1 ≤ v) : many b (m / v) = b ++ many b ((m - v) / v) := by
  rw [Nat.div_eq_sub_div (by omega) h, many_succ]
set_option maxHeartbeats 400000 in
theorem joinPieces_any (ps : List (List UInt8 × Nat)) (b : Nat) (n : Nat) (w : World) (hn : n ≤ 100000) (hp : Pieces w b ps) (hl : ps.length ≤ 100) (hv : ∀ p ∈ ps, 1 ≤ p.2 ∧ p.2 ≤ 10000 ∧ p.1.length ≤ 2) :
    Calls Tryz.prog 15 #[.int .i64 n, .slice (some ⟨b, 0, none⟩) ps.length ps.length] w fun e w' => e = .returned (.string ⟨(take ps n).toArray⟩) ∧ Below w.heap.size w w' := by
  obtain ⟨i0, hi, hz0, hz1, hz2⟩ := info_parts info_u8
  have hblt : b < w.heap.size := by
    obtain ⟨T, h⟩ := hp
    rcases Nat.lt_or_ge b w.heap.size with h' | h'
    · exact h'
    · simp [Array.getElem?_eq_none h'] at h
  go_enter Tryz.func15, Tryz.ntmps15
  go_wp2
  go_loopw [0, 5, 10] (fun n' v i wr => ∃ (m k : Nat) (txt : List UInt8), n' = .int .i64 m ∧ i = .int .i64 k ∧ k ≤ ps.length ∧ wr.ownsRow w.heap.size 5 1 v txt.length (Lib.strCells ⟨txt.toArray⟩) ∧ Below w.heap.size w wr ∧ txt ++ take (ps.drop k) m = take ps n ∧ txt.length + 2 * m ≤ 2 * n)
    (fun _ _ i _ => ps.length - (intOf i).toNat)
  case atStart => exact ⟨n, 0, [], rfl, rfl, Nat.zero_le _, World.ownsRow_nil _ _ _ _, Below.refl _ _, rfl, by simp⟩
  case round =>
    obtain ⟨m, k, txt, rfl, rfl, hk, hown, hbel, htxt, hlen⟩ := hrel
    have Htxt := Lib.hid htxt; clear htxt
    by_cases hlt : k < ps.length
    · have hcs : wr.cell? ⟨b, k * 2, none⟩ = some (.string ⟨(ps.getD k ([], 0)).1.toArray⟩) ∧ wr.cell? ⟨b, k * 2 + 1, none⟩ = some (.int .i64 ((ps.getD k ([], 0)).2 : Nat)) := by
        obtain ⟨T, h⟩ := hp
        have h' := (hbel.block b hblt).trans h
        have hc := pieceCells_at ps k hlt
        exact ⟨cell_at h' (by simpa using hc.1), cell_at h' (by simpa using hc.2)⟩
      have hvk := hv (ps.getD k ([], 0)) (by rw [List.getD_eq_getElem?_getD, List.getElem?_eq_getElem hlt]; exact List.getElem_mem hlt)
      have Hdrop : Hid (ps.drop k = ps.getD k ([], 0) :: ps.drop (k + 1)) := by
        show ps.drop k = _
        rw [List.getD_eq_getElem?_getD, List.getElem?_eq_getElem hlt]
        exact List.drop_eq_getElem_cons hlt
      generalize ps.getD k ([], 0) = pk at *
      obtain ⟨bk, vk⟩ := pk
      obtain ⟨hc1, hc2⟩ := hcs
      obtain ⟨v1, v2, v3⟩ := hvk
      simp only at hc1 hc2 v1 v2 v3
      have hfit : wr.heap.size < 0 + wr.heap.size + 1 := by omega
      have hp0 := heap_alloc_new wr (.cells #[Value.string ⟨bk.toArray⟩, Value.int .i64 (vk : Nat)] 56)
      have Hp0 := Lib.hid hp0; clear hp0
      obtain ⟨wo, rfl⟩ : ∃ wo : World, wo = wr := ⟨_, rfl⟩
      go_wp2_with fail
      go_loopw [0, 5] (fun n' v w2 => ∃ (m : Nat) (txt : List UInt8), n' = .int .i64 m ∧ w2.ownsRow w.heap.size 5 1 v txt.length (Lib.strCells ⟨txt.toArray⟩) ∧ Below w.heap.size w w2 ∧ w2.heap[wo.heap.size]? = some (.cells #[Value.string ⟨bk.toArray⟩, Value.int .i64 (vk : Nat)] 56 (0, 0)) ∧ txt ++ (many bk (m / vk) ++ take (ps.drop (k + 1)) (m % vk)) = take ps n ∧ txt.length + 2 * m ≤ 2 * n)
        (fun n' _ _ => (intOf n').toNat)
      case atStart => exact ⟨m, txt, rfl, hown.alloc _, hbel.alloc hbel.size _, Hp0.out, by have := Htxt.out; rw [Hdrop.out] at this; exact this, hlen⟩
      case round =>
        clear hown hc1 hc2 Htxt hlen
        obtain ⟨m, txt, rfl, hown, hbel, hpb, htxt, hlen⟩ := hrel
        have Htxt := Lib.hid htxt; clear htxt
        have hc1 := cell_at hpb (j := 0) rfl
        have hc2 := cell_at hpb (j := 1) rfl
        by_cases hge : vk ≤ m
        · have hsz : (⟨bk.toArray⟩ : ByteArray).size = bk.length := by show bk.toArray.size = bk.length; simp
          have Hsz := Lib.hid hsz; clear hsz
          go_wp2_with (at_builtin; refine Lib.wpList_append_own_string _ rfl _ _ 22 9 rfl w.heap.size 5 i0 Tryz.underlying22 Tryz.underlying9 hi hz0 hz1 hz2 _ _ _ rfl hown ⟨bk.toArray⟩ rfl ?_ ?_ ?_ ?_)
          · rw [Hsz.out]; unfold maxLen; omega
          · rw [Hsz.out]; omega
          · exact hbel.size
          · intro v' w' hown' hgrow _
            have R1 := hbel.grown hgrow hbel.size (fun k hk => (hown.lt k hk).1)
            have R2 := grown_block hgrow hown hpb (by decide)
            have R3 : w'.ownsRow w.heap.size 5 1 v' (txt ++ bk).length (Lib.strCells ⟨(txt ++ bk).toArray⟩) := by
              rw [strCells_append, List.length_append]; exact hown'
            have Hst : Hid (txt ++ bk ++ (many bk ((m - vk) / vk) ++ take (ps.drop (k + 1)) ((m - vk) % vk)) = take ps n) := by
              show _ = _
              rw [← Htxt.out, many_take_step vk bk m hge v1, Nat.mod_eq_sub_mod hge]
              simp
            have hc1' := cell_at R2 (j := 0) rfl
            have hc2' := cell_at R2 (j := 1) rfl
            clear hown hown' hgrow hc1 hc2 Htxt hpb hbel
            go_wp2
            go_roundw
            case rel => exact ⟨m - vk, txt ++ bk, by go_num, R3, R1, R2, Hst.out, by simp; omega⟩
            case measure => simp [intOf]; omega
        · have hm0 : m / vk = 0 := Nat.div_eq_of_lt (by omega)
          have hm1 : m % vk = m := Nat.mod_eq_of_lt (by omega)
          have Hst : Hid (txt ++ take (ps.drop (k + 1)) m = take ps n) := by
            show _ = _
            have := Htxt.out
            rw [hm0, hm1, many_zero, List.nil_append] at this
            exact this
          clear hm0 hm1 Htxt
          go_wp2
          go_roundw
          case rel => exact ⟨m, k + 1, txt, rfl, by go_num, by omega, hown, hbel, Hst.out, hlen⟩
          case measure => simp [intOf]; omega
    · have hke : k = ps.length := by omega
      subst hke
      have hcv := conv_own (P := Tryz.prog) wr 22 9 5 Tryz.underlying22 Tryz.underlying5 Tryz.underlying9 _ _ _ _ hown
      have Hst : Hid (txt = take ps n) := by
        show _ = _
        have := Htxt.out
        rw [List.drop_length, take, List.append_nil] at this
        exact this
      clear Htxt
      go_wp2
      go_ret
      exact ⟨ret_string Hst.out, hbel⟩
end Go.Proofs.YthbdnmnhoifnoaaGreatDoor

/- The program's RomanOf, RomanPiled, RomanLongest. -/
namespace Go.Proofs.YthbdnmnhoifnoaaGreatDoor
open Go.RowKit
set_option linter.unusedVariables false
set_option maxRecDepth 100000
theorem strictP_ok : ∀ p ∈ strictP, 1 ≤ p.2 ∧ p.2 ≤ 10000 ∧ p.1.length ≤ 2 := by decide
theorem addedP_ok : ∀ p ∈ addedP, 1 ≤ p.2 ∧ p.2 ≤ 10000 ∧ p.1.length ≤ 2 := by decide
theorem joinStrict_any (b : Nat) (n : Int) (w : World) (h0 : 0 ≤ n) (hn : n ≤ 3999) (hp : Pieces w b strictP) :
    Calls Tryz.prog 15 #[.int .i64 n, .slice (some ⟨b, 0, none⟩) 13 13] w fun e w' => e = .returned (.string ⟨(strict n.toNat).toArray⟩) ∧ Below w.heap.size w w' := by
  obtain ⟨k, rfl⟩ := Int.eq_ofNat_of_zero_le h0
  rw [Int.toNat_natCast, ← take_strict k (by omega)]
  exact joinPieces_any strictP b k w (by omega) hp (by decide) strictP_ok
theorem joinAdded_any (b : Nat) (n : Int) (w : World) (h0 : 0 ≤ n) (hn : n ≤ 3999) (hp : Pieces w b addedP) :
    Calls Tryz.prog 15 #[.int .i64 n, .slice (some ⟨b, 0, none⟩) 7 7] w fun e w' => e = .returned (.string ⟨(piled n.toNat).toArray⟩) ∧ Below w.heap.size w w' := by
  obtain ⟨k, rfl⟩ := Int.eq_ofNat_of_zero_le h0
  exact joinPieces_any addedP b k w (by omega) hp (by decide) addedP_ok
/-- RomanOf's answer -/
def romanOfR (n : Int) : Value := if 1 ≤ n ∧ n ≤ 3999 then .tuple #[.string ⟨(strict n.toNat).toArray⟩, .bool true] else .tuple #[.string ⟨#[]⟩, .bool false]
def romanPiledR (n : Int) : Value := if 1 ≤ n ∧ n ≤ 3999 then .tuple #[.string ⟨(piled n.toNat).toArray⟩, .bool true] else .tuple #[.string ⟨#[]⟩, .bool false]
def romanLongestR (n : Int) : Value := if 1 ≤ n ∧ n ≤ 3999 then .tuple #[.int .i64 (best strictLen n.toNat : Nat), .bool true] else .tuple #[.int .i64 0, .bool false]
theorem iRomanOf_yes (n : Int) (w : World) (h1 : 1 ≤ n) (h2 : n ≤ 3999) : Calls Tryz.prog 6 #[.int .i64 n] w fun e w' => e = .returned (.tuple #[.string ⟨(strict n.toNat).toArray⟩, .bool true]) ∧ Below w.heap.size w w' := by
  go_enter Tryz.func6, Tryz.ntmps6
  go_wp2_with fail
  refine (hasRoman_any _ _).mono ?_
  rintro e w1 ⟨rfl, rfl⟩
  rw [show (decide (1 ≤ n ∧ n ≤ 3999)) = true from decide_eq_true ⟨h1, h2⟩]
  go_wp2_with fail
  refine (strictPieces_any _).mono ?_
  rintro e w1 ⟨rfl, hp, g1⟩
  go_wp2_with fail
  refine (joinStrict_any _ _ _ (by omega) h2 hp).mono ?_
  rintro e w2 ⟨rfl, g2⟩
  go_wp2_with fail
  go_ret2
  exact ⟨rfl, bel_chain g1 g2⟩
theorem iRomanOf_no (n : Int) (w : World) (h : ¬ (1 ≤ n ∧ n ≤ 3999)) : Calls Tryz.prog 6 #[.int .i64 n] w fun e w' => e = .returned (.tuple #[.string ⟨#[]⟩, .bool false]) ∧ Below w.heap.size w w' := by
  have H := Lib.hid h; clear h
  go_enter Tryz.func6, Tryz.ntmps6
  go_wp2_with fail
  refine (hasRoman_any _ _).mono ?_
  rintro e w1 ⟨rfl, rfl⟩
  rw [show (decide (1 ≤ n ∧ n ≤ 3999)) = false from decide_eq_false H.out]
  go_wp2_with fail
  go_ret2
  exact ⟨rfl, Below.refl _ _⟩
theorem iRomanOf_any (n : Int) (w : World) : Calls Tryz.prog 6 #[.int .i64 n] w fun e w' => e = .returned (romanOfR n) ∧ Below w.heap.size w w' := by
  unfold romanOfR
  by_cases h : 1 ≤ n ∧ n ≤ 3999
  · rw [if_pos h]; exact iRomanOf_yes n w h.1 h.2
  · rw [if_neg h]; exact iRomanOf_no n w h
theorem iRomanPiled_any (n : Int) (w : World) : Calls Tryz.prog 102 #[.int .i64 n] w fun e w' => e = .returned (romanPiledR n) ∧ Below w.heap.size w w' := by
  unfold romanPiledR
  by_cases h : 1 ≤ n ∧ n ≤ 3999
  · rw [if_pos h]
    obtain ⟨h1, h2⟩ := h
    go_enter Tryz.func102, Tryz.ntmps102
    go_wp2_with fail
    refine (hasRoman_any _ _).mono ?_
    rintro e w1 ⟨rfl, rfl⟩
    rw [show (decide (1 ≤ n ∧ n ≤ 3999)) = true from decide_eq_true ⟨h1, h2⟩]
    go_wp2_with fail
    refine (addedPieces_any _).mono ?_
    rintro e w1 ⟨rfl, hp, g1⟩
    go_wp2_with fail
    refine (joinAdded_any _ _ _ (by omega) h2 hp).mono ?_
    rintro e w2 ⟨rfl, g2⟩
    go_wp2_with fail
    go_ret2
    exact ⟨rfl, bel_chain g1 g2⟩
  · rw [if_neg h]
    have H := Lib.hid h; clear h
    go_enter Tryz.func102, Tryz.ntmps102
    go_wp2_with fail
    refine (hasRoman_any _ _).mono ?_
    rintro e w1 ⟨rfl, rfl⟩
    rw [show (decide (1 ≤ n ∧ n ≤ 3999)) = false from decide_eq_false H.out]
    go_wp2_with fail
    go_ret2
    exact ⟨rfl, Below.refl _ _⟩
end Go.Proofs.YthbdnmnhoifnoaaGreatDoor

/- The model's RomanOf. -/
namespace Go.Proofs.YthbdnmnhoifnoaaGreatDoor
open Go.RowKit
set_option linter.unusedVariables false
set_option maxRecDepth 100000
theorem l1Of_any (n : Int) (w : World) (h0 : 0 ≤ n) (h1 : n ≤ 4000) : Calls Tryz.prog 18 #[.int .i64 n] w fun e w' => e = .returned (.string ⟨(strict n.toNat).toArray⟩) ∧ Below w.heap.size w w' := by
  obtain ⟨k, rfl⟩ := Int.eq_ofNat_of_zero_le h0
  exact l1Of_nat k w (by omega)
theorem sRomanOf_any (n : Int) (w : World) : Calls Tryz.prog 7 #[.int .i64 n] w fun e w' => e = .returned (romanOfR n) ∧ Below w.heap.size w w' := by
  unfold romanOfR
  by_cases h : 1 ≤ n ∧ n ≤ 3999
  · rw [if_pos h]
    obtain ⟨h1, h2⟩ := h
    go_enter Tryz.func7, Tryz.ntmps7
    go_wp2_with fail
    refine (l6In_any _ _ _ _).mono ?_
    rintro e w1 ⟨rfl, rfl⟩
    rw [show (decide (1 ≤ n ∧ n ≤ 3999)) = true from decide_eq_true ⟨h1, h2⟩]
    go_wp2_with fail
    refine (l1Of_any _ _ (by omega) (by omega)).mono ?_
    rintro e w1 ⟨rfl, g1⟩
    go_wp2_with fail
    go_ret2
    exact ⟨rfl, g1⟩
  · rw [if_neg h]
    have H := Lib.hid h; clear h
    go_enter Tryz.func7, Tryz.ntmps7
    go_wp2_with fail
    refine (l6In_any _ _ _ _).mono ?_
    rintro e w1 ⟨rfl, rfl⟩
    rw [show (decide (1 ≤ n ∧ n ≤ 3999)) = false from decide_eq_false H.out]
    go_wp2_with fail
    go_ret2
    exact ⟨rfl, Below.refl _ _⟩
end Go.Proofs.YthbdnmnhoifnoaaGreatDoor

/- The package-level table alphaRankValues: what the condition gives the walks, and that it reads again behind the call. -/
namespace Go.Proofs.YthbdnmnhoifnoaaGreatDoor
open Go.ChangeShapes Go.WideShapes Go.ChangeAt Go.WideMaps Go.WideElems Go.RowKit
set_option linter.unusedVariables false
set_option maxRecDepth 100000
/-- the values of the ranks -/
def rkv (j : Nat) : Int := [1, 10, 100].getD j 0
/-- the table lies in its variable's block -/
def AT (w : World) : Prop := 5 < w.heap.size ∧ ∀ j, j < 3 → w.cell? ⟨5, j, none⟩ = some (.int .i64 (rkv j))
def atLaid : List (String × DataW Unit) := [("loop.example/peoplesnumerals/impl.alphaRankValues", Rows.laid_loop_example_peoplesnumerals_impl_alphaRankValues)]
def laidStepsA : Nat := 400
theorem gAT : Tryz.prog.globalNamed "loop.example/peoplesnumerals/impl.alphaRankValues" = some 5 := by kernel_rfl
theorem tAT : (Tryz.prog.globals[5]?).map (·.type) = some 237 := by kernel_rfl
theorem cAT : Tryz.prog.cellsOf 237 = 3 := by kernel_rfl
theorem cIntA : Tryz.prog.cellsOf 3 = 1 := by kernel_rfl
def cells3 : Array Value := #[.int .i64 1, .int .i64 10, .int .i64 100]
theorem door_metA (os : Os) (args : Array Value) : laidMetH Tryz.prog atLaid ((World.doorLaid Tryz.prog laidStepsA os).forCall (fun _ _ => 0) ⟨#[], args, []⟩).memory :=
  laidMetH_of_parts3 (fuel := 8) (laidMet_of_run' 8 (by kernel_rfl) (by kernel_rfl)) (by kernel_rfl) (by kernel_rfl)
theorem int_of_trodA {H : Type} {enc : TypeId × Value → H} {P : Program} {w : World} {base : Nat} {sp : Nat → Bool} {held : Bool} {fuel : Nat} {t : TypeId} {k : IntKind} {c : Value} {y : DataW H × List MemPlace}
    (ht : P.underlying t = some (.int k)) (h : DataW.trod enc P w base sp held fuel t [c] = some y) : ∃ n, c = .int k n ∧ y = (.lit (.int k n), []) := by
  cases fuel with
  | zero => simp [DataW.trod] at h
  | succ fuel =>
    cases c <;> simp [DataW.trod, ht] at h
    rename_i k' n
    obtain ⟨⟨rfl, _⟩, rfl⟩ := h
    exact ⟨n, rfl, rfl⟩
theorem cells_of_itemA {W : World} (h : LaidItem Tryz.prog W "loop.example/peoplesnumerals/impl.alphaRankValues" Rows.laid_loop_example_peoplesnumerals_impl_alphaRankValues) : W.var? Tryz.prog "loop.example/peoplesnumerals/impl.alphaRankValues" = some cells3 := by
  obtain ⟨g, t, cs, fuel, p, hg, ht, hvar, hd⟩ := h
  obtain rfl := Option.some.inj (gAT.symm.trans hg)
  obtain rfl := Option.some.inj (tAT.symm.trans ht)
  rw [hvar]
  congr 1
  obtain ⟨l⟩ := cs
  cases fuel with
  | zero => simp [DataW.trod] at hd
  | succ fuel =>
    simp only [DataW.trod, Tryz.underlying237, cAT, cIntA] at hd
    split at hd
    · rename_i hl
      obtain ⟨c0, c1, c2, rfl⟩ : ∃ c0 c1 c2, l = [c0, c1, c2] := by
        match l, hl with
        | [a, b, c], _ => exact ⟨a, b, c, rfl⟩
      have e : List.range 3 = [0, 1, 2] := rfl
      rw [e] at hd
      simp only [Option.map_eq_some_iff, List.mapM_cons, List.mapM_nil, Option.bind_eq_bind, Option.bind_eq_some_iff, Option.pure_def, Option.some.injEq] at hd
      obtain ⟨xs, ⟨y0, h0, _, ⟨y1, h1, _, ⟨y2, h2, _, rfl, rfl⟩, rfl⟩, rfl⟩, hx⟩ := hd
      obtain ⟨n0, rfl, rfl⟩ := int_of_trodA Tryz.underlying3 h0
      obtain ⟨n1, rfl, rfl⟩ := int_of_trodA Tryz.underlying3 h1
      obtain ⟨n2, rfl, rfl⟩ := int_of_trodA Tryz.underlying3 h2
      simp [Rows.laid_loop_example_peoplesnumerals_impl_alphaRankValues] at hx
      obtain ⟨⟨rfl, rfl, rfl⟩, _⟩ := hx
      rfl
    · cases hd
theorem cells_of_laidA {W : World} (h : laidMetH Tryz.prog atLaid W) : W.var? Tryz.prog "loop.example/peoplesnumerals/impl.alphaRankValues" = some cells3 := by
  rw [MakeChecks.laidMetH_plain _ _ _ (by kernel_rfl)] at h
  obtain ⟨ps, ⟨g, t, cs, fuel, p, q, hg, ht, hvar, hd, _, _⟩, _⟩ := h
  exact cells_of_itemA ⟨g, t, cs, fuel, p, hg, ht, hvar, hd⟩
theorem at_var {W : World} (hv : W.var? Tryz.prog "loop.example/peoplesnumerals/impl.alphaRankValues" = some cells3) : AT W := by
  have hc : ∀ j, W.cell? ⟨5, j, none⟩ = cells3[j]? := fun j => World.var?_cell gAT hv j
  refine ⟨World.block_lt_of_cell? W ⟨5, 0, none⟩ (u := .int .i64 1) (hc 0), fun j hj => ?_⟩
  rw [hc j]
  rcases (show j = 0 ∨ j = 1 ∨ j = 2 by omega) with rfl | rfl | rfl <;> rfl
theorem at_of_laid {W : World} (h : laidMetH Tryz.prog atLaid W) : AT W := at_var (cells_of_laidA h)
abbrev tableA {H : Type} : DataW H := .agg [.lit (.int .i64 1), .lit (.int .i64 10), .lit (.int .i64 100)]
theorem reads_tableA {H : Type} (enc : TypeId × Value → H) (W : World) (sp : Nat → Bool) : DataW.trod enc Tryz.prog W 0 sp true 3 237 cells3.toList = some (tableA, []) := by kernel_rfl
theorem tab_at {W : World} (h : LaidItem Tryz.prog W "loop.example/peoplesnumerals/impl.alphaRankValues" Rows.laid_loop_example_peoplesnumerals_impl_alphaRankValues) : AT W ∧ TabAt Tryz.prog W "loop.example/peoplesnumerals/impl.alphaRankValues" := by
  have hv := cells_of_itemA h
  have hf := at_var hv
  exact ⟨hf, _, _, _, gAT, tAT, hv, hf.1, fun H enc => ⟨tableA, fun W' sp => reads_tableA enc W' sp⟩⟩
theorem laid_openA {H : Type} {enc : TypeId × Value → H} {W : World} {gs : List (DataW H)} {q : List MemPlace} (hL : laidMetH Tryz.prog atLaid W)
    (hV : DataW.TrodVars enc Tryz.prog W (fun _ => true) ["loop.example/peoplesnumerals/impl.alphaRankValues"] gs q) :
    AT W ∧ ∃ d, gs = [d] ∧ ∃ pv, ∀ (sp : Nat → Bool) {W' : World}, Below W.heap.size W W' → DataW.TrodVars enc Tryz.prog W' sp ["loop.example/peoplesnumerals/impl.alphaRankValues"] [d] pv := by
  have hlv := at_of_laid hL
  obtain ⟨g, t, cs, fuel, d, p', rfl, hg, ht, hvar, hd, rfl⟩ := trodVars_one hV
  obtain rfl := Option.some.inj (gAT.symm.trans hg)
  obtain rfl := Option.some.inj (tAT.symm.trans ht)
  obtain rfl : cs = cells3 := Option.some.inj (hvar.symm.trans (cells_of_laidA hL))
  obtain ⟨rfl, rfl⟩ := DataW.Trod.unique (v := .agg cells3) ⟨fuel, hd⟩ ⟨3, reads_tableA enc W _⟩
  refine ⟨hlv, _, rfl, MemPlace.row ⟨5, 0, none⟩ cells3.size ++ [] ++ [], fun sp W' bel => ?_⟩
  exact ⟨5, 237, cells3, 3, [], [], gAT, tAT, var?_below bel gAT hlv.1 hvar, reads_tableA enc W' sp, rfl, rfl⟩
theorem AT.below {B : Nat} {w w' : World} (h : AT w) (hb : Below B w w') (hB : 5 < B) : AT w' :=
  ⟨Nat.lt_of_lt_of_le h.1 hb.size, fun j hj => (hb.cell (p := ⟨5, j, none⟩) hB).trans (h.2 j hj)⟩
theorem AT.step {w w' : World} (h : AT w) (hb : Below w.heap.size w w') : AT w' := h.below hb h.1
theorem AT.alloc {w : World} (h : AT w) (o : Obj) : AT (w.alloc o) := h.step ((Below.refl _ _).alloc (Nat.le_refl _) o)
theorem AT.grown {w w' : World} {r : Nat} (h : AT w) (hg : w.grownBy w' (some r)) (hr : 5 < r) : AT w' :=
  ⟨Nat.lt_of_lt_of_le h.1 hg.size, fun j hj => hg.cell (h.2 j hj) (by simp; omega)⟩
end Go.Proofs.YthbdnmnhoifnoaaGreatDoor

/- Words with a sum, plain: the fewest letters, the first word of the shortest, the search over letters in their order. No program. -/
namespace Go.Proofs.YthbdnmnhoifnoaaGreatDoor
set_option linter.unusedVariables false
set_option maxRecDepth 100000
/-- the letters as texts are compared: the sign for 900 first -/
def L27 : List Nat := 26 :: List.range 26
theorem mem27 (i : Nat) : i ∈ L27 ↔ i < 27 := by
  unfold L27
  simp only [List.mem_cons, List.mem_range]
  omega
theorem nodup27 : L27.Nodup := by decide
theorem len27 : L27.length = 27 := by decide
/-- the value of the letter at a place -/
def vn (i : Nat) : Nat := (i % 9 + 1) * 10 ^ (i / 9)
theorem vl_vn (i : Nat) : vl i = (vn i : Nat) := by
  unfold vl vn
  rw [Int.natCast_mul, Int.natCast_pow]
  rfl
theorem vn_bd (i : Nat) (h : i < 27) : 1 ≤ vn i ∧ vn i ≤ 900 := by
  have := vl_bd i h
  rw [vl_vn] at this
  omega
/-- the best of some letters for the sum x, t telling the fewest of all lesser ones -/
def bestF (t : List Nat) (x : Nat) : List Nat → Nat → Nat
  | [], b => b
  | i :: is, b => bestF t x is (if vn i ≤ x then min b (1 + t.getD (x - vn i) 0) else b)
theorem bestF_append (t : List Nat) (x : Nat) (a c : List Nat) (b : Nat) : bestF t x (a ++ c) b = bestF t x c (bestF t x a b) := by
  induction a generalizing b with
  | nil => rfl
  | cons i is ih => simp only [List.cons_append, bestF]; rw [ih]
theorem bestF_le (t : List Nat) (x : Nat) (is : List Nat) (b : Nat) : bestF t x is b ≤ b ∧ ∀ i ∈ is, vn i ≤ x → bestF t x is b ≤ 1 + t.getD (x - vn i) 0 := by
  induction is generalizing b with
  | nil => exact ⟨Nat.le_refl _, fun i hi => by simp at hi⟩
  | cons j js ih =>
    simp only [bestF]
    obtain ⟨h1, h2⟩ := ih (if vn j ≤ x then min b (1 + t.getD (x - vn j) 0) else b)
    have h3 : (if vn j ≤ x then min b (1 + t.getD (x - vn j) 0) else b) ≤ b := by split <;> omega
    refine ⟨Nat.le_trans h1 h3, fun i hi hv => ?_⟩
    rcases List.mem_cons.1 hi with rfl | hi
    · rw [if_pos hv] at h1 ⊢
      omega
    · exact h2 i hi hv
theorem bestF_ex (t : List Nat) (x : Nat) (is : List Nat) (b : Nat) : bestF t x is b = b ∨ ∃ i ∈ is, vn i ≤ x ∧ bestF t x is b = 1 + t.getD (x - vn i) 0 := by
  induction is generalizing b with
  | nil => exact .inl rfl
  | cons j js ih =>
    simp only [bestF]
    rcases ih (if vn j ≤ x then min b (1 + t.getD (x - vn j) 0) else b) with h | ⟨i, hi, hv, he⟩
    · by_cases hv : vn j ≤ x
      · rw [if_pos hv] at h ⊢
        by_cases hb : b ≤ 1 + t.getD (x - vn j) 0
        · exact .inl (by omega)
        · exact .inr ⟨j, by simp, hv, by omega⟩
      · rw [if_neg hv] at h ⊢
        exact .inl h
    · exact .inr ⟨i, by simp [hi], hv, he⟩
/-- the fewest letters of all sums up to n -/
def fewT : Nat → List Nat
  | 0 => [0]
  | n + 1 => fewT n ++ [bestF (fewT n) (n + 1) L27 (n + 1)]
theorem fewT_len (n : Nat) : (fewT n).length = n + 1 := by
  induction n with
  | zero => rfl
  | succ n ih => simp [fewT, ih]
/-- the fewest letters with a sum -/
def few (n : Nat) : Nat := (fewT n).getD n 0
theorem fewT_at (n x : Nat) (h : x ≤ n) : (fewT n).getD x 0 = few x := by
  induction n with
  | zero => obtain rfl : x = 0 := by omega
            rfl
  | succ n ih =>
    by_cases hx : x ≤ n
    · rw [← ih hx]
      simp only [fewT, List.getD_eq_getElem?_getD]
      rw [List.getElem?_append_left (by rw [fewT_len]; omega)]
    · obtain rfl : x = n + 1 := by omega
      rfl
theorem few_zero : few 0 = 0 := rfl
theorem few_succ (n : Nat) : few (n + 1) = bestF (fewT n) (n + 1) L27 (n + 1) := by
  unfold few
  simp only [fewT, List.getD_eq_getElem?_getD]
  rw [List.getElem?_append_right (by rw [fewT_len]; omega), fewT_len]
  simp
theorem few_step (x i : Nat) (hi : i < 27) (hv : vn i ≤ x) : few x ≤ 1 + few (x - vn i) := by
  have h1 := (vn_bd i hi).1
  obtain ⟨n, rfl⟩ : ∃ n, x = n + 1 := ⟨x - 1, by omega⟩
  rw [few_succ, ← fewT_at n (n + 1 - vn i) (by omega)]
  exact (bestF_le _ _ _ _).2 i ((mem27 i).2 hi) hv
theorem few_le (x : Nat) : few x ≤ x := by
  cases x with
  | zero => exact Nat.le_refl _
  | succ n => rw [few_succ]; exact (bestF_le _ _ _ _).1
theorem few_ex (x : Nat) (h : 1 ≤ x) : ∃ i, i < 27 ∧ vn i ≤ x ∧ few x = 1 + few (x - vn i) := by
  obtain ⟨n, rfl⟩ : ∃ n, x = n + 1 := ⟨x - 1, by omega⟩
  rcases bestF_ex (fewT n) (n + 1) L27 (n + 1) with h | ⟨i, hi, hv, he⟩
  · rw [← few_succ] at h
    have h0 : vn 0 = 1 := rfl
    have h1 := few_step (n + 1) 0 (by omega) (by omega)
    have h2 := few_le n
    rw [h0, Nat.add_sub_cancel] at h1
    exact ⟨0, by omega, by omega, by rw [h0, Nat.add_sub_cancel]; omega⟩
  · have hi' := (mem27 i).1 hi
    have h1 := (vn_bd i hi').1
    rw [← few_succ, fewT_at n (n + 1 - vn i) (by omega)] at he
    exact ⟨i, hi', hv, he⟩
theorem few_pos (x : Nat) (h : 1 ≤ x) : 1 ≤ few x := by
  obtain ⟨i, _, _, he⟩ := few_ex x h
  omega
/-- the sum of a word, told by places of letters -/
def wsum : List Nat → Nat
  | [] => 0
  | i :: r => vn i + wsum r
theorem few_word (w : List Nat) (h : ∀ i ∈ w, i < 27) : few (wsum w) ≤ w.length := by
  induction w with
  | nil => exact Nat.le_refl _
  | cons i r ih =>
    have h1 := few_step (wsum (i :: r)) i (h i (by simp)) (by simp [wsum])
    have h2 := ih (fun j hj => h j (by simp [hj]))
    simp only [wsum] at h1 ⊢
    rw [Nat.add_sub_cancel_left] at h1
    simp only [List.length_cons]
    omega
/-- may this letter be the first one of a shortest word? -/
def adm (n i : Nat) : Bool := decide (vn i ≤ n) && decide (few (n - vn i) + 1 = few n)
theorem adm_iff (n i : Nat) : adm n i = true ↔ vn i ≤ n ∧ few (n - vn i) + 1 = few n := by
  unfold adm; rw [Bool.and_eq_true, decide_eq_true_eq, decide_eq_true_eq]
/-- the first word, as texts, of the shortest with a sum, c the number of its letters -/
def gr : Nat → Nat → List Nat
  | 0, _ => []
  | c + 1, n => match L27.find? (adm n) with
    | some i => i :: gr c (n - vn i)
    | none => []
theorem gr_step (c n : Nat) (h : few n = c + 1) : ∃ i, i < 27 ∧ L27.find? (adm n) = some i ∧ vn i ≤ n ∧ few (n - vn i) = c ∧ gr (c + 1) n = i :: gr c (n - vn i) := by
  have hn : 1 ≤ n := by
    rcases Nat.eq_zero_or_pos n with rfl | h'
    · rw [few_zero] at h; omega
    · exact h'
  obtain ⟨j, hj, hv, he⟩ := few_ex n hn
  cases hf : L27.find? (adm n) with
  | none =>
    have := List.find?_eq_none.1 hf j ((mem27 j).2 hj)
    exact absurd ((adm_iff n j).2 ⟨hv, by omega⟩) this
  | some i =>
    have h1 := (adm_iff n i).1 (List.find?_some hf)
    have h2 := (mem27 i).1 (List.mem_of_find?_eq_some hf)
    exact ⟨i, h2, rfl, h1.1, by omega, by simp only [gr, hf]⟩
theorem gr_word (c : Nat) : ∀ n, few n = c → (∀ i ∈ gr c n, i < 27) ∧ wsum (gr c n) = n ∧ (gr c n).length = c := by
  induction c with
  | zero =>
    intro n h
    have : n = 0 := by
      rcases Nat.eq_zero_or_pos n with h' | h'
      · exact h'
      · have := few_pos n h'; omega
    subst this
    exact ⟨fun i hi => by simp [gr] at hi, rfl, rfl⟩
  | succ c ih =>
    intro n h
    obtain ⟨i, hi, _, hv, hf, e⟩ := gr_step c n h
    obtain ⟨h1, h2, h3⟩ := ih _ hf
    rw [e]
    refine ⟨fun j hj => ?_, ?_, by simp [h3]⟩
    · rcases List.mem_cons.1 hj with rfl | hj
      · exact hi
      · exact h1 j hj
    · simp only [wsum, h2]; omega
/-- the search: letters in their order, each word's letters in this order, too -/
def tryS (f : List Nat → Int → Option (List Nat)) : List Nat → Int → Option (List Nat)
  | [], _ => none
  | x :: xs, s => match f (x :: xs) (s - vl x) with
    | some w => some (x :: w)
    | none => tryS f xs s
def dfs : Nat → List Nat → Int → Option (List Nat)
  | 0, _, s => if s < 0 ∨ 0 < s then none else some []
  | c + 1, ls, s => if s < (c : Int) + 1 ∨ ((c : Int) + 1) * 900 < s then none else tryS (dfs c) ls s
theorem tryS_some (f : List Nat → Int → Option (List Nat)) (ls : List Nat) (s : Int) (w : List Nat) (h : tryS f ls s = some w) :
    ∃ a x b v, ls = a ++ x :: b ∧ w = x :: v ∧ f (x :: b) (s - vl x) = some v := by
  induction ls with
  | nil => simp [tryS] at h
  | cons y ys ih =>
    simp only [tryS] at h
    split at h
    · rename_i v hv
      exact ⟨[], y, ys, v, rfl, (Option.some.inj h).symm, hv⟩
    · obtain ⟨a, x, b, v, e, hw, hf⟩ := ih h
      exact ⟨y :: a, x, b, v, by rw [e]; rfl, hw, hf⟩
theorem dfs_some (c : Nat) : ∀ (ls : List Nat) (s : Int) (w : List Nat), (∀ i ∈ ls, i < 27) → dfs c ls s = some w → (∀ i ∈ w, i < 27) ∧ (wsum w : Int) = s ∧ w.length = c := by
  induction c with
  | zero =>
    intro ls s w _ h
    simp only [dfs] at h
    split at h
    · cases h
    · cases h
      exact ⟨fun i hi => by simp at hi, by simp [wsum]; omega, rfl⟩
  | succ c ih =>
    intro ls s w hls h
    simp only [dfs] at h
    split at h
    · cases h
    · obtain ⟨a, x, b, v, e, rfl, hf⟩ := tryS_some _ _ _ _ h
      have hx : x < 27 := hls x (by rw [e]; simp)
      obtain ⟨h1, h2, h3⟩ := ih (x :: b) _ v (fun i hi => hls i (by rw [e]; simp at hi ⊢; rcases hi with h | h <;> simp [h])) hf
      refine ⟨fun j hj => ?_, ?_, by simp [h3]⟩
      · rcases List.mem_cons.1 hj with rfl | hj
        · exact hx
        · exact h1 j hj
      · rw [vl_vn] at h2
        simp only [wsum]
        omega
theorem dfs_none (c n : Nat) (ls : List Nat) (hls : ∀ i ∈ ls, i < 27) (h : c < few n) : dfs c ls n = none := by
  cases hd : dfs c ls n with
  | none => rfl
  | some w =>
    obtain ⟨h1, h2, h3⟩ := dfs_some c ls n w hls hd
    have := few_word w h1
    rw [show wsum w = n by omega] at this
    omega
theorem dfs_neg (c : Nat) (s : Int) (ls : List Nat) (hls : ∀ i ∈ ls, i < 27) (h : s < 0) : dfs c ls s = none := by
  cases hd : dfs c ls s with
  | none => rfl
  | some w =>
    obtain ⟨h1, h2, h3⟩ := dfs_some c ls s w hls hd
    omega
theorem tryS_skip (f : List Nat → Int → Option (List Nat)) (s : Int) (a : List Nat) (x : Nat) (b w : List Nat)
    (hno : ∀ a1 y a2, a = a1 ++ y :: a2 → f (y :: (a2 ++ x :: b)) (s - vl y) = none) (hx : f (x :: b) (s - vl x) = some w) : tryS f (a ++ x :: b) s = some (x :: w) := by
  induction a with
  | nil => simp only [List.nil_append, tryS, hx]
  | cons y ys ih =>
    simp only [List.cons_append, tryS]
    rw [hno [] y ys rfl]
    exact ih (fun a1 z a2 e => hno (y :: a1) z a2 (by rw [e]; rfl))
theorem dfs_few (c : Nat) : ∀ (n : Nat) (pre ls : List Nat), L27 = pre ++ ls → few n = c → (∀ i, i < 27 → adm n i = true → i ∈ ls) → dfs c ls n = some (gr c n) := by
  induction c with
  | zero =>
    intro n pre ls _ h _
    have : n = 0 := by
      rcases Nat.eq_zero_or_pos n with h' | h'
      · exact h'
      · have := few_pos n h'; omega
    subst this
    rfl
  | succ c ih =>
    intro n pre ls hL h hadm
    obtain ⟨x, hx, hfind, hv, hf, e⟩ := gr_step c n h
    have hls : ∀ i ∈ ls, i < 27 := fun i hi => (mem27 i).1 (by rw [hL]; simp [hi])
    have hnd : (pre ++ ls).Nodup := hL ▸ nodup27
    have hpre : pre.find? (adm n) = none := by
      rw [List.find?_eq_none]
      intro y hy hya
      have h1 := hadm y ((mem27 y).1 (by rw [hL]; simp [hy])) hya
      exact (List.nodup_append.1 hnd).2.2 y hy y h1 rfl
    rw [hL, List.find?_append, hpre, Option.none_or] at hfind
    obtain ⟨hxa, a, b, hab, hna⟩ := List.find?_eq_some_iff_append.1 hfind
    obtain ⟨w1, w2, w3⟩ := gr_word (c + 1) n h
    have hlo : ∀ w : List Nat, (∀ i ∈ w, i < 27) → w.length ≤ wsum w ∧ wsum w ≤ 900 * w.length := by
      intro w hw
      induction w with
      | nil => simp [wsum]
      | cons i r ihr =>
        have h1 := vn_bd i (hw i (by simp))
        have h2 := ihr (fun j hj => hw j (by simp [hj]))
        simp only [wsum, List.length_cons]
        omega
    have hb := hlo _ w1
    rw [w2, w3] at hb
    simp only [dfs]
    rw [if_neg (by omega), e, hab]
    refine tryS_skip _ _ a x b _ ?_ ?_
    · intro a1 y a2 hay
      have hym : y ∈ ls := by rw [hab, hay]; simp
      have hy27 := hls y hym
      have hyn : adm n y = false := by
        have := hna y (by rw [hay]; simp)
        simpa using this
      have hsub : ∀ i ∈ y :: (a2 ++ x :: b), i < 27 := fun i hi => hls i (by rw [hab, hay]; simp at hi ⊢; rcases hi with h | h | h | h <;> simp [h])
      rw [vl_vn]
      by_cases hvy : vn y ≤ n
      · have h1 := few_step n y hy27 hvy
        have h2 : few (n - vn y) + 1 ≠ few n := fun e' => by
          have := (adm_iff n y).2 ⟨hvy, e'⟩
          rw [this] at hyn; cases hyn
        rw [show ((n : Int) - (vn y : Nat)) = ((n - vn y : Nat) : Int) by omega]
        exact dfs_none c _ _ hsub (by omega)
      · exact dfs_neg c _ _ hsub (by omega)
    · rw [vl_vn, show ((n : Int) - (vn x : Nat)) = ((n - vn x : Nat) : Int) by omega]
      refine ih (n - vn x) (pre ++ a) (x :: b) (by rw [hL, hab, List.append_assoc]) hf ?_
      intro y hy hya
      obtain ⟨y1, y2⟩ := (adm_iff _ _).1 hya
      have z1 := few_step (n - vn y) x hx (by omega)
      have z2 := few_step n y hy (by omega)
      rw [show n - vn y - vn x = n - vn x - vn y by omega] at z1
      have h1 : adm n y = true := (adm_iff n y).2 ⟨by omega, by omega⟩
      have h2 := hadm y hy h1
      rw [hab] at h2
      rcases List.mem_append.1 h2 with h3 | h3
      · have := hna y h3
        rw [h1] at this
        simp at this
      · exact h3
theorem few_digits (n : Nat) (h : n < 1000) : few n ≤ (aof n).length := by
  rw [aof_len_low n h]
  have s1 : ∀ m, m < 10 → few m ≤ if m = 0 then 0 else 1 := by
    intro m hm
    split
    · rename_i h0; subst h0; exact Nat.le_refl _
    · have hv : vn (m - 1) = m := by unfold vn; rw [show (m - 1) % 9 + 1 = m by omega, show (m - 1) / 9 = 0 by omega]; simp
      have := few_step m (m - 1) (by omega) (by omega)
      rw [hv, Nat.sub_self, few_zero] at this
      exact this
  have s2 : ∀ m, m < 100 → few m ≤ (if m / 10 = 0 then 0 else 1) + if m % 10 = 0 then 0 else 1 := by
    intro m hm
    split
    · have := s1 m (by omega)
      rw [show m % 10 = m by omega]
      omega
    · have hv : vn (8 + m / 10) = m / 10 * 10 := by unfold vn; rw [show (8 + m / 10) % 9 + 1 = m / 10 by omega, show (8 + m / 10) / 9 = 1 by omega]
      have h1 := few_step m (8 + m / 10) (by omega) (by omega)
      rw [hv, show m - m / 10 * 10 = m % 10 by omega] at h1
      have h2 := s1 (m % 10) (by omega)
      omega
  by_cases hz : n / 100 = 0
  · have := s2 n (by omega)
    rw [if_pos (by omega), show n / 10 % 10 = n / 10 by omega]
    omega
  · have hv : vn (17 + n / 100) = n / 100 * 100 := by unfold vn; rw [show (17 + n / 100) % 9 + 1 = n / 100 by omega, show (17 + n / 100) / 9 = 2 by omega]
    have h1 := few_step n (17 + n / 100) (by omega) (by omega)
    rw [hv, show n - n / 100 * 100 = n % 100 by omega] at h1
    have h2 := s2 (n % 100) (by omega)
    rw [show n % 100 / 10 = n / 10 % 10 by omega, show n % 100 % 10 = n % 10 by omega] at h2
    rw [if_neg (by omega)]
    omega
theorem few_five (n : Nat) (h : n ≤ 2000) : few n ≤ 5 := by
  have h3 : ∀ m, m < 1000 → few m ≤ 3 := fun m hm => by
    have h1 := few_digits m hm
    rw [aof_len_low m hm] at h1
    refine Nat.le_trans h1 ?_
    split <;> split <;> split <;> omega
  have hv : vn 26 = 900 := rfl
  by_cases h1 : n < 1000
  · have := h3 n h1; omega
  · have k1 := few_step n 26 (by omega) (by omega)
    rw [hv] at k1
    by_cases h2 : n < 1900
    · have := h3 (n - 900) (by omega); omega
    · have k2 := few_step (n - 900) 26 (by omega) (by omega)
      rw [hv] at k2
      have := h3 (n - 900 - 900) (by omega)
      omega
/-- the text of a word -/
def wtext (w : List Nat) : List UInt8 := w.map lt
theorem wtext_sum (w : List Nat) (h : ∀ i ∈ w, i < 27) : asum (wtext w) = (wsum w : Nat) ∧ okA (wtext w) = true := by
  induction w with
  | nil => exact ⟨rfl, rfl⟩
  | cons i r ih =>
    obtain ⟨h1, h2⟩ := ih (fun j hj => h j (by simp [hj]))
    have hi := h i (by simp)
    have hb := vl_bd i hi
    unfold wtext at *
    simp only [List.map_cons, asum, okA_cons, wsum]
    rw [av_lt i hi, h1, h2]
    refine ⟨by rw [vl_vn]; omega, by simp; omega⟩
/-- the first word of the shortest -/
def least (n : Nat) : List UInt8 := wtext (gr (few n) n)
theorem least_facts (n : Nat) : asum (least n) = n ∧ okA (least n) = true ∧ (least n).length = few n := by
  obtain ⟨h1, h2, h3⟩ := gr_word (few n) n rfl
  obtain ⟨h4, h5⟩ := wtext_sum _ h1
  refine ⟨by unfold least; rw [h4, h2], h5, by unfold least wtext; rw [List.length_map, h3]⟩
end Go.Proofs.YthbdnmnhoifnoaaGreatDoor

/- The program's letters with values: the library's three functions that it calls, alphaLetterOf, sign, value, signOfDigit. -/
namespace Go.Proofs.YthbdnmnhoifnoaaGreatDoor
open Go.RowKit
set_option linter.unusedVariables false
set_option maxRecDepth 100000
theorem ret_val {a b : Value} (h : a = b) : Ending.returned a = .returned b := by rw [h]
def signsA : ByteArray := ⟨#[97, 98, 99, 100, 101, 102, 103, 104, 105, 106, 107, 108, 109, 110, 111, 112, 113, 114, 115, 116, 117, 118, 119, 120, 121, 122, 42]⟩
/-- the place of a letter, -1 for another byte -/
def ixA (c : Int) : Int := if 97 ≤ c ∧ c ≤ 122 then c - 97 else if c = 42 then 26 else -1
theorem indexByte_signs (c : UInt8) : Lib.indexByte signsA.data.toList c = ixA (c.toNat : Int) := by
  have h : ∀ k, k < 256 → Lib.indexByte signsA.data.toList (UInt8.ofNat k) = ixA ((UInt8.ofNat k).toNat : Int) := by decide +kernel
  have e := h c.toNat c.toNat_lt
  rwa [UInt8.ofNat_toNat] at e
theorem ixA_bd (c : Int) : -1 ≤ ixA c ∧ ixA c ≤ 26 := by unfold ixA; split <;> (try split) <;> omega
theorem av_ix (c : Int) (h : 0 ≤ ixA c) : av c = vl (ixA c).toNat := by
  unfold ixA at *
  split at h
  · rename_i hc
    rw [if_pos hc]
    have e : ∀ k, k < 26 → av ((97 + k : Nat) : Int) = vl k := by decide +kernel
    have := e (c - 97).toNat (by omega)
    rwa [show ((97 + (c - 97).toNat : Nat) : Int) = c by omega] at this
  · split at h
    · rename_i hn hc
      subst hc
      decide
    · omega
theorem av_no (c : Int) (h : ixA c < 0) : av c = 0 := by
  unfold ixA at h
  split at h
  · omega
  · split at h
    · omega
    · unfold av
      repeat (first | omega | split)
theorem av_pos_ix (c : Int) : 0 < av c ↔ 0 ≤ ixA c := by
  constructor
  · intro h
    rcases Int.lt_or_le (ixA c) 0 with h' | h'
    · rw [av_no c h'] at h; omega
    · exact h'
  · intro h
    rw [av_ix c h]
    have := ixA_bd c
    have := (vl_bd (ixA c).toNat (by omega)).1
    omega
set_option maxRecDepth 100000 in
theorem liteIndexByte_any (s : ByteArray) (c : UInt8) (w : World) : Calls Tryz.prog 121 #[.string s, .int .u8 (c.toNat : Int)] w fun e w' => e = .returned (.int .i64 (Lib.indexByte s.data.toList c)) ∧ w = w' := by
  have h := Lib.run_indexByteString (P := Tryz.prog) s (c.toNat : Int) w
  rw [show ((c.toNat : Int)).toNat.toUInt8 = c by simp] at h
  have H := Lib.hid h; clear h
  go_enter Tryz.func121, Tryz.ntmps121
  go_wp2
  rw [run_callFunc_extern Tryz.func168 (by kernel_rfl) (by kernel_rfl) (by kernel_rfl) (e := Extern.BytealgIndexByte.indexByte) (by kernel_rfl), H.out]
  simp only [Result.andThen]
  rw [Oper.upon_value]
  go_wp2
  go_ret
  exact ⟨rfl, rfl⟩
theorem indexByte_any (s : ByteArray) (c : UInt8) (w : World) : Calls Tryz.prog 199 #[.string s, .int .u8 (c.toNat : Int)] w fun e w' => e = .returned (.int .i64 (Lib.indexByte s.data.toList c)) ∧ w = w' := by
  go_enter Tryz.func199, Tryz.ntmps199
  go_wp2_with fail
  refine (liteIndexByte_any _ _ _).mono ?_
  rintro e w1 ⟨rfl, rfl⟩
  go_wp2_with fail
  go_ret
  exact ⟨rfl, rfl⟩
/-- alphaLetterOf's answer -/
def letterR (c : Int) : Value := if 0 ≤ ixA c then .tuple #[.int .i64 (ixA c), .bool true] else .tuple #[.int .i64 0, .bool false]
theorem alphaLetterOf_any (c : UInt8) (w : World) : Calls Tryz.prog 175 #[.int .u8 (c.toNat : Int)] w fun e w' => e = .returned (letterR (c.toNat : Int)) ∧ w = w' := by
  have hs := indexByte_signs c
  have hb := ixA_bd (c.toNat : Int)
  unfold letterR
  generalize ixA (c.toNat : Int) = z at *
  have Hs := Lib.hid hs; clear hs
  by_cases hz : 0 ≤ z
  · rw [if_pos hz]
    go_enter Tryz.func175, Tryz.ntmps175
    go_wp2_with fail
    refine (indexByte_any signsA c _).mono ?_
    rw [Hs.out]
    rintro e w1 ⟨rfl, rfl⟩
    go_wp2_with fail
    go_ret2
    exact ⟨rfl, rfl⟩
  · rw [if_neg hz]
    have hz' : z < 0 := by omega
    clear hz
    go_enter Tryz.func175, Tryz.ntmps175
    go_wp2_with fail
    refine (indexByte_any signsA c _).mono ?_
    rw [Hs.out]
    rintro e w1 ⟨rfl, rfl⟩
    go_wp2_with fail
    go_ret2
    exact ⟨rfl, rfl⟩
theorem sign_cut : ∀ l, l < 27 → signsA.extract l (l + 1) = ⟨[lt l].toArray⟩ := by
  have h : ∀ l, l < 27 → (signsA.extract l (l + 1)).data = [lt l].toArray := by decide +kernel
  exact fun l hl => ByteArray.ext (h l hl)
theorem aSign_any (l : Nat) (w : World) (h : l < 27) : Calls Tryz.prog 188 #[.int .i64 l] w fun e w' => e = .returned (.string ⟨[lt l].toArray⟩) ∧ w = w' := by
  have H := Lib.hid (sign_cut l h)
  go_enter Tryz.func188, Tryz.ntmps188
  go_wp2
  go_ret
  exact ⟨ret_val (congrArg Value.string H.out), rfl⟩
theorem aValue_any (l : Nat) (w : World) (hw : AT w) (h : l < 27) : Calls Tryz.prog 176 #[.int .i64 l] w fun e w' => e = .returned (.int .i64 (vl l)) ∧ w = w' := by
  have hc := hw.2 (l / 9) (by omega)
  have Hv := Lib.hid (vl_vn l)
  unfold vn at Hv
  clear hw
  rcases (show l / 9 = 0 ∨ l / 9 = 1 ∨ l / 9 = 2 by omega) with hq | hq | hq
  all_goals
    rw [hq] at Hv
    rw [show rkv (l / 9) = _ from by rw [hq]] at hc
    simp only [rkv, List.getD_cons_zero, List.getD_cons_succ] at hc
    have Hq := Lib.hid hq; clear hq
    go_enter Tryz.func176, Tryz.ntmps176
    go_wp2
    go_ret
    refine ⟨ret_int ?_, rfl⟩
    rw [Hv.out]
    omega
theorem signOfDigit_any (d p : Nat) (w : World) (hd : d ≤ 9) (hp : p ≤ 2) : Calls Tryz.prog 202 #[.int .i64 d, .int .i64 p] w fun e w' => e = .returned (.string ⟨(dl d p).toArray⟩) ∧ w = w' := by
  unfold dl
  by_cases h : d = 0
  · subst h
    rw [if_pos rfl]
    go_enter Tryz.func202, Tryz.ntmps202
    go_wp2
    go_ret
    exact ⟨rfl, rfl⟩
  · rw [if_neg h]
    have hz : ((d : Int) == 0) = false := by rw [beq_eq_false_iff_ne]; omega
    have He := Lib.hid (show (p : Int) * 9 + d - 1 = ((9 * p + d - 1 : Nat) : Int) by omega)
    clear h
    go_enter Tryz.func202, Tryz.ntmps202
    go_wp2_with fail
    rw [He.out]
    refine (aSign_any _ _ (by omega)).mono ?_
    rintro e w1 ⟨rfl, rfl⟩
    go_wp2_with fail
    go_ret
    exact ⟨rfl, rfl⟩
end Go.Proofs.YthbdnmnhoifnoaaGreatDoor

/- The program's AlphaOf, sumOfLetters, cutThousands. -/
namespace Go.Proofs.YthbdnmnhoifnoaaGreatDoor
open Go.RowKit
set_option linter.unusedVariables false
set_option maxRecDepth 100000
theorem signOfDigit_int (d p : Int) (w : World) (h0 : 0 ≤ d) (hd : d ≤ 9) (hp0 : 0 ≤ p) (hp : p ≤ 2) : Calls Tryz.prog 202 #[.int .i64 d, .int .i64 p] w fun e w' => e = .returned (.string ⟨(dl d.toNat p.toNat).toArray⟩) ∧ w = w' := by
  obtain ⟨a, rfl⟩ := Int.eq_ofNat_of_zero_le h0
  obtain ⟨b, rfl⟩ := Int.eq_ofNat_of_zero_le hp0
  exact signOfDigit_any a b w (by omega) (by omega)
/-- AlphaOf's answer -/
def alphaOfR (n : Int) : Value := if 1 ≤ n ∧ n ≤ 9999 then .tuple #[.string ⟨(aof n.toNat).toArray⟩, .bool true] else .tuple #[.string ⟨#[]⟩, .bool false]
theorem dl_int (d p : Int) (a b : Nat) (h1 : d.toNat = a) (h2 : p.toNat = b) : dl d.toNat p.toNat = dl a b := by rw [h1, h2]
set_option maxRecDepth 100000 in
theorem iAlphaOf_nat (n : Nat) (w : World) (hw : AT w) (h1 : 1 ≤ n) (h2 : n ≤ 9999) :
    Calls Tryz.prog 170 #[.int .i64 n] w fun e w' => e = .returned (.tuple #[.string ⟨(aof n).toArray⟩, .bool true]) ∧ w = w' := by
  have Hw := Lib.hid hw; clear hw
  obtain ⟨L0, H0, b0⟩ : ∃ L : List UInt8, Hid (dl ((n : Int) / 1000).toNat (0 : Int).toNat = L) ∧ L.length ≤ 1 := ⟨_, Lib.hid rfl, dl_len _ _⟩
  obtain ⟨L1, H1, b1⟩ : ∃ L : List UInt8, Hid (dl ((n : Int) / 100 % 10).toNat (2 : Int).toNat = L) ∧ L.length ≤ 1 := ⟨_, Lib.hid rfl, dl_len _ _⟩
  obtain ⟨L2, H2, b2⟩ : ∃ L : List UInt8, Hid (dl ((n : Int) / 10 % 10).toNat (1 : Int).toNat = L) ∧ L.length ≤ 1 := ⟨_, Lib.hid rfl, dl_len _ _⟩
  obtain ⟨L3, H3, b3⟩ : ∃ L : List UInt8, Hid (dl ((n : Int) % 10).toNat (0 : Int).toNat = L) ∧ L.length ≤ 1 := ⟨_, Lib.hid rfl, dl_len _ _⟩
  obtain ⟨hd, Hd, b4⟩ : ∃ hd : List UInt8, Hid (hd = if n / 1000 = 0 then [] else 39 :: L0) ∧ hd.length ≤ 2 := ⟨_, Lib.hid rfl, by split <;> simp; omega⟩
  have Hh : Hid (aof n = hd ++ L1 ++ L2 ++ L3) := by
    show _ = _
    rw [Hd.out, ← H0.out, ← H1.out, ← H2.out, ← H3.out, show ((n : Int) / 1000).toNat = n / 1000 by omega, show ((n : Int) / 100 % 10).toNat = n / 100 % 10 by omega, show ((n : Int) / 10 % 10).toNat = n / 10 % 10 by omega, show ((n : Int) % 10).toNat = n % 10 by omega]
    unfold aof
    simp only [List.append_assoc]
    rfl
  have hA : decide ((n : Int) < 1) = false := decide_eq_false (by omega)
  have hB : decide (9999 < (n : Int)) = false := decide_eq_false (by omega)
  rcases Nat.lt_or_ge n 1000 with hc | hc
  all_goals
    have hC : decide (1000 ≤ (n : Int)) = decide (1000 ≤ n) := by simp; omega
    first | rw [show decide (1000 ≤ n) = false from decide_eq_false (by omega)] at hC | rw [show decide (1000 ≤ n) = true from decide_eq_true (by omega)] at hC
    go_enter Tryz.func170, Tryz.ntmps170
    go_wp2_with fail
    try (refine (signOfDigit_int _ _ _ (by omega) (by omega) (by omega) (by omega)).mono ?_; rw [H0.out]; rintro e w1 ⟨rfl, rfl⟩; go_wp2_with fail)
    go_loop [4, 5] (fun t i => ∃ (k : Nat) (tl : List UInt8), k ≤ 3 ∧ tl.length ≤ 2 + k ∧ t = .string ⟨tl.toArray⟩ ∧ i = .int .i64 (2 - (k : Int)) ∧ Hid (tl = if k = 0 then hd else if k = 1 then hd ++ L1 else if k = 2 then hd ++ L1 ++ L2 else hd ++ L1 ++ L2 ++ L3)) (fun _ i => (intOf i + 1).toNat)
    case atStart =>
      refine ⟨0, hd, by omega, by omega, ?_, rfl, Lib.hid rfl⟩
      have e := Hd.out
      first
        | (rw [if_pos (by omega)] at e; subst e; rfl)
        | (rw [if_neg (by omega)] at e; subst e; exact congrArg Value.string (bytes_append [39] _))
    case round =>
      obtain ⟨k, tl, hk, hl, rfl, rfl, Ht⟩ := hrel
      have hr0 := Hw.out.2 0 (by omega)
      have hr1 := Hw.out.2 1 (by omega)
      have hr2 := Hw.out.2 2 (by omega)
      simp only [rkv, List.getD_cons_zero, List.getD_cons_succ] at hr0 hr1 hr2
      rcases (show k = 0 ∨ k = 1 ∨ k = 2 ∨ k = 3 by omega) with rfl | rfl | rfl | rfl
      · go_wp2_with fail
        refine (signOfDigit_int _ _ _ (by omega) (by omega) (by omega) (by omega)).mono ?_
        rw [H1.out]
        rintro e w1 ⟨rfl, rfl⟩
        go_wp2_with fail
        go_round
        case rel => exact ⟨1, tl ++ L1, by omega, by simp; omega, by rw [bytes_append], rfl, Lib.hid (by rw [Ht.out]; rfl)⟩
        case measure => simp [intOf]
      · go_wp2_with fail
        refine (signOfDigit_int _ _ _ (by omega) (by omega) (by omega) (by omega)).mono ?_
        rw [H2.out]
        rintro e w1 ⟨rfl, rfl⟩
        go_wp2_with fail
        go_round
        case rel => exact ⟨2, tl ++ L2, by omega, by simp; omega, by rw [bytes_append], rfl, Lib.hid (by rw [Ht.out]; rfl)⟩
        case measure => simp [intOf]
      · go_wp2_with fail
        refine (signOfDigit_int _ _ _ (by omega) (by omega) (by omega) (by omega)).mono ?_
        rw [H3.out]
        rintro e w1 ⟨rfl, rfl⟩
        go_wp2_with fail
        go_round
        case rel => exact ⟨3, tl ++ L3, by omega, by simp; omega, by rw [bytes_append], rfl, Lib.hid (by rw [Ht.out]; rfl)⟩
        case measure => simp [intOf]
      · go_wp2_with fail
        go_ret2
        exact ⟨ret_bytes_yes (by rw [Hh.out, Ht.out]; rfl), rfl⟩
theorem iAlphaOf_any (n : Int) (w : World) (hw : AT w) : Calls Tryz.prog 170 #[.int .i64 n] w fun e w' => e = .returned (alphaOfR n) ∧ w = w' := by
  unfold alphaOfR
  by_cases h : 1 ≤ n ∧ n ≤ 9999
  · rw [if_pos h]
    obtain ⟨k, rfl⟩ := Int.eq_ofNat_of_zero_le (show 0 ≤ n by omega)
    exact iAlphaOf_nat k w hw (by omega) (by omega)
  · rw [if_neg h]
    clear hw
    by_cases h1 : n < 1
    · clear h
      go_enter Tryz.func170, Tryz.ntmps170
      go_wp2
      go_ret2
      exact ⟨rfl, rfl⟩
    · have h2 : 9999 < n := by omega
      clear h
      go_enter Tryz.func170, Tryz.ntmps170
      go_wp2
      go_ret2
      exact ⟨rfl, rfl⟩
theorem aValue_int (z : Int) (w : World) (hw : AT w) (h0 : 0 ≤ z) (h : z ≤ 26) : Calls Tryz.prog 176 #[.int .i64 z] w fun e w' => e = .returned (.int .i64 (vl z.toNat)) ∧ w = w' := by
  obtain ⟨k, rfl⟩ := Int.eq_ofNat_of_zero_le h0
  exact aValue_any k w hw (by omega)
/-- sumOfLetters' answer -/
def sumLR (l : List UInt8) : Value := if okA l = true then .tuple #[.int .i64 (asum l), .bool true] else .tuple #[.int .i64 0, .bool false]
theorem sumOfLetters_any (l : List UInt8) (w : World) (hw : AT w) (hl : l.length ≤ 1048576) : Calls Tryz.prog 131 #[.string ⟨l.toArray⟩] w fun e w' => e = .returned (sumLR l) ∧ w = w' := by
  have Hw := Lib.hid hw; clear hw
  go_enter Tryz.func131, Tryz.ntmps131
  go_wp2_with fail
  go_loop [4, 10] (fun s i => ∃ (k : Nat) (v : Int), k ≤ l.length ∧ 0 ≤ v ∧ v ≤ 900 * k ∧ s = .int .i64 v ∧ i = .int .i64 k ∧ Hid (okA (l.take k) = true ∧ v = asum (l.take k))) (fun _ i => l.length - (intOf i).toNat)
  case atStart => exact ⟨0, 0, by omega, by omega, by omega, rfl, rfl, Lib.hid ⟨rfl, rfl⟩⟩
  case round =>
    obtain ⟨k, v, hk, hv0, hv1, rfl, rfl, Hr⟩ := hrel
    by_cases hlt : k < l.length
    · obtain ⟨c, Hc⟩ : ∃ c : UInt8, Hid (l[k] = c) := ⟨_, Lib.hid rfl⟩
      have Hs := Lib.hid (asum_take_succ l k hlt)
      have Ho := Lib.hid (okA_take_succ l k hlt)
      have hzb := ixA_bd (c.toNat : Int)
      obtain ⟨z, Hz⟩ : ∃ z, Hid (ixA (c.toNat : Int) = z) := ⟨_, Lib.hid rfl⟩
      rw [Hz.out] at hzb
      by_cases hz : 0 ≤ z
      · have Hans : Hid (∀ hix, letterR (((⟨l.toArray⟩ : ByteArray)[k]'hix).toNat : Int) = .tuple #[.int .i64 z, .bool true]) := fun hix => by
          show letterR (l[k].toNat : Int) = _
          unfold letterR; rw [Hc.out, Hz.out, if_pos hz]
        have hav : Hid (av (c.toNat : Int) = vl z.toNat) := by show _ = _; rw [av_ix _ (by rw [Hz.out]; exact hz), Hz.out]
        have hvb := vl_bd z.toNat (by omega)
        obtain ⟨x, Hx⟩ : ∃ x, Hid (vl z.toNat = x) := ⟨_, Lib.hid rfl⟩
        rw [Hx.out] at hvb
        have Hst : Hid (okA (l.take (k + 1)) = true ∧ v + x = asum (l.take (k + 1))) := by
          show _ ∧ _
          rw [Hs.out, Ho.out, Hr.out.1, Hr.out.2, Hc.out, hav.out, Hx.out]
          exact ⟨by simp; omega, rfl⟩
        go_wp2_with fail
        refine (alphaLetterOf_any _ _).mono ?_
        rw [Hans.out]
        rintro e w1 ⟨rfl, rfl⟩
        go_wp2_with fail
        refine (aValue_int _ _ Hw.out (by omega) (by omega)).mono ?_
        rw [Hx.out]
        rintro e w1 ⟨rfl, rfl⟩
        go_wp2_with fail
        go_round
        case rel => exact ⟨k + 1, v + x, by omega, by omega, by omega, rfl, by go_num, Hst⟩
        case measure => simp [intOf]; omega
      · have Hans : Hid (∀ hix, letterR (((⟨l.toArray⟩ : ByteArray)[k]'hix).toNat : Int) = .tuple #[.int .i64 0, .bool false]) := fun hix => by
          show letterR (l[k].toNat : Int) = _
          unfold letterR; rw [Hc.out, Hz.out, if_neg hz]
        have Hfin : Hid (sumLR l = .tuple #[.int .i64 0, .bool false]) := by
          show _ = _
          unfold sumLR
          rw [if_neg]
          intro hok
          have := okA_getElem l k hlt hok
          rw [Hc.out, av_pos_ix, Hz.out] at this
          exact hz this
        clear hz
        go_wp2_with fail
        refine (alphaLetterOf_any _ _).mono ?_
        rw [Hans.out]
        rintro e w1 ⟨rfl, rfl⟩
        go_wp2_with fail
        go_ret2
        exact ⟨ret_val Hfin.out.symm, rfl⟩
    · have Hfin : Hid (sumLR l = .tuple #[.int .i64 v, .bool true]) := by
        show _ = _
        have h1 := Hr.out
        rw [List.take_of_length_le (by omega)] at h1
        unfold sumLR
        rw [if_pos h1.1, h1.2]
      obtain rfl : k = l.length := by omega
      go_wp2_with fail
      go_ret2
      exact ⟨ret_val Hfin.out.symm, rfl⟩
end Go.Proofs.YthbdnmnhoifnoaaGreatDoor

/- The program's cutThousands, AlphaRead, AlphaSum, AlphaSame, AlphaNines, AlphaAdd. -/
namespace Go.Proofs.YthbdnmnhoifnoaaGreatDoor
open Go.RowKit
set_option linter.unusedVariables false
set_option maxRecDepth 100000
theorem ext01 (c : UInt8) (r : List UInt8) : ((⟨(c :: r).toArray⟩ : ByteArray).extract 0 1).toList = [c] := by
  rw [Lib.extract_toList]; rfl
theorem ext1 (c : UInt8) (r : List UInt8) : (⟨(c :: r).toArray⟩ : ByteArray).extract 1 (r.length + 1) = ⟨r.toArray⟩ := by
  rw [Lib.extract_eq]
  congr 1
  simp
theorem cutPrefix_yes (r : List UInt8) (w : World) (hl : r.length ≤ 1048576) : Calls Tryz.prog 288 #[.string ⟨(39 :: r).toArray⟩, .string ⟨#[39]⟩] w fun e w' => e = .returned (.tuple #[.string ⟨r.toArray⟩, .bool true]) ∧ w = w' := by
  have h1 : (((⟨(39 :: r).toArray⟩ : ByteArray).extract 0 1).toList == [39]) = true := by rw [ext01]; rfl
  have H2 := Lib.hid (ext1 39 r)
  go_enter Tryz.func288, Tryz.ntmps288
  go_wp2
  go_ret2
  exact ⟨ret_bytes_yes H2.out, rfl⟩
theorem cutPrefix_no (c : UInt8) (r : List UInt8) (w : World) (hl : r.length ≤ 1048576) (hc : c ≠ 39) : Calls Tryz.prog 288 #[.string ⟨(c :: r).toArray⟩, .string ⟨#[39]⟩] w fun e w' => e = .returned (.tuple #[.string ⟨(c :: r).toArray⟩, .bool false]) ∧ w = w' := by
  have h1 : (((⟨(c :: r).toArray⟩ : ByteArray).extract 0 1).toList == [39]) = false := by rw [ext01]; simp [hc]
  go_enter Tryz.func288, Tryz.ntmps288
  go_wp2
  go_ret2
  exact ⟨rfl, rfl⟩
theorem cutPrefix_nil (w : World) : Calls Tryz.prog 288 #[.string ⟨#[]⟩, .string ⟨#[39]⟩] w fun e w' => e = .returned (.tuple #[.string ⟨#[]⟩, .bool false]) ∧ w = w' := by
  go_enter Tryz.func288, Tryz.ntmps288
  go_wp2
  go_ret2
  exact ⟨rfl, rfl⟩
theorem AT.drewN {w : World} (h : AT w) (n : Nat) : AT (w.drewN n) := h.step (bel_drewN (Below.refl _ _) n)
/-- cutThousands' answer -/
def cutR : List UInt8 → Value
  | [] => .tuple #[.int .i64 0, .string ⟨#[]⟩, .bool true]
  | c :: r => if c ≠ 39 then .tuple #[.int .i64 0, .string ⟨(c :: r).toArray⟩, .bool true] else match r with
    | [] => .tuple #[.int .i64 0, .string ⟨#[]⟩, .bool false]
    | d :: q => if 0 < av (d.toNat : Int) then .tuple #[.int .i64 (1000 * av (d.toNat : Int)), .string ⟨q.toArray⟩, .bool true] else .tuple #[.int .i64 0, .string ⟨#[]⟩, .bool false]
theorem cutR_other (c : UInt8) (r : List UInt8) (h : c ≠ 39) : cutR (c :: r) = .tuple #[.int .i64 0, .string ⟨(c :: r).toArray⟩, .bool true] := by
  show (if c ≠ 39 then _ else _) = _
  rw [if_pos h]
theorem cutR_one : cutR [39] = .tuple #[.int .i64 0, .string ⟨#[]⟩, .bool false] := rfl
theorem cutR_two (d : UInt8) (q : List UInt8) : cutR (39 :: d :: q) = if 0 < av (d.toNat : Int) then .tuple #[.int .i64 (1000 * av (d.toNat : Int)), .string ⟨q.toArray⟩, .bool true] else .tuple #[.int .i64 0, .string ⟨#[]⟩, .bool false] := rfl
theorem cutThousands_two (d : UInt8) (q : List UInt8) (w : World) (hw : AT w) (hl : q.length + 2 ≤ 1048576) : Calls Tryz.prog 287 #[.string ⟨(39 :: d :: q).toArray⟩] w fun e w' => e = .returned (cutR (39 :: d :: q)) ∧ Below w.heap.size w w' := by
  have Hw := Lib.hid hw; clear hw
  have He := Lib.hid (ext1 d q)
  have hzb := ixA_bd (d.toNat : Int)
  obtain ⟨z, Hz⟩ : ∃ z, Hid (ixA (d.toNat : Int) = z) := ⟨_, Lib.hid rfl⟩
  rw [Hz.out] at hzb
  by_cases hz : 0 ≤ z
  · have Hans : Hid (∀ hix, letterR (((⟨(d :: q).toArray⟩ : ByteArray)[0]'hix).toNat : Int) = .tuple #[.int .i64 z, .bool true]) := fun hix => by
      show letterR (d.toNat : Int) = _
      unfold letterR; rw [Hz.out, if_pos hz]
    have hav : Hid (av (d.toNat : Int) = vl z.toNat) := by show _ = _; rw [av_ix _ (by rw [Hz.out]; exact hz), Hz.out]
    have hvb := vl_bd z.toNat (by omega)
    obtain ⟨x, Hx⟩ : ∃ x, Hid (vl z.toNat = x) := ⟨_, Lib.hid rfl⟩
    rw [Hx.out] at hvb
    have Hfin : Hid (cutR (39 :: d :: q) = .tuple #[.int .i64 (1000 * x), .string ⟨q.toArray⟩, .bool true]) := by
      show _ = _
      rw [cutR_two, hav.out, Hx.out, if_pos (by omega)]
    have Hcall : ∀ n, Calls Tryz.prog 176 #[.int .i64 z] (w.drewN n) fun e w' => e = .returned (.int .i64 x) ∧ w.drewN n = w' := fun n => by
      have := aValue_int z (w.drewN n) (Hw.out.drewN n) (by omega) (by omega)
      rwa [Hx.out] at this
    have Hc := Lib.hid Hcall; clear Hcall
    go_enter Tryz.func287, Tryz.ntmps287
    go_wp2_with fail
    refine (cutPrefix_yes _ _ (by simp; omega)).mono ?_
    rintro e w1 ⟨rfl, rfl⟩
    go_wp2_with fail
    refine (alphaLetterOf_any _ _).mono ?_
    rw [Hans.out]
    rintro e w1 ⟨rfl, rfl⟩
    have hw1 : IntKind.i64.wrap (1000 * x) = 1000 * x := IntWalk.i64_in _ (by omega)
    go_wp2_with fail
    go_quiet ((go_at_call 176; exact quiet_mine (Hc.out _)))
    go_wp2
    go_ret3
    exact ⟨by rw [Hfin.out]; exact ret_val (congrArg (fun s => Value.tuple #[.int .i64 (1000 * x), .string s, .bool true]) He.out), bel_drewN (Below.refl _ _) _⟩
  · have Hans : Hid (∀ hix, letterR (((⟨(d :: q).toArray⟩ : ByteArray)[0]'hix).toNat : Int) = .tuple #[.int .i64 0, .bool false]) := fun hix => by
      show letterR (d.toNat : Int) = _
      unfold letterR; rw [Hz.out, if_neg hz]
    have Hfin : Hid (cutR (39 :: d :: q) = .tuple #[.int .i64 0, .string ⟨#[]⟩, .bool false]) := by
      show _ = _
      rw [cutR_two, if_neg]
      rw [av_pos_ix, Hz.out]
      exact hz
    clear hz
    go_enter Tryz.func287, Tryz.ntmps287
    go_wp2_with fail
    refine (cutPrefix_yes _ _ (by simp; omega)).mono ?_
    rintro e w1 ⟨rfl, rfl⟩
    go_wp2_with fail
    refine (alphaLetterOf_any _ _).mono ?_
    rw [Hans.out]
    rintro e w1 ⟨rfl, rfl⟩
    go_wp2_with fail
    go_ret3
    exact ⟨ret_val Hfin.out.symm, Below.refl _ _⟩
theorem cutThousands_any (l : List UInt8) (w : World) (hw : AT w) (hl : l.length ≤ 1048576) : Calls Tryz.prog 287 #[.string ⟨l.toArray⟩] w fun e w' => e = .returned (cutR l) ∧ Below w.heap.size w w' := by
  match l with
  | [] =>
    clear hw
    go_enter Tryz.func287, Tryz.ntmps287
    go_wp2_with fail
    refine (cutPrefix_nil _).mono ?_
    rintro e w1 ⟨rfl, rfl⟩
    go_wp2_with fail
    go_ret3
    exact ⟨rfl, Below.refl _ _⟩
  | c :: r =>
    by_cases hc : c = 39
    · subst hc
      match r with
      | [] =>
        clear hw
        go_enter Tryz.func287, Tryz.ntmps287
        go_wp2_with fail
        refine (cutPrefix_yes [] _ (by simp)).mono ?_
        rintro e w1 ⟨rfl, rfl⟩
        go_wp2_with fail
        go_ret3
        exact ⟨rfl, Below.refl _ _⟩
      | d :: q => exact cutThousands_two d q w hw (by simp at hl; omega)
    · rw [cutR_other c r hc]
      have H := Lib.hid hc; clear hc hw
      go_enter Tryz.func287, Tryz.ntmps287
      go_wp2_with fail
      refine (cutPrefix_no c r _ (by simp at hl; omega) H.out).mono ?_
      rintro e w1 ⟨rfl, rfl⟩
      go_wp2_with fail
      go_ret3
      exact ⟨rfl, Below.refl _ _⟩
/-- AlphaRead's answer -/
def alphaReadR (l : List UInt8) : Value := if isA l = true then .tuple #[.int .i64 (rdA l), .bool true] else .tuple #[.int .i64 0, .bool false]
theorem iAlphaRead_on (l text : List UInt8) (t s : Int) (w : World) (hw : AT w) (hl : l.length ≤ 1048576) (ht : text.length ≤ 1048576) (hcut : cutR l = .tuple #[.int .i64 t, .string ⟨text.toArray⟩, .bool true]) (hok : okA text = true) (hs : asum text = s) (hsum : t + s = rdA l)
    (t0 : 0 ≤ t) (t1 : t ≤ 900000) : Calls Tryz.prog 286 #[.string ⟨l.toArray⟩] w fun e w' => e = .returned (alphaReadR l) ∧ Below w.heap.size w w' := by
  have Hw := Lib.hid hw; clear hw
  have hb := asum_bd text
  rw [hs] at hb
  have Hsum : Hid (sumLR text = .tuple #[.int .i64 s, .bool true]) := by show _ = _; unfold sumLR; rw [if_pos hok, hs]
  have Hcut := Lib.hid hcut; have Hok := Lib.hid hok; have Hs := Lib.hid hs; clear hcut hok hs
  by_cases hr : 1 ≤ t + s ∧ t + s ≤ 9999
  · obtain ⟨r0, r1⟩ := hr
    have Hof : Hid (alphaOfR (t + s) = .tuple #[.string ⟨(aof (t + s).toNat).toArray⟩, .bool true]) := by show _ = _; unfold alphaOfR; rw [if_pos ⟨r0, r1⟩]
    have Hn := Lib.hid hsum; clear hsum
    have hlen := aof_len (t + s).toNat
    by_cases he : aof (t + s).toNat = l
    · have Hfin : Hid (alphaReadR l = .tuple #[.int .i64 (t + s), .bool true]) := by
        show _ = _
        unfold alphaReadR isA
        rw [← Hn.out, if_pos (by simp only [decide_eq_true_eq]; exact ⟨r0, r1, he⟩)]
      rw [he] at Hof
      clear he hlen
      go_enter Tryz.func286, Tryz.ntmps286
      go_wp2_with fail
      refine (cutThousands_any l _ Hw.out hl).mono ?_
      rw [Hcut.out]
      rintro e w1 ⟨rfl, g1⟩
      go_wp2_with fail
      refine (sumOfLetters_any text _ (Hw.out.step g1) ht).mono ?_
      rw [Hsum.out]
      rintro e w2 ⟨rfl, rfl⟩
      go_wp2_with fail
      refine (iAlphaOf_any (t + s) _ (Hw.out.step g1)).mono ?_
      rw [Hof.out]
      rintro e w2 ⟨rfl, rfl⟩
      go_wp2_with fail
      go_ret2
      exact ⟨ret_val Hfin.out.symm, g1⟩
    · have Hfin : Hid (alphaReadR l = .tuple #[.int .i64 0, .bool false]) := by
        show _ = _
        unfold alphaReadR isA
        rw [← Hn.out, if_neg (by simp only [decide_eq_true_eq]; exact fun h => he h.2.2)]
      generalize aof (t + s).toNat = L at *
      have Hne : (L == l) = false := by rw [beq_eq_false_iff_ne]; exact he
      clear he
      go_enter Tryz.func286, Tryz.ntmps286
      go_wp2_with fail
      refine (cutThousands_any l _ Hw.out hl).mono ?_
      rw [Hcut.out]
      rintro e w1 ⟨rfl, g1⟩
      go_wp2_with fail
      refine (sumOfLetters_any text _ (Hw.out.step g1) ht).mono ?_
      rw [Hsum.out]
      rintro e w2 ⟨rfl, rfl⟩
      go_wp2_with fail
      refine (iAlphaOf_any (t + s) _ (Hw.out.step g1)).mono ?_
      rw [Hof.out]
      rintro e w2 ⟨rfl, rfl⟩
      go_wp2_with fail
      go_ret2
      exact ⟨ret_val Hfin.out.symm, g1⟩
  · have Hof : Hid (alphaOfR (t + s) = .tuple #[.string ⟨#[]⟩, .bool false]) := by show _ = _; unfold alphaOfR; rw [if_neg hr]
    have Hfin : Hid (alphaReadR l = .tuple #[.int .i64 0, .bool false]) := by
      show _ = _
      unfold alphaReadR isA
      rw [← hsum, if_neg (by simp only [decide_eq_true_eq]; exact fun h => hr ⟨h.1, h.2.1⟩)]
    clear hsum hr
    go_enter Tryz.func286, Tryz.ntmps286
    go_wp2_with fail
    refine (cutThousands_any l _ Hw.out hl).mono ?_
    rw [Hcut.out]
    rintro e w1 ⟨rfl, g1⟩
    go_wp2_with fail
    refine (sumOfLetters_any text _ (Hw.out.step g1) ht).mono ?_
    rw [Hsum.out]
    rintro e w2 ⟨rfl, rfl⟩
    go_wp2_with fail
    refine (iAlphaOf_any (t + s) _ (Hw.out.step g1)).mono ?_
    rw [Hof.out]
    rintro e w2 ⟨rfl, rfl⟩
    go_wp2_with fail
    go_ret2
    exact ⟨ret_val Hfin.out.symm, g1⟩
theorem alphaReadR_no (l : List UInt8) (h : ¬ (okA l = true ∨ ∃ c r, l = 39 :: c :: r ∧ okA (c :: r) = true)) : alphaReadR l = .tuple #[.int .i64 0, .bool false] := by
  unfold alphaReadR
  rw [if_neg fun h' => h (isA_shape l h')]
theorem iAlphaRead_any (l : List UInt8) (w : World) (hw : AT w) (hl : l.length ≤ 1048576) : Calls Tryz.prog 286 #[.string ⟨l.toArray⟩] w fun e w' => e = .returned (alphaReadR l) ∧ Below w.heap.size w w' := by
  obtain ⟨t, text, b, hcut, hfail, hon⟩ : ∃ (t : Int) (text : List UInt8) (b : Bool), cutR l = .tuple #[.int .i64 t, .string ⟨text.toArray⟩, .bool b] ∧ (b = false → alphaReadR l = .tuple #[.int .i64 0, .bool false]) ∧
      (b = true → text.length ≤ 1048576 ∧ 0 ≤ t ∧ t ≤ 900000 ∧ (okA text = true → t + asum text = rdA l) ∧ (okA text = false → alphaReadR l = .tuple #[.int .i64 0, .bool false])) := by
    match l with
    | [] => exact ⟨0, [], true, rfl, (fun h => by cases h), fun _ => ⟨by simp, by omega, by omega, fun _ => rfl, fun h => by cases h⟩⟩
    | c :: r =>
      by_cases hc : c = 39
      · subst hc
        match r with
        | [] => exact ⟨0, [], false, rfl, (fun _ => alphaReadR_no _ (by rintro (h | ⟨c, r, h, _⟩); · simp [okA, av] at h
                                                                        · cases h)), fun h => by cases h⟩
        | d :: q =>
          have hd := av_bd (d.toNat : Int)
          have hno : (¬ 0 < av (d.toNat : Int) ∨ okA q = false) → alphaReadR (39 :: d :: q) = .tuple #[.int .i64 0, .bool false] := by
            intro h
            refine alphaReadR_no _ ?_
            rintro (h' | ⟨c', r', h', h''⟩)
            · rw [okA_cons] at h'
              revert h'
              simp [av]
            · cases h'
              rw [okA_cons, Bool.and_eq_true, decide_eq_true_eq] at h''
              rcases h with h | h
              · exact h h''.1
              · rw [h] at h''; cases h''.2
          by_cases hp : 0 < av (d.toNat : Int)
          · refine ⟨1000 * av (d.toNat : Int), q, true, by rw [cutR_two, if_pos hp], (fun h => by cases h), fun _ => ⟨by simp at hl; omega, by omega, by omega, fun hok => ?_, fun hok => hno (.inr hok)⟩⟩
            unfold rdA
            rw [th_two]
            simp only [asum, if_true]
            have : av ((39 : UInt8).toNat : Int) = 0 := by decide
            omega
          · exact ⟨0, [], false, by rw [cutR_two, if_neg hp], (fun _ => hno (.inl hp)), fun h => by cases h⟩
      · refine ⟨0, c :: r, true, cutR_other c r hc, (fun h => by cases h), fun _ => ⟨hl, by omega, by omega, fun hok => ?_, fun hok => alphaReadR_no _ ?_⟩⟩
        · unfold rdA
          rw [th_ok _ hok]
        · rintro (h | ⟨c', r', h, _⟩)
          · rw [hok] at h; cases h
          · cases h; exact hc rfl
  cases b with
  | true =>
    obtain ⟨h1, h2, h3, h4, h5⟩ := hon rfl
    cases hok : okA text with
    | true => exact iAlphaRead_on l text t _ w hw hl h1 hcut hok rfl (h4 hok) h2 h3
    | false =>
      rw [h5 hok]
      have Hw := Lib.hid hw; have Hcut := Lib.hid hcut
      have Hsum : Hid (sumLR text = .tuple #[.int .i64 0, .bool false]) := by show _ = _; unfold sumLR; rw [if_neg (by rw [hok]; simp)]
      clear hw hcut hfail hon h4 h5 hok
      go_enter Tryz.func286, Tryz.ntmps286
      go_wp2_with fail
      refine (cutThousands_any l _ Hw.out hl).mono ?_
      rw [Hcut.out]
      rintro e w1 ⟨rfl, g1⟩
      go_wp2_with fail
      refine (sumOfLetters_any text _ (Hw.out.step g1) h1).mono ?_
      rw [Hsum.out]
      rintro e w2 ⟨rfl, rfl⟩
      go_wp2_with fail
      go_ret2
      exact ⟨rfl, g1⟩
  | false =>
    rw [hfail rfl]
    have Hw := Lib.hid hw; have Hcut := Lib.hid hcut
    clear hw hcut hfail hon
    go_enter Tryz.func286, Tryz.ntmps286
    go_wp2_with fail
    refine (cutThousands_any l _ Hw.out hl).mono ?_
    rw [Hcut.out]
    rintro e w1 ⟨rfl, g1⟩
    go_wp2_with fail
    go_ret2
    exact ⟨rfl, g1⟩
/-- AlphaSum's answer -/
def alphaSumR (l : List UInt8) : Value := if 1 ≤ l.length ∧ l.length ≤ 20 ∧ okA l = true then .tuple #[.int .i64 (asum l), .bool true] else .tuple #[.int .i64 0, .bool false]
theorem iAlphaSum_any (l : List UInt8) (w : World) (hw : AT w) : Calls Tryz.prog 96 #[.string ⟨l.toArray⟩] w fun e w' => e = .returned (alphaSumR l) ∧ w = w' := by
  have Hw := Lib.hid hw; clear hw
  by_cases h : 1 ≤ l.length ∧ l.length ≤ 20
  · obtain ⟨h1, h2⟩ := h
    have Hfin : Hid (alphaSumR l = sumLR l) := by
      show _ = _
      unfold alphaSumR sumLR
      by_cases ho : okA l = true
      · rw [if_pos ⟨h1, h2, ho⟩, if_pos ho]
      · rw [if_neg (fun h => ho h.2.2), if_neg ho]
    obtain ⟨x, b, hx⟩ : ∃ (x : Int) (b : Bool), sumLR l = .tuple #[.int .i64 x, .bool b] := by
      unfold sumLR; split
      · exact ⟨_, _, rfl⟩
      · exact ⟨_, _, rfl⟩
    have Hx := Lib.hid hx
    rw [Hfin.out, hx]
    clear hx
    go_enter Tryz.func96, Tryz.ntmps96
    go_wp2_with fail
    refine (sumOfLetters_any l _ Hw.out (by omega)).mono ?_
    rw [Hx.out]
    rintro e w1 ⟨rfl, rfl⟩
    go_wp2_with fail
    go_ret2
    exact ⟨rfl, rfl⟩
  · have Hfin : Hid (alphaSumR l = .tuple #[.int .i64 0, .bool false]) := by
      show _ = _
      unfold alphaSumR
      rw [if_neg (fun h' => h ⟨h'.1, h'.2.1⟩)]
    by_cases h1 : l.length < 1
    · have hl : l.length = 0 := by omega
      clear h
      go_enter Tryz.func96, Tryz.ntmps96
      go_wp2_with fail
      go_ret2
      exact ⟨ret_val Hfin.out.symm, rfl⟩
    · have h2 : 20 < l.length := by omega
      clear h
      go_enter Tryz.func96, Tryz.ntmps96
      go_wp2_with fail
      go_ret2
      exact ⟨ret_val Hfin.out.symm, rfl⟩
/-- is it a word? -/
def isW (l : List UInt8) : Bool := decide (1 ≤ l.length ∧ l.length ≤ 20 ∧ okA l = true)
theorem alphaSumR_yes (l : List UInt8) (h : isW l = true) : alphaSumR l = .tuple #[.int .i64 (asum l), .bool true] := by unfold alphaSumR; rw [if_pos (of_decide_eq_true h)]
theorem alphaSumR_no (l : List UInt8) (h : isW l = false) : alphaSumR l = .tuple #[.int .i64 0, .bool false] := by unfold alphaSumR; rw [if_neg (of_decide_eq_false h)]
theorem isW_bd (l : List UInt8) (h : isW l = true) : 1 ≤ asum l ∧ asum l ≤ 18000 := by
  obtain ⟨h1, h2, h3⟩ := of_decide_eq_true h
  have := asum_pos l h3
  have := asum_bd l
  omega
/-- AlphaSame's answer -/
def sameB (v u : List UInt8) : Bool := isW v && (isW u && decide (asum v = asum u))
/-- AlphaNines' answer -/
def ninesR (l : List UInt8) : Value := if isW l = true then .tuple #[.int .i64 ((asum l - 1) % 9 + 1), .bool true] else .tuple #[.int .i64 0, .bool false]
/-- AlphaAdd's answer -/
def alphaAddR (s t : List UInt8) : Value := if isA s = true ∧ isA t = true then alphaOfR (rdA s + rdA t) else .tuple #[.string ⟨#[]⟩, .bool false]
theorem alphaReadR_yes (l : List UInt8) (h : isA l = true) : alphaReadR l = .tuple #[.int .i64 (rdA l), .bool true] := by unfold alphaReadR; rw [if_pos h]
theorem alphaReadR_not (l : List UInt8) (h : ¬ isA l = true) : alphaReadR l = .tuple #[.int .i64 0, .bool false] := by unfold alphaReadR; rw [if_neg h]
theorem alphaOfR_two (n : Int) : ∃ (s : ByteArray) (b : Bool), alphaOfR n = .tuple #[.string s, .bool b] := by
  unfold alphaOfR; split
  · exact ⟨_, _, rfl⟩
  · exact ⟨_, _, rfl⟩
end Go.Proofs.YthbdnmnhoifnoaaGreatDoor

/- The model's chapter 3 but AlphaLeast: l3Value, l3Letter, l3Of, AlphaOf, AlphaRead, AlphaSum, AlphaSame, AlphaNines, AlphaAdd. -/
namespace Go.Proofs.YthbdnmnhoifnoaaGreatDoor
open Go.RowKit
set_option linter.unusedVariables false
set_option maxRecDepth 100000
theorem conv_one (w : World) (b : UInt8) (x : Int) (hx : x = (b.toNat : Int)) : (convert 22 9 (.slice (some ⟨w.heap.size, 0, none⟩) 1 1)).run Tryz.prog (w.alloc (.cells #[.int .u8 x] 5)) = .ok (.string ⟨[b].toArray⟩) (w.alloc (.cells #[.int .u8 x] 5)) := by
  subst hx
  refine run_convert_bytes_back (P := Tryz.prog) _ 22 9 5 ⟨w.heap.size, 0, none⟩ 1 [b] Tryz.underlying22 Tryz.underlying5 Tryz.underlying9 ?_
  intro j hj
  obtain rfl : j = 0 := by simp at hj; omega
  exact cell_at (heap_alloc_new w (.cells #[.int .u8 (b.toNat : Int)] 5)) rfl
theorem lt_toNat (i : Nat) (h : i < 26) : ((lt i).toNat : Int) = 97 + i := by
  unfold lt
  rw [if_pos h, UInt8.toNat_ofNat']
  omega
end Go.Proofs.YthbdnmnhoifnoaaGreatDoor

/- Chapter 4, plain: the readings of a pressed text. -/
namespace Go.Proofs.YthbdnmnhoifnoaaGreatDoor
set_option linter.unusedVariables false
set_option maxRecDepth 100000
/-- a text without its spaces -/
def bare (l : List UInt8) : List UInt8 := l.filter (fun c => c != 32)
/-- the digits of a number -/
def digs (n : Nat) : List Nat := if _h : n < 60 then [n] else digs (n / 60) ++ [n % 60]
termination_by n
decreasing_by omega
theorem digs_low (n : Nat) (h : n < 60) : digs n = [n] := by rw [digs, dif_pos h]
theorem digs_high (n : Nat) (h : ¬ n < 60) : digs n = digs (n / 60) ++ [n % 60] := by rw [digs, dif_neg h]
def dfold (n : Nat) (ds : List Nat) : Nat := ds.foldl (fun a d => 60 * a + d) n
theorem digs_fold (n : Nat) : dfold 0 (digs n) = n := by
  induction n using Nat.strongRecOn with
  | ind n ih =>
    by_cases h : n < 60
    · rw [digs_low n h]; unfold dfold; simp
    · rw [digs_high n h]
      have e := ih (n / 60) (by omega)
      unfold dfold at *
      rw [List.foldl_append, e]
      simp only [List.foldl_cons, List.foldl_nil]
      omega
theorem fold_digs (r : List Nat) : ∀ n, 1 ≤ n → (∀ d ∈ r, d < 60) → digs (dfold n r) = digs n ++ r := by
  induction r with
  | nil => intro n _ _; simp [dfold]
  | cons d r ih =>
    intro n hn hd
    have h1 := hd d (by simp)
    show digs (dfold (60 * n + d) r) = _
    rw [ih (60 * n + d) (by omega) (fun e he => hd e (by simp [he])), digs_high _ (by omega), show (60 * n + d) / 60 = n by omega, show (60 * n + d) % 60 = d by omega]
    simp
theorem fold_digs0 (d : Nat) (r : List Nat) (h1 : 1 ≤ d) (h2 : d < 60) (h : ∀ e ∈ r, e < 60) : digs (dfold 0 (d :: r)) = d :: r := by
  show digs (dfold (60 * 0 + d) r) = _
  rw [fold_digs r _ (by omega) h, digs_low _ (by omega)]
  simp
theorem digs_lt (n : Nat) : ∀ d ∈ digs n, d < 60 := by
  induction n using Nat.strongRecOn with
  | ind n ih =>
    intro d hd
    by_cases h : n < 60
    · rw [digs_low n h] at hd; simp at hd; omega
    · rw [digs_high n h] at hd
      rcases List.mem_append.1 hd with hd | hd
      · exact ih (n / 60) (by omega) d hd
      · simp at hd; omega
theorem digs_ne (n : Nat) : digs n ≠ [] := by
  by_cases h : n < 60
  · rw [digs_low n h]; simp
  · rw [digs_high n h]; simp
theorem many_mem (c : UInt8) (k : Nat) : ∀ x ∈ (many [c] k), x = c := by
  intro x hx
  unfold many at hx
  simp at hx
  exact hx.2
theorem cdig_mem (d : Nat) : ∀ c ∈ cdig d, (d = 0 ∧ c = 46) ∨ (d ≠ 0 ∧ (c = 60 ∨ c = 89)) := by
  intro c hc
  unfold cdig at hc
  split at hc
  · rename_i h; simp at hc; exact .inl ⟨h, hc⟩
  · rename_i h
    rcases List.mem_append.1 hc with hc | hc
    · exact .inr ⟨h, .inl (many_mem 60 _ c hc)⟩
    · exact .inr ⟨h, .inr (many_mem 89 _ c hc)⟩
theorem bare_cdig (d : Nat) : bare (cdig d) = cdig d := by
  unfold bare
  rw [List.filter_eq_self]
  intro c hc
  rcases cdig_mem d c hc with ⟨_, rfl⟩ | ⟨_, rfl | rfl⟩ <;> decide
theorem bare_clay (n : Nat) : bare (clay n) = (digs n).flatMap cdig := by
  induction n using Nat.strongRecOn with
  | ind n ih =>
    by_cases h : n < 60
    · rw [clay_low n h, digs_low n h, bare_cdig]; simp
    · rw [clay_high n h, digs_high n h]
      have e := ih (n / 60) (by omega)
      have e2 := bare_cdig (n % 60)
      unfold bare at *
      rw [List.filter_append, e, List.flatMap_append, List.filter_cons_of_neg (by decide), e2]
      simp
theorem clay_dot (n : Nat) : (46 : UInt8) ∈ clay n ↔ 0 ∈ digs n := by
  have hd : ∀ d, (46 : UInt8) ∈ cdig d ↔ d = 0 := fun d => by
    constructor
    · intro h
      rcases cdig_mem d 46 h with h | ⟨_, h | h⟩
      · exact h.1
      · exact absurd h (by decide)
      · exact absurd h (by decide)
    · rintro rfl; simp [cdig]
  induction n using Nat.strongRecOn with
  | ind n ih =>
    by_cases h : n < 60
    · rw [clay_low n h, digs_low n h, hd]
      constructor
      · rintro rfl; simp
      · intro h; simp at h; omega
    · have e : (46 : UInt8) ∈ clay (n / 60) ↔ 0 ∈ digs (n / 60) := ih (n / 60) (by omega)
      rw [clay_high n h, digs_high n h, List.mem_append, List.mem_append, List.mem_cons, hd, e]
      constructor
      · rintro (h | h | h)
        · exact .inl h
        · exact absurd h (by decide)
        · exact .inr (by simp [h])
      · rintro (h | h)
        · exact .inl h
        · refine .inr (.inr ?_)
          simp at h
          omega
theorem digs_len (n : Nat) : (digs n).length ≤ 3 ↔ n ≤ 215999 := by
  by_cases h1 : n < 60
  · rw [digs_low n h1]; simp; omega
  · rw [digs_high n h1]
    by_cases h2 : n / 60 < 60
    · rw [digs_low _ h2]; simp; omega
    · rw [digs_high _ h2]
      by_cases h3 : n / 60 / 60 < 60
      · rw [digs_low _ h3]; simp; omega
      · rw [digs_high _ h3]
        have := digs_ne (n / 60 / 60 / 60)
        have h4 : 1 ≤ (digs (n / 60 / 60 / 60)).length := List.length_pos_iff.2 this
        simp only [List.length_append, List.length_cons, List.length_nil]
        omega
/-- a reading of a text -/
def isRd (s : List UInt8) (x : Nat) : Bool := decide (1 ≤ x) && decide ((46 : UInt8) ∉ clay x) && decide (bare (clay x) = s)
/-- all readings -/
def rds (s : List UInt8) : List Nat := (List.range 216000).filter (isRd s)
theorem mem_rds (s : List UInt8) (x : Nat) : x ∈ rds s ↔ x ≤ 215999 ∧ isRd s x = true := by
  unfold rds
  rw [List.mem_filter, List.mem_range]
  constructor <;> (rintro ⟨h1, h2⟩; exact ⟨by omega, h2⟩)
theorem isRd_iff (s : List UInt8) (x : Nat) : isRd s x = true ↔ 1 ≤ x ∧ 0 ∉ digs x ∧ (digs x).flatMap cdig = s := by
  unfold isRd
  rw [Bool.and_eq_true, Bool.and_eq_true, decide_eq_true_eq, decide_eq_true_eq, decide_eq_true_eq, clay_dot, bare_clay, and_assoc]
theorem rds_asc (s : List UInt8) : (rds s).Pairwise (· < ·) := List.Pairwise.filter _ List.pairwise_lt_range
/-- two ascending lists with the same members -/
theorem asc_unique : ∀ (a b : List Nat), a.Pairwise (· < ·) → b.Pairwise (· < ·) → (∀ x, x ∈ a ↔ x ∈ b) → a = b
  | [], [], _, _, _ => rfl
  | [], y :: b, _, _, h => absurd ((h y).2 (by simp)) (by simp)
  | x :: a, [], _, _, h => absurd ((h x).1 (by simp)) (by simp)
  | x :: a, y :: b, ha, hb, h => by
    obtain ⟨ha1, ha2⟩ := List.pairwise_cons.1 ha
    obtain ⟨hb1, hb2⟩ := List.pairwise_cons.1 hb
    have hxy : x = y := by
      rcases List.mem_cons.1 ((h x).1 (by simp)) with e | e
      · exact e
      · rcases List.mem_cons.1 ((h y).2 (by simp)) with e' | e'
        · exact e'.symm
        · have := ha1 y e'; have := hb1 x e; omega
    subst hxy
    rw [asc_unique a b ha2 hb2 (fun z => ?_)]
    constructor
    · intro hz
      rcases List.mem_cons.1 ((h z).1 (by simp [hz])) with e | e
      · have := ha1 z hz; omega
      · exact e
    · intro hz
      rcases List.mem_cons.1 ((h z).2 (by simp [hz])) with e | e
      · have := hb1 z hz; omega
      · exact e
/-- the digits that a text can be cut into, f at most, one after another -/
def prts : Nat → List UInt8 → Nat → List Nat
  | _, [], n => [n]
  | 0, _ :: _, _ => []
  | f + 1, c :: s, n => (List.range 59).flatMap fun j => if (cdig (j + 1)) <+: (c :: s) then prts f ((c :: s).drop (cdig (j + 1)).length) (60 * n + (j + 1)) else []
theorem mem_prts (f : Nat) : ∀ (s : List UInt8) (n x : Nat), x ∈ prts f s n ↔ ∃ ds : List Nat, ds.length ≤ f ∧ (∀ d ∈ ds, 1 ≤ d ∧ d < 60) ∧ ds.flatMap cdig = s ∧ x = dfold n ds := by
  have hne : ∀ d, 1 ≤ d → d < 60 → cdig d ≠ [] := fun d h1 h2 h => by have := cdig_len d h2; rw [h] at this; simp at this
  have hnil : ∀ (f n x : Nat), x ∈ ([n] : List Nat) ↔ ∃ ds : List Nat, ds.length ≤ f ∧ (∀ d ∈ ds, 1 ≤ d ∧ d < 60) ∧ ds.flatMap cdig = [] ∧ x = dfold n ds := fun f n x => by
    constructor
    · intro h
      exact ⟨[], by simp, by simp, by simp, by simpa [dfold] using h⟩
    · rintro ⟨ds, h1, h2, h3, h4⟩
      cases ds with
      | nil => simpa [dfold] using h4
      | cons d r =>
        simp only [List.flatMap_cons, List.append_eq_nil_iff] at h3
        exact absurd h3.1 (hne d (h2 d (by simp)).1 (h2 d (by simp)).2)
  induction f with
  | zero =>
    intro s n x
    cases s with
    | nil => simp only [prts]; exact hnil 0 n x
    | cons c s =>
      simp only [prts, List.not_mem_nil, false_iff]
      rintro ⟨ds, h1, h2, h3, h4⟩
      have : ds = [] := List.length_eq_zero_iff.1 (by omega)
      subst this
      simp at h3
  | succ f ih =>
    intro s n x
    cases s with
    | nil => simp only [prts]; exact hnil (f + 1) n x
    | cons c s =>
      simp only [prts, List.mem_flatMap, List.mem_range]
      constructor
      · rintro ⟨j, hj, hx⟩
        split at hx
        · rename_i hp
          obtain ⟨t, ht⟩ := hp
          rw [← ht, List.drop_left, ih] at hx
          obtain ⟨ds, h1, h2, h3, h4⟩ := hx
          refine ⟨(j + 1) :: ds, by simp; omega, ?_, ?_, h4⟩
          · intro d hd
            rcases List.mem_cons.1 hd with rfl | hd
            · omega
            · exact h2 d hd
          · rw [List.flatMap_cons, h3, ht]
        · cases hx
      · rintro ⟨ds, h1, h2, h3, h4⟩
        cases ds with
        | nil => simp at h3
        | cons d r =>
          have hd := h2 d (by simp)
          rw [List.flatMap_cons] at h3
          refine ⟨d - 1, by omega, ?_⟩
          rw [show d - 1 + 1 = d by omega, if_pos ⟨_, h3⟩, ← h3, List.drop_left, ih]
          exact ⟨r, by simp at h1; omega, fun e he => h2 e (by simp [he]), rfl, h4⟩
theorem mem_prts0 (s : List UInt8) (hs : s ≠ []) (x : Nat) : x ∈ prts 3 s 0 ↔ x ∈ rds s := by
  rw [mem_prts, mem_rds, isRd_iff]
  constructor
  · rintro ⟨ds, h1, h2, h3, rfl⟩
    cases ds with
    | nil => exact absurd h3.symm (by simpa using hs)
    | cons d r =>
      have hd := h2 d (by simp)
      have e := fold_digs0 d r hd.1 hd.2 (fun e he => (h2 e (by simp [he])).2)
      refine ⟨(digs_len _).1 (by rw [e]; exact h1), ?_, ?_, by rw [e]; exact h3⟩
      · have : ∀ (r : List Nat) n, n ≤ dfold n r := fun r => by
          induction r with
          | nil => exact fun n => Nat.le_refl n
          | cons d r ih => intro n; have := ih (60 * n + d); show n ≤ dfold (60 * n + d) r; omega
        have := this r (60 * 0 + d)
        show 1 ≤ dfold (60 * 0 + d) r
        omega
      · rw [e]
        intro h0
        have := h2 0 h0
        omega
  · rintro ⟨h1, h2, h3, h4⟩
    refine ⟨digs x, (digs_len x).2 h1, fun d hd => ⟨?_, digs_lt x d hd⟩, h4, (digs_fold x).symm⟩
    rcases Nat.eq_zero_or_pos d with rfl | h
    · exact absurd hd h3
    · exact h
theorem digs_snoc (n d : Nat) (h1 : 1 ≤ d) (h2 : d < 60) : digs (60 * n + d) = (if n = 0 then [] else digs n) ++ [d] := by
  split
  · rename_i h; subst h; rw [digs_low _ (by omega)]; simp
  · rename_i h
    rw [digs_high _ (by omega), show (60 * n + d) / 60 = n by omega, show (60 * n + d) % 60 = d by omega]
/-- no number stands twice -/
theorem prts_nodup (f : Nat) : ∀ (s : List UInt8) (n : Nat), (prts f s n).Pairwise (· ≠ ·) := by
  induction f with
  | zero =>
    intro s n
    cases s with
    | nil => simp [prts]
    | cons c s => simp [prts]
  | succ f ih =>
    intro s n
    cases s with
    | nil => simp [prts]
    | cons c s =>
      simp only [prts]
      rw [List.pairwise_flatMap]
      refine ⟨fun j hj => ?_, ?_⟩
      · split
        · exact ih _ _
        · exact List.Pairwise.nil
      · have key : ∀ j, j ∈ List.range 59 → ∀ x, x ∈ (if (cdig (j + 1)) <+: (c :: s) then prts f ((c :: s).drop (cdig (j + 1)).length) (60 * n + (j + 1)) else []) → ∃ r, digs x = (if n = 0 then [] else digs n) ++ (j + 1) :: r := by
          intro j hj x hx
          have hj' := List.mem_range.1 hj
          split at hx
          · rw [mem_prts] at hx
            obtain ⟨ds, h1, h2, h3, rfl⟩ := hx
            refine ⟨ds, ?_⟩
            rw [fold_digs ds _ (by omega) (fun d hd => (h2 d hd).2), digs_snoc n (j + 1) (by omega) (by omega)]
            simp
          · cases hx
        refine List.Pairwise.imp_of_mem ?_ (List.pairwise_lt_range (n := 59))
        intro j k hj hk hlt x hx y hy e
        obtain ⟨r, hr⟩ := key j hj x hx
        obtain ⟨t, ht⟩ := key k hk y hy
        rw [e, ht] at hr
        have := List.append_cancel_left hr
        simp at this
        omega
/-- x is put into an ascending list -/
theorem asc_insert (l : List Nat) (x k : Nat) (hl : l.Pairwise (· < ·)) (hk : k ≤ l.length) (hx : x ∉ l) (h1 : ∀ y ∈ l.take k, y ≤ x) (h2 : ∀ y ∈ l.drop k, x < y) : (l.take k ++ x :: l.drop k).Pairwise (· < ·) := by
  have hs : l.take k ++ l.drop k = l := List.take_append_drop k l
  have hp := hl
  rw [← hs, List.pairwise_append] at hp
  obtain ⟨p1, p2, p3⟩ := hp
  rw [List.pairwise_append, List.pairwise_cons]
  refine ⟨p1, ⟨h2, p2⟩, fun a ha b hb => ?_⟩
  rcases List.mem_cons.1 hb with rfl | hb
  · have := h1 a ha
    have : a ≠ b := fun e => hx (by rw [← e]; exact List.mem_of_mem_take ha)
    omega
  · exact p3 a ha b hb
theorem mem_insert (l : List Nat) (x k : Nat) (z : Nat) : z ∈ l.take k ++ x :: l.drop k ↔ z = x ∨ z ∈ l := by
  conv => rhs; rw [← List.take_append_drop k l]
  simp only [List.mem_append, List.mem_cons]
  constructor
  · rintro (h | h | h)
    · exact .inr (.inl h)
    · exact .inl h
    · exact .inr (.inr h)
  · rintro (h | h | h)
    · exact .inr (.inl h)
    · exact .inl h
    · exact .inr (.inr h)
end Go.Proofs.YthbdnmnhoifnoaaGreatDoor

/- The model's chapter 4 (package spec): l4Digit, l4Of, PlaceOf, PlaceRead. -/
namespace Go.Proofs.YthbdnmnhoifnoaaGreatDoor
open Go.RowKit
set_option linter.unusedVariables false
set_option maxRecDepth 100000
theorem l4Digit_nat (d : Nat) (w : World) (h : d < 60) : Calls Tryz.prog 47 #[.int .i64 d] w fun e w' => e = .returned (.string ⟨(cdig d).toArray⟩) ∧ w = w' := by
  by_cases hz : d = 0
  · subst hz
    go_enter Tryz.func47, Tryz.ntmps47
    go_wp2
    go_ret
    exact ⟨rfl, rfl⟩
  · have hq : ((d : Int) == 0) = false := by rw [beq_eq_false_iff_ne]; omega
    obtain ⟨L1, H1, b1⟩ : ∃ L : List UInt8, Hid (many [60] ((d : Int) / 10).toNat = L) ∧ L.length ≤ 9 := ⟨_, Lib.hid rfl, by rw [many_length]; simp; omega⟩
    obtain ⟨L2, H2, b2⟩ : ∃ L : List UInt8, Hid (many [89] ((d : Int) % 10).toNat = L) ∧ L.length ≤ 9 := ⟨_, Lib.hid rfl, by rw [many_length]; simp; omega⟩
    have Hf : Hid (cdig d = L1 ++ L2) := by
      show _ = _
      unfold cdig
      rw [if_neg hz, ← H1.out, ← H2.out, show ((d : Int) / 10).toNat = d / 10 by omega, show ((d : Int) % 10).toNat = d % 10 by omega]
    clear hz
    go_enter Tryz.func47, Tryz.ntmps47
    go_wp2_with fail
    refine (l6Many_any [60] _ _ (by decide) (by omega) (by omega)).mono ?_
    rw [H1.out]
    rintro e w1 ⟨rfl, rfl⟩
    go_wp2_with fail
    refine (l6Many_any [89] _ _ (by decide) (by omega) (by omega)).mono ?_
    rw [H2.out]
    rintro e w1 ⟨rfl, rfl⟩
    go_wp2_with fail
    go_ret
    exact ⟨ret_bytes (by rw [Hf.out, bytes_append]), rfl⟩
theorem l4Digit_int (d : Int) (w : World) (h0 : 0 ≤ d) (h : d < 60) : Calls Tryz.prog 47 #[.int .i64 d] w fun e w' => e = .returned (.string ⟨(cdig d.toNat).toArray⟩) ∧ w = w' := by
  obtain ⟨k, rfl⟩ := Int.eq_ofNat_of_zero_le h0
  exact l4Digit_nat k w (by omega)
theorem l4Of_nat (w : World) (n : Nat) : n < 12960000 → Calls Tryz.prog 32 #[.int .i64 n] w fun e w' => e = .returned (.string ⟨(clay n).toArray⟩) ∧ w = w' := by
  induction n using Nat.strongRecOn with
  | ind n ih =>
    intro hn
    by_cases h : n < 60
    · rw [clay_low n h]
      have C := Lib.hid (l4Digit_nat n w h)
      go_enter Tryz.func32, Tryz.ntmps32
      go_wp2_with fail
      refine C.out.mono ?_
      rintro e w1 ⟨rfl, rfl⟩
      go_wp2_with fail
      go_ret
      exact ⟨rfl, rfl⟩
    · have C : Hid (∀ m : Int, m = (n : Int) / 60 → Calls Tryz.prog 32 #[.int .i64 m] w fun e w' => e = .returned (.string ⟨(clay (n / 60)).toArray⟩) ∧ w = w') := by
        show ∀ m : Int, _
        rintro m rfl
        have := ih (n / 60) (by omega) (by omega)
        rwa [show ((n / 60 : Nat) : Int) = (n : Int) / 60 by omega] at this
      have D : Hid (∀ m : Int, m = (n : Int) % 60 → Calls Tryz.prog 47 #[.int .i64 m] w fun e w' => e = .returned (.string ⟨(cdig (n % 60)).toArray⟩) ∧ w = w') := by
        show ∀ m : Int, _
        rintro m rfl
        have := l4Digit_nat (n % 60) w (by omega)
        rwa [show ((n % 60 : Nat) : Int) = (n : Int) % 60 by omega] at this
      rw [clay_high n h]
      have b1 := (clay_short (n / 60) (by omega)).2
      have b2 := (cdig_len (n % 60) (by omega)).2
      generalize clay (n / 60) = L1 at *
      generalize cdig (n % 60) = L2 at *
      clear ih
      go_enter Tryz.func32, Tryz.ntmps32
      go_wp2_with fail
      refine (C.out _ rfl).mono ?_
      rintro e w1 ⟨rfl, rfl⟩
      go_wp2_with fail
      refine (D.out _ rfl).mono ?_
      rintro e w1 ⟨rfl, rfl⟩
      go_wp2_with fail
      go_ret
      exact ⟨ret_bytes (by rw [show (⟨#[32]⟩ : ByteArray) = ⟨[(32 : UInt8)].toArray⟩ from rfl, bytes_append, bytes_append]; simp), rfl⟩
/-- PlaceOf's answer -/
def placeOfR (n : Int) : Value := if 0 ≤ n ∧ n ≤ 12959999 then .tuple #[.string ⟨(clay n.toNat).toArray⟩, .bool true] else .tuple #[.string ⟨#[]⟩, .bool false]
theorem placeOfR_yes (n : Nat) (h : n ≤ 12959999) : placeOfR n = .tuple #[.string ⟨(clay n).toArray⟩, .bool true] := by
  unfold placeOfR; rw [if_pos ⟨by omega, by omega⟩]; rfl
theorem placeOfR_no (n : Int) (h : ¬ (0 ≤ n ∧ n ≤ 12959999)) : placeOfR n = .tuple #[.string ⟨#[]⟩, .bool false] := by unfold placeOfR; rw [if_neg h]
theorem sPlaceOf_any (n : Int) (w : World) : Calls Tryz.prog 26 #[.int .i64 n] w fun e w' => e = .returned (placeOfR n) ∧ w = w' := by
  have C := Lib.hid (l6In_any n 0 12959999)
  by_cases h : 0 ≤ n ∧ n ≤ 12959999
  · obtain ⟨k, rfl⟩ := Int.eq_ofNat_of_zero_le h.1
    rw [placeOfR_yes k (by omega)]
    have O := Lib.hid (l4Of_nat w k (by omega))
    rw [show decide (0 ≤ (k : Int) ∧ (k : Int) ≤ 12959999) = true from decide_eq_true h] at C
    clear h
    go_enter Tryz.func26, Tryz.ntmps26
    go_wp2_with fail
    refine (C.out _).mono ?_
    rintro e w1 ⟨rfl, rfl⟩
    go_wp2_with fail
    refine O.out.mono ?_
    rintro e w1 ⟨rfl, rfl⟩
    go_wp2_with fail
    go_ret2
    exact ⟨rfl, rfl⟩
  · rw [placeOfR_no n h]
    rw [show decide (0 ≤ n ∧ n ≤ 12959999) = false from decide_eq_false h] at C
    clear h
    go_enter Tryz.func26, Tryz.ntmps26
    go_wp2_with fail
    refine (C.out _).mono ?_
    rintro e w1 ⟨rfl, rfl⟩
    go_wp2_with fail
    go_ret2
    exact ⟨rfl, rfl⟩
/-- PlaceRead's answer -/
def placeReadR (l : List UInt8) : Value := if isC l = true then .tuple #[.int .i64 (cval l : Nat), .bool true] else .tuple #[.int .i64 0, .bool false]
theorem placeReadR_yes (l : List UInt8) (v : Nat) (h1 : v ≤ 12959999) (h2 : clay v = l) : placeReadR l = .tuple #[.int .i64 v, .bool true] := by
  subst h2
  unfold placeReadR
  rw [if_pos (isC_clay v h1), clay_val]
theorem placeReadR_no (l : List UInt8) (h : isC l = false) : placeReadR l = .tuple #[.int .i64 0, .bool false] := by unfold placeReadR; rw [h]; rfl
/-- what the loop leaves -/
theorem readEnd (l : List UInt8) (k v : Nat) (h : v = cval (l.take k)) (he : v < 12960000 → k = l.length) :
    (v ≤ 12959999 ∧ clay v = l → placeReadR l = .tuple #[.int .i64 v, .bool true]) ∧ (¬ (v ≤ 12959999 ∧ clay v = l) → placeReadR l = .tuple #[.int .i64 0, .bool false]) := by
  refine ⟨fun ⟨a, b⟩ => placeReadR_yes l v a b, fun hn => placeReadR_no l ?_⟩
  rw [Bool.eq_false_iff]
  intro hc
  obtain ⟨c1, c2⟩ := isC_of l hc
  have hp := cval_prefix l k
  rw [← h] at hp
  have hk := he (by omega)
  rw [hk, List.take_length] at h
  subst h
  exact hn ⟨c1, c2⟩
theorem byte_is (l : List UInt8) (k : Nat) (hk : k < l.length) (n : Nat) (hn : n < 256) : l[k] = UInt8.ofNat n ↔ ((l[k].toNat : Int) = n) := by
  constructor
  · intro h; rw [h, UInt8.toNat_ofNat']; omega
  · intro h
    apply UInt8.toNat_inj.1
    rw [UInt8.toNat_ofNat']
    omega
theorem ret_v {a b : Value} (h : a = b) : Ending.returned a = .returned b := by rw [h]
theorem bytes_at (l : List UInt8) (k : Nat) (hk : k < l.length) (c : UInt8) (h : l[k] = c) : ∀ hix, ((((⟨l.toArray⟩ : ByteArray)[k]'hix).toNat : Int)) = (c.toNat : Int) := by
  intro hix
  have e : (⟨l.toArray⟩ : ByteArray)[k]'hix = c := h
  rw [e]
theorem byte_ne (c : UInt8) (n : Nat) (hn : n < 256) (h : c ≠ UInt8.ofNat n) : ((c.toNat : Int) == (n : Int)) = false := by
  rw [beq_eq_false_iff_ne]
  intro e
  apply h
  apply UInt8.toNat_inj.1
  rw [UInt8.toNat_ofNat']
  omega
set_option maxRecDepth 100000 in
theorem sPlaceRead_any (l : List UInt8) (w : World) (hl : l.length ≤ 1048576) : Calls Tryz.prog 12 #[.string ⟨l.toArray⟩] w fun e w' => e = .returned (placeReadR l) ∧ w = w' := by
  go_enter Tryz.func12, Tryz.ntmps12
  go_wp2_with fail
  go_loop [4, 5] (fun s i => ∃ (k : Nat) (v : Int), k ≤ l.length ∧ 0 ≤ v ∧ v ≤ 777600000 ∧ s = .int .i64 v ∧ i = .int .i64 k ∧ Hid (v = (cval (l.take k) : Nat))) (fun _ i => l.length - (intOf i).toNat)
  case atStart => exact ⟨0, 0, by omega, by omega, by omega, rfl, rfl, Lib.hid rfl⟩
  case round =>
    obtain ⟨k, v, hk, hv0, hv, rfl, rfl, Hr⟩ := hrel
    by_cases hlt : k < l.length ∧ v < 12960000
    · obtain ⟨hlt, hv2⟩ := hlt
      have hs := cval_snoc l k hlt
      have hlt' : k < (⟨l.toArray⟩ : ByteArray).size := hlt
      by_cases h1 : l[k] = 60
      · have Hs : Hid (v + 10 = (cval (l.take (k + 1)) : Nat)) := Lib.hid (by rw [hs]; unfold cst; rw [if_pos h1]; have := Hr.out; omega)
        have hq : ((((⟨l.toArray⟩ : ByteArray)[k]'hlt').toNat : Int)) = 60 := bytes_at l k hlt 60 h1 _
        clear hs h1
        go_wp2_with fail
        go_round
        case rel => exact ⟨k + 1, v + 10, by omega, by omega, by omega, by go_num, by go_num, Hs⟩
        case measure => simp [intOf]; omega
      · have q1 : ((((⟨l.toArray⟩ : ByteArray)[k]'hlt').toNat : Int) == 60) = false := byte_ne l[k] 60 (by omega) h1
        by_cases h2 : l[k] = 89
        · have Hs : Hid (v + 1 = (cval (l.take (k + 1)) : Nat)) := Lib.hid (by rw [hs]; unfold cst; rw [if_neg h1, if_pos h2]; have := Hr.out; omega)
          have hq : ((((⟨l.toArray⟩ : ByteArray)[k]'hlt').toNat : Int)) = 89 := bytes_at l k hlt 89 h2 _
          clear hs h1 h2 q1
          go_wp2_with fail
          go_round
          case rel => exact ⟨k + 1, v + 1, by omega, by omega, by omega, by go_num, by go_num, Hs⟩
          case measure => simp [intOf]; omega
        · have q2 : ((((⟨l.toArray⟩ : ByteArray)[k]'hlt').toNat : Int) == 89) = false := byte_ne l[k] 89 (by omega) h2
          by_cases h3 : l[k] = 32
          · have Hs : Hid (v * 60 = (cval (l.take (k + 1)) : Nat)) := Lib.hid (by rw [hs]; unfold cst; rw [if_neg h1, if_neg h2, if_pos h3]; have := Hr.out; omega)
            have hq : ((((⟨l.toArray⟩ : ByteArray)[k]'hlt').toNat : Int)) = 32 := bytes_at l k hlt 32 h3 _
            clear hs h1 h2 h3 q1 q2
            go_wp2_with fail
            go_round
            case rel => exact ⟨k + 1, v * 60, by omega, by omega, by omega, by go_num, by go_num, Hs⟩
            case measure => simp [intOf]; omega
          · have Hs : Hid (v = (cval (l.take (k + 1)) : Nat)) := Lib.hid (by rw [hs]; unfold cst; rw [if_neg h1, if_neg h2, if_neg h3]; exact Hr.out)
            have q3 : ((((⟨l.toArray⟩ : ByteArray)[k]'hlt').toNat : Int) == 32) = false := byte_ne l[k] 32 (by omega) h3
            clear hs h1 h2 h3
            go_wp2_with fail
            go_round
            case rel => exact ⟨k + 1, v, by omega, by omega, by omega, rfl, by go_num, Hs⟩
            case measure => simp [intOf]; omega
    · by_cases hbig : v ≤ 12959999
      · obtain ⟨u, rfl⟩ := Int.eq_ofNat_of_zero_le hv0
        obtain ⟨e1, e2⟩ := readEnd l k u (by have := Hr.out; omega) (by omega)
        have E1 := Lib.hid e1; have E2 := Lib.hid e2; clear e1 e2
        obtain rfl : k = l.length := by omega
        have O := Lib.hid (l4Of_nat w u (by omega))
        have hsh := (clay_short u (by omega)).2
        by_cases he : clay u = l
        · have Hf := Lib.hid (E1.out ⟨by omega, he⟩)
          rw [he] at O
          clear he hlt hsh
          go_wp2_with fail
          refine O.out.mono ?_
          rintro e w1 ⟨rfl, rfl⟩
          go_wp2_with fail
          go_ret2
          exact ⟨ret_v Hf.out.symm, rfl⟩
        · have Hf := Lib.hid (E2.out fun h => he h.2)
          generalize clay u = L at *
          have hne : (L == l) = false := by rw [beq_eq_false_iff_ne]; exact he
          clear he hlt
          go_wp2_with fail
          refine O.out.mono ?_
          rintro e w1 ⟨rfl, rfl⟩
          go_wp2_with fail
          go_ret2
          exact ⟨ret_v Hf.out.symm, rfl⟩
      · have Hf : Hid (placeReadR l = .tuple #[.int .i64 0, .bool false]) := Lib.hid ((readEnd l k v.toNat (by have := Hr.out; omega) (by omega)).2 fun h => hbig (by omega))
        have hge : 12960000 ≤ v := by omega
        clear hlt hbig
        by_cases hkl : k < l.length
        · go_wp2_with fail
          go_ret2
          exact ⟨ret_v Hf.out.symm, rfl⟩
        · go_wp2_with fail
          go_ret2
          exact ⟨ret_v Hf.out.symm, rfl⟩
end Go.Proofs.YthbdnmnhoifnoaaGreatDoor

/- The model's chapter 8 (package spec): ChangeOf, ChangeLength. -/
namespace Go.Proofs.YthbdnmnhoifnoaaGreatDoor
open Go.RowKit
set_option linter.unusedVariables false
set_option maxRecDepth 100000
/-- an answer with a text -/
def oV : Option (List UInt8) → Value
  | some l => .tuple #[.string ⟨l.toArray⟩, .bool true]
  | none => .tuple #[.string ⟨#[]⟩, .bool false]
/-- an answer with a number -/
def iV : Option Nat → Value
  | some n => .tuple #[.int .i64 n, .bool true]
  | none => .tuple #[.int .i64 0, .bool false]
theorem oV_two (o : Option (List UInt8)) : ∃ (x : List UInt8) (b : Bool), oV o = .tuple #[.string ⟨x.toArray⟩, .bool b] ∧ (b = true → o = some x) ∧ (b = false → o = none ∧ x = []) := by
  cases o with
  | none => exact ⟨[], false, rfl, (fun h => by cases h), fun _ => ⟨rfl, rfl⟩⟩
  | some l => exact ⟨l, true, rfl, fun _ => rfl, (fun h => by cases h)⟩
theorem iV_two (o : Option Nat) : ∃ (x : Nat) (b : Bool), iV o = .tuple #[.int .i64 x, .bool b] ∧ (b = true → o = some x) ∧ (b = false → o = none ∧ x = 0) := by
  cases o with
  | none => exact ⟨0, false, rfl, (fun h => by cases h), fun _ => ⟨rfl, rfl⟩⟩
  | some l => exact ⟨l, true, rfl, fun _ => rfl, (fun h => by cases h)⟩
theorem chO_r (n : Int) : chO [114] n = if 1 ≤ n ∧ n ≤ 3999 then some (strict n.toNat) else none := by
  unfold chO
  rw [if_pos rfl]
theorem chO_a (n : Int) : chO [97] n = if 1 ≤ n ∧ n ≤ 9999 then some (aof n.toNat) else none := by
  unfold chO
  rw [if_neg (by decide), if_pos rfl]
theorem chO_c (n : Int) : chO [99] n = if 0 ≤ n ∧ n ≤ 12959999 then some (clay n.toNat) else none := by
  unfold chO
  rw [if_neg (by decide), if_neg (by decide), if_pos rfl]
theorem chO_k (n : Int) : chO [107] n = if 0 ≤ n ∧ n ≤ 99999999 then some (rkO n.toNat) else none := by
  unfold chO
  rw [if_neg (by decide), if_neg (by decide), if_neg (by decide), if_pos rfl]
theorem chO_d (n : Int) : chO [100] n = if 0 ≤ n ∧ n ≤ 99999999 then some (dcm n.toNat) else none := by
  unfold chO
  rw [if_neg (by decide), if_neg (by decide), if_neg (by decide), if_neg (by decide), if_pos rfl]
theorem oV_r (n : Int) : romanOfR n = oV (chO [114] n) := by
  unfold romanOfR; rw [chO_r]; split <;> rfl
theorem oV_a (n : Int) : alphaOfR n = oV (chO [97] n) := by
  unfold alphaOfR; rw [chO_a]; split <;> rfl
theorem oV_c (n : Int) : placeOfR n = oV (chO [99] n) := by
  unfold placeOfR; rw [chO_c]; split <;> rfl
theorem oV_k (n : Int) : rkR n = oV (chO [107] n) := by
  unfold rkR; rw [chO_k]; split <;> rfl
theorem oV_d (n : Int) : (if 0 ≤ n ∧ n ≤ 99999999 then .tuple #[.string ⟨(dcm n.toNat).toArray⟩, .bool true] else .tuple #[.string ⟨#[]⟩, .bool false]) = oV (chO [100] n) := by
  rw [chO_d]; split <;> rfl
theorem chO_other (K : List UInt8) (n : Int) (h1 : K ≠ [114]) (h2 : K ≠ [97]) (h3 : K ≠ [99]) (h4 : K ≠ [107]) (h5 : K ≠ [100]) : chO K n = none := by
  unfold chO
  rw [if_neg h1, if_neg h2, if_neg h3, if_neg h4, if_neg h5]
theorem kne {K m : List UInt8} (h : K ≠ m) : (K == m) = false := by rw [beq_eq_false_iff_ne]; exact h
/-- the length of a numeral -/
def lnO (K : List UInt8) (n : Int) : Option Nat := (chO K n).map List.length
def I64Ok (x : Int) : Prop := -9223372036854775808 ≤ x ∧ x ≤ 9223372036854775807
theorem i64_ok8 {x : Int} (h : (Lit.int .i64 x).wf = true) : I64Ok x := by
  simp only [Lit.wf, Bool.and_eq_true, decide_eq_true_eq] at h
  exact h
theorem bytes_list8 (s : ByteArray) : ∃ l : List UInt8, s = ⟨l.toArray⟩ ∧ s.size = l.length := ⟨s.data.toList, by simp, by simp⟩
theorem oV_val (o : Option (List UInt8)) : ∃ (x : ByteArray) (b : Bool), oV o = .tuple #[.string x, .bool b] := by
  obtain ⟨x, b, h, _⟩ := oV_two o
  exact ⟨_, b, h⟩
theorem iV_val (o : Option Nat) : ∃ (x : Nat) (b : Bool), iV o = .tuple #[.int .i64 x, .bool b] := by
  obtain ⟨x, b, h, _⟩ := iV_two o
  exact ⟨x, b, h⟩
end Go.Proofs.YthbdnmnhoifnoaaGreatDoor

/- The model's chapter 8 (package spec): ChangeShort. -/
namespace Go.Proofs.YthbdnmnhoifnoaaGreatDoor
open Go.RowKit
set_option linter.unusedVariables false
set_option maxRecDepth 100000
theorem lnO_bd (K : List UInt8) (n : Int) (k : Nat) (h : lnO K n = some k) : 1 ≤ k ∧ k ≤ 59 := by
  unfold lnO at h
  obtain ⟨s, hs, rfl⟩ := Option.map_eq_some_iff.1 h
  exact chO_len K n s hs
/-- kinds with the least length so far, and this length -/
def shN (n : Int) : Nat → List UInt8 × Nat
  | 0 => ([], 0)
  | i + 1 => match lnO [kb i] n with
    | none => shN n i
    | some k => if (shN n i).1 = [] ∨ k < (shN n i).2 then ([kb i], k) else if k = (shN n i).2 then ((shN n i).1 ++ [kb i], k) else shN n i
theorem shN_none (n : Int) (i : Nat) (h : lnO [kb i] n = none) : shN n (i + 1) = shN n i := by
  show (match lnO [kb i] n with | none => _ | some k => _) = _
  rw [h]
theorem shN_some (n : Int) (i k : Nat) (h : lnO [kb i] n = some k) : shN n (i + 1) = if (shN n i).1 = [] ∨ k < (shN n i).2 then ([kb i], k) else if k = (shN n i).2 then ((shN n i).1 ++ [kb i], k) else shN n i := by
  show (match lnO [kb i] n with | none => _ | some k => _) = _
  rw [h]
def shV (n : Int) : Value := .tuple #[.string ⟨(shN n 5).1.toArray⟩, .bool ((shN n 5).1 != [])]
theorem kcut : ∀ i, i < 5 → (⟨#[114, 97, 99, 107, 100]⟩ : ByteArray).extract i (i + 1) = ⟨[kb i].toArray⟩ := by
  have h : ∀ i, i < 5 → ((⟨#[114, 97, 99, 107, 100]⟩ : ByteArray).extract i (i + 1)).data = [kb i].toArray := by decide +kernel
  exact fun i hi => ByteArray.ext (h i hi)
theorem kbyte (k : Nat) (hk : k < 5) : ∀ hix, (((⟨#[114, 97, 99, 107, 100]⟩ : ByteArray)[k]'hix).toNat : Int) = ((kb k).toNat : Int) := by
  rcases (show k = 0 ∨ k = 1 ∨ k = 2 ∨ k = 3 ∨ k = 4 by omega) with rfl | rfl | rfl | rfl | rfl <;> exact fun _ => rfl
end Go.Proofs.YthbdnmnhoifnoaaGreatDoor

/- Rows of values of one cell each, of whatever type. -/
namespace Go.Proofs.YthbdnmnhoifnoaaGreatDoor
open Go.RowKit
set_option linter.unusedVariables false
set_option maxRecDepth 100000
def vals (v : Nat → Value) (n : Nat) : List Value := (List.range n).map v
theorem vals_at (v : Nat → Value) (n k : Nat) (h : k < n) : (vals v n)[k]? = some (v k) := by simp [vals, h]
theorem vals_len (v : Nat → Value) (n : Nat) : (vals v n).length = n := by simp [vals]
theorem vals_congr {u v : Nat → Value} {n : Nat} (h : ∀ k, k < n → u k = v k) : vals u n = vals v n :=
  List.map_congr_left fun k hk => by rw [h k (List.mem_range.1 hk)]
/-- a block of just n values, of type T -/
def VRow (T : TypeId) (w : World) (b n : Nat) (v : Nat → Value) : Prop := w.heap[b]? = some (.cells (vals v n).toArray T (0, 0))
section
variable {T : TypeId} {w w' : World} {b n : Nat} {u v : Nat → Value}
theorem VRow.lt (h : VRow T w b n v) : b < w.heap.size := lt_of_block' h
theorem VRow.cell (h : VRow T w b n v) (k : Nat) (hk : k < n) : w.cell? ⟨b, k, none⟩ = some (v k) := cell_at h (by rw [List.getElem?_toArray]; exact vals_at v n k hk)
theorem VRow.frozen (h : VRow T w b n v) (k : Nat) : w.frozen? ⟨b, k, none⟩ = false := by
  unfold VRow at h
  simp [World.frozen?, h]
theorem VRow.congr (h : VRow T w b n v) (e : ∀ k, k < n → v k = u k) : VRow T w b n u := by
  unfold VRow at h ⊢
  rw [h, vals_congr e]
theorem VRow.keep (h : VRow T w b n v) (e : w'.heap[b]? = w.heap[b]?) : VRow T w' b n v := e.trans h
theorem VRow.below (h : VRow T w b n v) (g : Below w.heap.size w w') : VRow T w' b n v := h.keep (g.block b h.lt)
theorem VRow.belowB {B : Nat} (h : VRow T w b n v) (g : Below B w w') (hb : b < B) : VRow T w' b n v := h.keep (g.block b hb)
theorem VRow.set_ (h : VRow T w b n v) (k : Nat) (x : Value) : VRow T (w.setCell ⟨b, k, none⟩ x) b n (fun j => if j = k then x else v j) := by
  unfold VRow at h ⊢
  have e : (vals v n).toArray.setIfInBounds k x = (vals (fun j => if j = k then x else v j) n).toArray := by
    apply Array.ext
    · simp [vals]
    · intro i h1 h2
      simp only [Array.size_setIfInBounds, List.size_toArray, vals_len] at h1
      by_cases e : k = i
      · subst e; simp [vals]
      · rw [Array.getElem_setIfInBounds_ne (by simpa [vals] using h1) e]
        simp [vals, Ne.symm e]
  simp only [World.setCell, Array.getElem?_modify, h, if_true, Option.map_some]
  rw [← e]
  rfl
theorem VRow.new (w : World) (T : TypeId) (n : Nat) (v : Nat → Value) : VRow T (w.alloc (.cells (vals v n).toArray T)) w.heap.size n v := heap_alloc_new w _
theorem VRow.alloc (h : VRow T w b n v) (o : Obj) : VRow T (w.alloc o) b n v := (Below.heap_alloc w o b h.lt).trans h
theorem VRow.upto {k : Nat} {z : Value} (h : VRow T w b n (fun j => if j < k then v j else z)) : VRow T (w.setCell ⟨b, k, none⟩ (v k)) b n (fun j => if j < k + 1 then v j else z) :=
  (h.set_ k (v k)).congr fun j hj => by
    by_cases e : j = k
    · subst e; simp
    · rw [if_neg e]
      by_cases h2 : j < k
      · rw [if_pos h2, if_pos (by omega)]
      · rw [if_neg h2, if_neg (by omega)]
end
theorem made_vals (z : Value) (hz : z.cells = #[z]) (n : Nat) : madeCells z.cells (n * 1) = (vals (fun _ => z) n).toArray := by
  rw [hz]
  apply Array.ext
  · simp [madeCells, vals]
  · intro i h1 h2
    simp [madeCells, vals, Nat.mod_one]
theorem wpList_make_vals {P : Program} (w : World) {ops : Array Oper} {rest : List Oper} {o : Oper} {a : Act} {Q : Exit → Act → World → Prop}
    (hg : o.guard = none) (l c : Operand) (t T : TypeId) (hop : o.op = Op.makeSlice t l c) (z : Value) (hzc : z.cells = #[z])
    (i : TypeInfo) (ht : P.underlying t = some (.slice T)) (hi : P.info? T = some i) (hz : i.zero = some z) (hsize : i.size = 1) (hby : i.bytes ≤ 16)
    (n : Nat) (hn : n ≤ 10000000) (hl : a.eval l = .int .i64 (n : Int)) (hc : a.eval c = .int .i64 (n : Int))
    (hK : ∀ w', VRow T w' w.heap.size n (fun _ => z) → Below w.heap.size w w' → w'.heap.size = w.heap.size + 1 → wpList P ops Q rest (a.put o.dst (.slice (some ⟨w.heap.size, 0, none⟩) n n)) w') :
    wpList P ops Q (o :: rest) a w := by
  refine wpList_plain hg fun K hK' => ?_
  have hb' : (i.bytes : Int) * (n : Int) ≤ 281474976710656 := by
    have h1 := Int.mul_le_mul (show (i.bytes : Int) ≤ 16 by omega) (show (n : Int) ≤ 10000000 by omega) (by omega) (by omega)
    omega
  have hrun := run_make (P := P) w t T i z ht hi hz .i64 .i64 n n (by omega) (Int.le_refl _) hb' (by omega)
  simp only [Int.toNat_natCast, hsize, made_vals z hzc] at hrun
  unfold Oper.wp
  simp [execOp, hop, hl, hc, hrun, Result.andThen]
  exact hK' _ _ (hK _ (VRow.new w T n _) ((Below.refl _ _).alloc (Nat.le_refl _) _) (by simp))
end Go.Proofs.YthbdnmnhoifnoaaGreatDoor

/- The program's chapter 8: all kinds with a text, one kind with a text. -/
namespace Go.Proofs.YthbdnmnhoifnoaaGreatDoor
open Go.RowKit
set_option linter.unusedVariables false
set_option maxRecDepth 100000
/-- a kind's own type -/
def kT (i : Nat) : TypeId := if i = 0 then 198 else if i = 1 then 199 else if i = 2 then 200 else if i = 3 then 201 else 202
/-- all kinds with a text, in memory -/
def NmR (w : World) (b : Nat) (l : List UInt8) : Prop := b < w.heap.size ∧ ∀ i, i < 5 → w.cell? ⟨b, i * 2, none⟩ = some (.string ⟨[kb i].toArray⟩) ∧ w.cell? ⟨b, i * 2 + 1, none⟩ = some (.iface (kT i) (.string ⟨l.toArray⟩))
theorem NmR.below {w w' : World} {b : Nat} {l : List UInt8} (h : NmR w b l) (g : Below w.heap.size w w') : NmR w' b l :=
  ⟨Nat.lt_of_lt_of_le h.1 g.size, fun i hi => ⟨(g.cell (p := ⟨b, i * 2, none⟩) h.1).trans (h.2 i hi).1, (g.cell (p := ⟨b, i * 2 + 1, none⟩) h.1).trans (h.2 i hi).2⟩⟩
abbrev nmCells (l : List UInt8) : Array Value := #[.string ⟨#[114]⟩, .iface 198 (.string ⟨l.toArray⟩), .string ⟨#[97]⟩, .iface 199 (.string ⟨l.toArray⟩), .string ⟨#[99]⟩, .iface 200 (.string ⟨l.toArray⟩), .string ⟨#[107]⟩, .iface 201 (.string ⟨l.toArray⟩), .string ⟨#[100]⟩, .iface 202 (.string ⟨l.toArray⟩)]
theorem nm_new (w : World) (l : List UInt8) : NmR (w.alloc (.cells (nmCells l) 144)) w.heap.size l := by
  have h := heap_alloc_new w (.cells (nmCells l) 144)
  refine ⟨lt_of_block' h, fun i hi => ?_⟩
  rcases (show i = 0 ∨ i = 1 ∨ i = 2 ∨ i = 3 ∨ i = 4 by omega) with rfl | rfl | rfl | rfl | rfl <;> exact ⟨cell_at h rfl, cell_at h rfl⟩
set_option maxHeartbeats 2000000 in
theorem numeralsAs_any (l : List UInt8) (w : World) : Calls Tryz.prog 135 #[.string ⟨l.toArray⟩] w fun e w' => ∃ b, e = .returned (.slice (some ⟨b, 0, none⟩) 5 5) ∧ w.heap.size ≤ b ∧ NmR w' b l ∧ Below w.heap.size w w' := by
  have H := Lib.hid (nm_new w l)
  have HB := Lib.hid ((Below.refl w.heap.size w).alloc (Nat.le_refl _) (.cells (nmCells l) 144))
  go_enter Tryz.func135, Tryz.ntmps135
  go_wp2_with fail
  go_ret
  exact ⟨_, rfl, Nat.le_refl _, H.out, HB.out⟩
/-- what is found of a kind: i is its place, 5 if it is none -/
def nAs (i : Nat) (l : List UInt8) : Value := if i < 5 then .tuple #[.iface (kT i) (.string ⟨l.toArray⟩), .bool true] else .tuple #[.nilIface, .bool false]
set_option maxHeartbeats 2000000 in
theorem numeralAs_at (K l : List UInt8) (p : Nat) (w : World) (hp : p ≤ 5) (hne : ∀ k, k < p → ([kb k] == K) = false) (heq : p < 5 → ([kb p] == K) = true) :
    Calls Tryz.prog 125 #[.string ⟨K.toArray⟩, .string ⟨l.toArray⟩] w fun e w' => e = .returned (nAs p l) ∧ Below w.heap.size w w' := by
  have C := Lib.hid (fun w => numeralsAs_any l w)
  have Hne := Lib.hid hne; have Heq := Lib.hid heq; clear hne heq
  have HV1 : Hid (p < 5 → nAs p l = .tuple #[.iface (kT p) (.string ⟨l.toArray⟩), .bool true]) := Lib.hid (fun h => if_pos h)
  have HV2 : Hid (¬ p < 5 → nAs p l = .tuple #[.nilIface, .bool false]) := Lib.hid (fun h => if_neg h)
  go_enter Tryz.func125, Tryz.ntmps125
  go_wp2_with fail
  refine (C.out _).mono ?_
  rintro e w1 ⟨b, rfl, hb, hN, hB⟩
  have HN := Lib.hid hN; have HB := Lib.hid hB; clear hN hB C
  go_wp2_with fail
  go_loopw [11] (fun i wr => ∃ k : Nat, k ≤ p ∧ i = .int .i64 k ∧ Hid (NmR wr b l) ∧ Hid (Below w.heap.size w wr)) (fun i _ => 5 - (intOf i).toNat)
  case atStart => exact ⟨0, by omega, rfl, HN, HB⟩
  case round =>
    obtain ⟨k, hk, rfl, HN1, HB1⟩ := hrel
    clear HN HB
    by_cases hlt : k < 5
    · obtain ⟨hd1, hd2⟩ := HN1.out.2 k hlt
      have hbl := HN1.out.1
      have i1 : (k : Int) < 5 := by omega
      have HB2 : Hid (Below w.heap.size w (wr.alloc (.cells #[.string ⟨[kb k].toArray⟩, .iface (kT k) (.string ⟨l.toArray⟩)] 144))) := Lib.hid (HB1.out.alloc HB1.out.size _)
      have HN2 : Hid (NmR (wr.alloc (.cells #[.string ⟨[kb k].toArray⟩, .iface (kT k) (.string ⟨l.toArray⟩)] 144)) b l) := Lib.hid (HN1.out.below ((Below.refl _ _).alloc (Nat.le_refl _) _))
      by_cases he : k < p
      · have q := Hne.out k he
        generalize kT k = T at *
        go_wp2_with fail
        go_roundw
        case rel => exact ⟨k + 1, by omega, by go_num, HN2, HB2⟩
        case measure => simp [intOf]; omega
      · obtain rfl : k = p := by omega
        have q := Heq.out hlt
        have HV := Lib.hid (HV1.out hlt)
        generalize kT k = T at *
        go_wp2_with fail
        go_ret2
        exact ⟨rret HV.out.symm, HB2.out⟩
    · obtain rfl : k = 5 := by omega
      obtain rfl : p = 5 := by omega
      have HV := Lib.hid (HV2.out (by omega))
      go_wp2_with fail
      go_ret2
      exact ⟨rret HV.out.symm, HB1.out⟩
/-- the place of a kind -/
def kIx (K : List UInt8) : Nat := if K = [114] then 0 else if K = [97] then 1 else if K = [99] then 2 else if K = [107] then 3 else if K = [100] then 4 else 5
theorem kIx_facts (K : List UInt8) : kIx K ≤ 5 ∧ (∀ k, k < kIx K → ([kb k] == K) = false) ∧ (kIx K < 5 → ([kb (kIx K)] == K) = true ∧ K = [kb (kIx K)]) ∧ (¬ kIx K < 5 → K ≠ [114] ∧ K ≠ [97] ∧ K ≠ [99] ∧ K ≠ [107] ∧ K ≠ [100]) := by
  have e0 : kb 0 = 114 := rfl
  have e1 : kb 1 = 97 := rfl
  have e2 : kb 2 = 99 := rfl
  have e3 : kb 3 = 107 := rfl
  have e4 : kb 4 = 100 := rfl
  have sw : ∀ c : UInt8, K ≠ [c] → ([c] == K) = false := fun c h => by rw [beq_eq_false_iff_ne]; exact fun e => h e.symm
  unfold kIx
  by_cases h0 : K = [114]
  · rw [if_pos h0]
    exact ⟨by omega, (fun k hk => by omega), (fun _ => ⟨by rw [h0]; rfl, h0⟩), fun h => absurd (by omega) h⟩
  rw [if_neg h0]
  by_cases h1 : K = [97]
  · rw [if_pos h1]
    refine ⟨by omega, (fun k hk => ?_), (fun _ => ⟨by rw [h1]; rfl, h1⟩), fun h => absurd (by omega) h⟩
    obtain rfl : k = 0 := by omega
    exact sw _ h0
  rw [if_neg h1]
  by_cases h2 : K = [99]
  · rw [if_pos h2]
    refine ⟨by omega, (fun k hk => ?_), (fun _ => ⟨by rw [h2]; rfl, h2⟩), fun h => absurd (by omega) h⟩
    rcases (show k = 0 ∨ k = 1 by omega) with rfl | rfl
    · exact sw _ h0
    · exact sw _ h1
  rw [if_neg h2]
  by_cases h3 : K = [107]
  · rw [if_pos h3]
    refine ⟨by omega, (fun k hk => ?_), (fun _ => ⟨by rw [h3]; rfl, h3⟩), fun h => absurd (by omega) h⟩
    rcases (show k = 0 ∨ k = 1 ∨ k = 2 by omega) with rfl | rfl | rfl
    · exact sw _ h0
    · exact sw _ h1
    · exact sw _ h2
  rw [if_neg h3]
  by_cases h4 : K = [100]
  · rw [if_pos h4]
    refine ⟨by omega, (fun k hk => ?_), (fun _ => ⟨by rw [h4]; rfl, h4⟩), fun h => absurd (by omega) h⟩
    rcases (show k = 0 ∨ k = 1 ∨ k = 2 ∨ k = 3 by omega) with rfl | rfl | rfl | rfl
    · exact sw _ h0
    · exact sw _ h1
    · exact sw _ h2
    · exact sw _ h3
  rw [if_neg h4]
  refine ⟨by omega, (fun k hk => ?_), (fun h => by omega), fun _ => ⟨h0, h1, h2, h3, h4⟩⟩
  rcases (show k = 0 ∨ k = 1 ∨ k = 2 ∨ k = 3 ∨ k = 4 by omega) with rfl | rfl | rfl | rfl | rfl
  · exact sw _ h0
  · exact sw _ h1
  · exact sw _ h2
  · exact sw _ h3
  · exact sw _ h4
theorem numeralAs_any (K l : List UInt8) (w : World) : Calls Tryz.prog 125 #[.string ⟨K.toArray⟩, .string ⟨l.toArray⟩] w fun e w' => e = .returned (nAs (kIx K) l) ∧ Below w.heap.size w w' := by
  obtain ⟨h1, h2, h3, _⟩ := kIx_facts K
  exact numeralAs_at K l (kIx K) w h1 h2 (fun h => (h3 h).1)
end Go.Proofs.YthbdnmnhoifnoaaGreatDoor
