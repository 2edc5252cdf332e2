/- Signs that are taken off, plain: short piles, their sizes, that none is smaller. No program. -/
import Derived.Test.YtgcalmenlcpjpaaDoorBM
namespace Go.Proofs.YtgcalmenlcpjpaaDoor
set_option linter.unusedVariables false
set_option maxRecDepth 100000
/-- a number without its sign -/
def abz (x : Int) : Int := max x (0 - x)
theorem abz_nonneg (x : Int) : 0 ≤ abz x := by unfold abz; omega
theorem abz_of {x : Int} (h : 0 ≤ x) : abz x = x := by unfold abz; omega
theorem abz_neg (x : Int) : abz (0 - x) = abz x := by unfold abz; omega
/-- the size of a signed pile -/
def szL : List Int → Int
  | [] => 0
  | x :: l => abz x + szL l
theorem szL_nonneg : ∀ l, 0 ≤ szL l
  | [] => Int.le_refl _
  | x :: l => by have := szL_nonneg l; have := abz_nonneg x; unfold szL; omega
/-- the value of signs from value i on, in that value -/
def vlL (v : Nat → Int) : Nat → List Int → Int
  | _, [] => 0
  | i, x :: l => x + rat v i * vlL v (i + 1) l
/-- the short pile of a number from value i on, with k values behind -/
def tkL (v : Nat → Int) : Nat → Nat → Int → List Int
  | 0, _, N => [N]
  | k + 1, i, N =>
    if N % rat v i = 0 then (N % rat v i) :: tkL v k (i + 1) (N / rat v i)
    else if szL ((N % rat v i - rat v i) :: tkL v k (i + 1) (N / rat v i + 1)) < szL ((N % rat v i) :: tkL v k (i + 1) (N / rat v i)) then (N % rat v i - rat v i) :: tkL v k (i + 1) (N / rat v i + 1)
    else (N % rat v i) :: tkL v k (i + 1) (N / rat v i)
theorem tkL_len (v : Nat → Int) : ∀ k i N, (tkL v k i N).length = k + 1
  | 0, _, _ => rfl
  | k + 1, i, N => by unfold tkL; split <;> (try split) <;> simp [tkL_len v k]
theorem tkL_val (v : Nat → Int) : ∀ k i N, vlL v i (tkL v k i N) = N
  | 0, i, N => by simp [tkL, vlL]
  | k + 1, i, N => by
    have e1 := Int.emod_add_mul_ediv N (rat v i)
    have e2 : rat v i * (N / rat v i + 1) = rat v i * (N / rat v i) + rat v i := by rw [Int.mul_add, Int.mul_one]
    unfold tkL
    split <;> (try split) <;> simp only [vlL, tkL_val v k] <;> omega
/-- the size of a short pile -/
def sz (v : Nat → Int) (k i : Nat) (N : Int) : Int := szL (tkL v k i N)
theorem sz_zero (v : Nat → Int) (i : Nat) (N : Int) (h : 0 ≤ N) : sz v 0 i N = N := by
  unfold sz tkL szL szL; rw [abz_of h]; omega
theorem sz_split (v : Nat → Int) (k i : Nat) (N : Int) (hs : 1 ≤ rat v i) : sz v (k + 1) i N = if N % rat v i = 0 then sz v k (i + 1) (N / rat v i) else min (N % rat v i + sz v k (i + 1) (N / rat v i)) (rat v i - N % rat v i + sz v k (i + 1) (N / rat v i + 1)) := by
  have h0 := Int.emod_nonneg N (show rat v i ≠ 0 by omega)
  have h1 := Int.emod_lt_of_pos N (show 0 < rat v i by omega)
  unfold sz
  have ea : abz (N % rat v i) = N % rat v i := abz_of h0
  have eb : abz (N % rat v i - rat v i) = rat v i - N % rat v i := by unfold abz; omega
  rw [tkL]
  split
  · rename_i h
    rw [szL, ea]; omega
  · rw [szL, szL, ea, eb]
    split
    · rw [szL, eb]; omega
    · rw [szL, ea]; omega
/-- one more or less changes a size by one at most -/
theorem sz_lip (v : Nat → Int) : ∀ k i, (∀ j, i ≤ j → j < i + k → 1 ≤ rat v j) → ∀ N, 0 ≤ N → sz v k i (N + 1) ≤ sz v k i N + 1 ∧ sz v k i N ≤ sz v k i (N + 1) + 1
  | 0, i, _, N, hN => by rw [sz_zero v i N hN, sz_zero v i (N + 1) (by omega)]; omega
  | k + 1, i, hs, N, hN => by
    have s1 := hs i (Nat.le_refl _) (by omega)
    have ih := sz_lip v k (i + 1) (fun j h1 h2 => hs j (by omega) (by omega))
    have h0 := Int.emod_nonneg N (show rat v i ≠ 0 by omega)
    have h1 := Int.emod_lt_of_pos N (show 0 < rat v i by omega)
    have hq := Int.ediv_nonneg hN (show 0 ≤ rat v i by omega)
    have hd := Int.emod_add_mul_ediv N (rat v i)
    have l1 := ih (N / rat v i) hq
    have l2 := ih (N / rat v i + 1) (by omega)
    rw [sz_split v k i N s1, sz_split v k i (N + 1) s1]
    by_cases h : N % rat v i + 1 < rat v i
    · have e1 : (N + 1) / rat v i = N / rat v i := by
        rw [← hd]
        rw [show N % rat v i + rat v i * (N / rat v i) + 1 = N % rat v i + 1 + rat v i * (N / rat v i) by omega, Int.add_mul_ediv_left _ _ (by omega), Int.ediv_eq_zero_of_lt (by omega) h]
        rw [Int.add_mul_ediv_left _ _ (by omega), Int.ediv_eq_zero_of_lt h0 h1]
      have e2 : (N + 1) % rat v i = N % rat v i + 1 := by
        have := Int.emod_add_mul_ediv (N + 1) (rat v i)
        rw [e1] at this
        omega
      rw [e1, e2, if_neg (by omega)]
      split <;> omega
    · have e1 : (N + 1) / rat v i = N / rat v i + 1 := by
        conv => lhs; rw [← hd]
        rw [show N % rat v i + rat v i * (N / rat v i) + 1 = rat v i * (N / rat v i + 1) by rw [Int.mul_add, Int.mul_one]; omega, Int.mul_ediv_cancel_left _ (by omega)]
      have e2 : (N + 1) % rat v i = 0 := by
        have := Int.emod_add_mul_ediv (N + 1) (rat v i)
        rw [e1, Int.mul_add, Int.mul_one] at this
        omega
      rw [e1, e2, if_pos rfl]
      split <;> omega
/-- .. of numbers with a sign -/
theorem sz_lipz (v : Nat → Int) (k i : Nat) (hs : ∀ j, i ≤ j → j < i + k → 1 ≤ rat v j) (M : Int) : sz v k i (abz (M + 1)) ≤ sz v k i (abz M) + 1 ∧ sz v k i (abz M) ≤ sz v k i (abz (M + 1)) + 1 := by
  by_cases h : 0 ≤ M
  · rw [abz_of h, abz_of (by omega)]; exact sz_lip v k i hs M h
  · have e1 : abz M = abz (M + 1) + 1 := by unfold abz; omega
    have := sz_lip v k i hs (abz (M + 1)) (abz_nonneg _)
    rw [e1]; omega
theorem sz_lipn (v : Nat → Int) (k i : Nat) (hs : ∀ j, i ≤ j → j < i + k → 1 ≤ rat v j) (M : Int) : ∀ d : Nat, sz v k i (abz (M + d)) ≤ sz v k i (abz M) + d ∧ sz v k i (abz (M - d)) ≤ sz v k i (abz M) + d
  | 0 => by simp
  | d + 1 => by
    obtain ⟨h1, h2⟩ := sz_lipn v k i hs M d
    have a := (sz_lipz v k i hs (M + d)).1
    have b := (sz_lipz v k i hs (M - (d + 1))).2
    rw [show M + ((d + 1 : Nat) : Int) = M + d + 1 by omega, show M - ((d + 1 : Nat) : Int) = M - (d + 1) by omega]
    rw [show M - ((d : Int) + 1) + 1 = M - d by omega] at b
    omega
theorem sz_lipx (v : Nat → Int) (k i : Nat) (hs : ∀ j, i ≤ j → j < i + k → 1 ≤ rat v j) (M x : Int) : sz v k i (abz (M + x)) ≤ sz v k i (abz M) + abz x := by
  rcases Int.le_total 0 x with h | h
  · obtain ⟨d, rfl⟩ := Int.eq_ofNat_of_zero_le h
    rw [abz_of h]; exact (sz_lipn v k i hs M d).1
  · obtain ⟨d, hd⟩ := Int.eq_ofNat_of_zero_le (show 0 ≤ 0 - x by omega)
    have := (sz_lipn v k i hs M d).2
    rw [show M + x = M - d by omega, show abz x = d by unfold abz; omega]
    exact this
/-- no signed pile with a value is smaller than the short one -/
theorem sz_least (v : Nat → Int) : ∀ k i, (∀ j, i ≤ j → j < i + k → 1 ≤ rat v j) → ∀ l : List Int, l.length = k + 1 → sz v k i (abz (vlL v i l)) ≤ szL l
  | 0, i, _, [x], _ => by
    rw [sz_zero v i _ (abz_nonneg _)]
    simp [vlL, szL]
  | k + 1, i, hs, x :: l, hl => by
    have s1 := hs i (Nat.le_refl _) (by omega)
    have ih := sz_least v k (i + 1) (fun j h1 h2 => hs j (by omega) (by omega)) l (by simpa using hl)
    have h1 := sz_lipx v (k + 1) i hs (rat v i * vlL v (i + 1) l) x
    have e : abz (rat v i * vlL v (i + 1) l) = rat v i * abz (vlL v (i + 1) l) := by
      rcases Int.le_total 0 (vlL v (i + 1) l) with h | h
      · rw [abz_of h, abz_of (Int.mul_nonneg (by omega) h)]
      · have h2 := Int.mul_nonneg (show 0 ≤ rat v i by omega) (show 0 ≤ 0 - vlL v (i + 1) l by omega)
        rw [Int.mul_sub, Int.mul_zero] at h2
        have e3 : abz (vlL v (i + 1) l) = 0 - vlL v (i + 1) l := by unfold abz; omega
        rw [e3, Int.mul_sub, Int.mul_zero]
        unfold abz
        omega
    have h2 : sz v (k + 1) i (rat v i * abz (vlL v (i + 1) l)) = sz v k (i + 1) (abz (vlL v (i + 1) l)) := by
      rw [sz_split v k i _ s1, Int.mul_emod_right, if_pos rfl, Int.mul_ediv_cancel_left _ (by omega)]
    rw [vlL, Int.add_comm x, szL]
    rw [e, h2] at h1
    omega
/-- how great the numbers of a short pile are -/
theorem tkL_mem (v : Nat → Int) : ∀ k i, (∀ j, i ≤ j → j < i + k → 2 ≤ rat v j ∧ rat v j ≤ 1000000) → ∀ N, 0 ≤ N → N ≤ 1000000 → ∀ x ∈ tkL v k i N, -1000000 ≤ x ∧ x ≤ 1000000
  | 0, i, _, N, h0, h1, x, hx => by simp [tkL] at hx; omega
  | k + 1, i, hs, N, h0, h1, x, hx => by
    obtain ⟨s1, s2⟩ := hs i (Nat.le_refl _) (by omega)
    have r0 := Int.emod_nonneg N (show rat v i ≠ 0 by omega)
    have r1 := Int.emod_lt_of_pos N (show 0 < rat v i by omega)
    have q0 := Int.ediv_nonneg h0 (show 0 ≤ rat v i by omega)
    have q1 : N / rat v i ≤ 500000 := by
      have hd := Int.emod_add_mul_ediv N (rat v i)
      have := Int.mul_le_mul_of_nonneg_right s1 q0
      omega
    have ih := tkL_mem v k (i + 1) (fun j h1 h2 => hs j (by omega) (by omega))
    unfold tkL at hx
    split at hx
    · rcases List.mem_cons.1 hx with rfl | hx
      · omega
      · exact ih _ q0 (by omega) x hx
    · split at hx
      · rcases List.mem_cons.1 hx with rfl | hx
        · omega
        · exact ih _ (by omega) (by omega) x hx
      · rcases List.mem_cons.1 hx with rfl | hx
        · omega
        · exact ih _ q0 (by omega) x hx
/-- each number but the last one is less than what makes one of the next value -/
theorem tkL_at (v : Nat → Int) : ∀ k i, (∀ j, i ≤ j → j < i + k → 1 ≤ rat v j) → ∀ N j, j < k → abz ((tkL v k i N).getD j 0) < rat v (i + j)
  | k + 1, i, hs, N, j, hj => by
    have s1 := hs i (Nat.le_refl _) (by omega)
    have r0 := Int.emod_nonneg N (show rat v i ≠ 0 by omega)
    have r1 := Int.emod_lt_of_pos N (show 0 < rat v i by omega)
    have ih := tkL_at v k (i + 1) (fun j h1 h2 => hs j (by omega) (by omega))
    have tail : ∀ m : Nat, j = m + 1 → ∀ N', abz ((tkL v k (i + 1) N').getD m 0) < rat v (i + j) := fun m hm N' => by
      have := ih N' m (by omega)
      rwa [show i + 1 + m = i + j by omega] at this
    unfold tkL
    rcases j with _ | m
    · split
      · rw [List.getD_cons_zero, abz_of r0]; exact r1
      · split
        · rename_i hne _
          rw [List.getD_cons_zero, Nat.add_zero]; unfold abz; omega
        · rw [List.getD_cons_zero, abz_of r0]; exact r1
    · split
      · rw [List.getD_cons_succ]; exact tail m rfl _
      · split
        · rw [List.getD_cons_succ]; exact tail m rfl _
        · rw [List.getD_cons_succ]; exact tail m rfl _
end Go.Proofs.YtgcalmenlcpjpaaDoor
