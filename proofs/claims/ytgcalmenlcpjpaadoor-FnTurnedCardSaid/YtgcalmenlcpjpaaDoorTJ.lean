/- Facts of chapter 5 that the drawn laws want. -/
import Derived.Test.YtgcalmenlcpjpaaDoorTI
namespace Go.Proofs.YtgcalmenlcpjpaaDoor
open Go.RowKit
set_option linter.unusedVariables false
set_option maxRecDepth 100000
theorem sumF_cons (g : Nat → Int) : ∀ k, sumF g (k + 1) = g 0 + sumF (fun j => g (j + 1)) k
  | 0 => by simp [sumF]
  | k + 1 => by rw [sumF, sumF_cons g k]; simp only [sumF]; omega
theorem val_vlL {v : Nat → Int} {n : Nat} (h : SysF v n) : ∀ (l : List Int) (i : Nat), i + l.length ≤ n → sumF (fun j => v (i + j) * l.getD j 0) l.length = v i * vlL v i l
  | [], i, _ => by simp [sumF, vlL]
  | x :: l, i, hi => by
    have e1 : (fun j => v (i + (j + 1)) * (x :: l).getD (j + 1) 0) = fun j => v (i + 1 + j) * l.getD j 0 := by
      funext j; rw [List.getD_cons_succ, show i + (j + 1) = i + 1 + j by omega]
    rw [List.length_cons, sumF_cons, e1, val_vlL h l (i + 1) (by simp at hi; omega), List.getD_cons_zero, Nat.add_zero, vlL, Int.mul_add]
    congr 1
    cases l with
    | nil => simp [vlL]
    | cons y l => rw [h.rat_eq (j := i) (by simp at hi; omega), Int.mul_assoc]
theorem val_list {v : Nat → Int} {n : Nat} (h : SysF v n) (l : List Int) (hl : l.length = n) : val v (fun j => l.getD j 0) n = vlL v 0 l := by
  have := val_vlL h l 0 (by omega)
  rw [hl, h.one, Int.one_mul] at this
  rw [← this]
  unfold val
  exact sumF_congr n fun j _ => by rw [Nat.zero_add]
theorem tkF_val {f : Nat → Int} {n : Nat} {N : Int} (h : SysF f n) : val f (tkF f n N) n = N := by
  have := val_list h (tkL f (n - 1) 0 N) (tkF_len h.len)
  rw [tkL_val] at this
  exact this
theorem szF_list {p : Nat → Int} {n : Nat} : szL ((List.range n).map p) = szF p n := by
  rw [szL_szF, List.length_map, List.length_range]
  unfold szF
  exact sumF_congr n fun j hj => by simp [hj]
/-- no signed pile with a value that is not negative is smaller than its short pile -/
theorem tkF_least {f p : Nat → Int} {n : Nat} (h : SysF f n) (h0 : 0 ≤ val f p n) : szF (tkF f n (val f p n)) n ≤ szF p n := by
  have hl : ((List.range n).map p).length = n := by simp
  have h1 := sz_least f (n - 1) 0 (fun j _ hj => by have := h.rat_two (j := j) (by omega); omega) ((List.range n).map p) (by rw [hl]; have := h.len; omega)
  have h2 := val_list h ((List.range n).map p) hl
  have h3 : val f (fun j => ((List.range n).map p).getD j 0) n = val f p n := by unfold val; exact sumF_congr n fun j hj => by simp [hj]
  rw [h3] at h2
  rw [← h2, abz_of h0, szF_list] at h1
  rw [tkF_sz h.len]
  exact h1
theorem sgnB_tk {f : Nat → Int} {n : Nat} {N : Int} (h : ofB f n N = true) : sgnB f n (tkF f n N) n = true := sgnB_spec.2 ⟨(ofB_spec.1 h).1, rfl, tkF_bd h⟩
theorem tvB_tk {f : Nat → Int} {n : Nat} {N : Int} (h : ofB f n N = true) : tvB f n (tkF f n N) n = true ∧ tvR f n (tkF f n N) n = N := by
  obtain ⟨h1, h2, h3⟩ := ofB_spec.1 h
  have e := tkF_val (N := N) (sysB_sys h1).1
  have hb : tvB f n (tkF f n N) n = true := tvB_spec.2 ⟨sgnB_tk h, by rw [e]; omega, by rw [e]; exact h3⟩
  exact ⟨hb, by unfold tvR; rw [if_pos hb, e]⟩
theorem tzR_of {f p : Nat → Int} {n m : Nat} (h : sgnB f n p m = true) : tzR f n p m = szF p n := if_pos h
theorem tzR_no {f p : Nat → Int} {n m : Nat} (h : sgnB f n p m = false) : tzR f n p m = 0 := by unfold tzR; rw [h]; rfl
theorem tvR_of {f p : Nat → Int} {n m : Nat} (h : tvB f n p m = true) : tvR f n p m = val f p n := if_pos h
theorem tvR_no {f p : Nat → Int} {n m : Nat} (h : tvB f n p m = false) : tvR f n p m = 0 := by unfold tvR; rw [h]; rfl
theorem svR_no {f : Nat → Int} {n : Nat} {N : Int} (h : ofB f n N = false) : svR f n N = 0 := by unfold svR; rw [h]; rfl
theorem mstR_no {f : Nat → Int} {n : Nat} {N : Int} (h : mstB f n N = false) : mstR f n N = 0 := by unfold mstR; rw [h]; rfl
theorem tkF_rat {f : Nat → Int} {n : Nat} {N : Int} (h : SysF f n) (j : Nat) (hj : j + 1 < n) : abz (tkF f n N j) < rat f j := by
  have := tkL_at f (n - 1) 0 (fun j _ hj => by have := h.rat_two (j := j) (by omega); omega) N j (by omega)
  rwa [Nat.zero_add] at this
/-- turned signs -/
theorem szF_neg (p : Nat → Int) (n : Nat) : szF (fun j => -p j) n = szF p n := by
  unfold szF
  exact sumF_congr n fun j _ => by show abz (-p j) = abz (p j); unfold abz; omega
theorem sgnB_neg {f p : Nat → Int} {n m : Nat} (h : sgnB f n p m = true) : sgnB f n (fun j => -p j) m = true := by
  obtain ⟨h1, h2, h3⟩ := sgnB_spec.1 h
  exact sgnB_spec.2 ⟨h1, h2, fun j hj => by have := h3 j hj; show -1000000 ≤ -p j ∧ -p j ≤ 1000000; omega⟩
theorem val_neg (f p : Nat → Int) : ∀ n, val f (fun j => -p j) n = -val f p n
  | 0 => rfl
  | n + 1 => by
    have e1 : val f (fun j => -p j) (n + 1) = val f (fun j => -p j) n + f n * -p n := rfl
    have e2 : val f p (n + 1) = val f p n + f n * p n := rfl
    rw [e1, e2, val_neg f p n, Int.mul_neg]; omega
theorem tvB_neg {f p : Nat → Int} {n m : Nat} (h : sgnB f n p m = true) : tvB f n (fun j => -p j) m = tvB f n p m ∧ tvR f n (fun j => -p j) m = -tvR f n p m := by
  have e : tvB f n (fun j => -p j) m = tvB f n p m := by
    rw [Bool.eq_iff_iff, tvB_spec, tvB_spec, val_neg]
    constructor
    · rintro ⟨_, a, b⟩; exact ⟨h, by omega, by omega⟩
    · rintro ⟨_, a, b⟩; exact ⟨sgnB_neg h, by omega, by omega⟩
  refine ⟨e, ?_⟩
  unfold tvR
  rw [e, val_neg]
  split <;> simp
/-- what is saved -/
theorem svR_of {f : Nat → Int} {n : Nat} {N : Int} (h : ofB f n N = true) : svR f n N = sumF (pl f n N) n - szF (tkF f n N) n ∧ 0 ≤ svR f n N ∧ pilB f n (pl f n N) n = true := by
  obtain ⟨h1, h2, h3⟩ := ofB_spec.1 h
  obtain ⟨s1, s2, s3⟩ := sysB_sys h1
  have e : szF (pl f n N) n = sumF (pl f n N) n := by
    unfold szF
    exact sumF_congr n fun j hj => abz_of (pl_nonneg s1 N h2 j hj)
  have hv : svR f n N = sumF (pl f n N) n - szF (tkF f n N) n := by unfold svR; rw [if_pos h, e]
  have hl := tkF_least (p := pl f n N) s1 (by rw [pl_value s1]; exact h2)
  rw [pl_value s1, e] at hl
  exact ⟨hv, by rw [hv]; omega, pilB_spec.2 ⟨h1, rfl, fun j hj => ⟨pl_nonneg s1 N h2 j hj, Int.le_trans (pl_le s1 N h2 j hj) h3⟩⟩⟩
theorem ofB_most {f : Nat → Int} {n : Nat} {N : Int} (h : mstB f n N = true) (k : Nat) (hk : (k : Int) ≤ N) : ofB f n k = true := by
  obtain ⟨h1, h2, h3⟩ := mstB_spec.1 h
  exact ofB_spec.2 ⟨h1, by omega, by omega⟩
theorem sTk_sz {f : Nat → Int} {n : Nat} (k : Nat) (hn : 1 ≤ n) : szF (tkF f n k) n = sTk f n k := tkF_sz hn
theorem bnd_tk {f : Nat → Int} {n : Nat} {N : Int} (h : ofB f n N = true) : Bnd (tkF f n N) n := fun j hj => by have := tkF_bd h j hj; omega
theorem tvR_bd (f p : Nat → Int) (n m : Nat) : -1000000 ≤ tvR f n p m ∧ tvR f n p m ≤ 1000000 := by
  unfold tvR
  split
  · rename_i h; exact (tvB_spec.1 h).2
  · omega
theorem sv_bd {f : Nat → Int} {n : Nat} {N : Int} (h : ofB f n N = true) : 0 ≤ sumF (pl f n N) n ∧ sumF (pl f n N) n ≤ 6000000 ∧ 0 ≤ szF (tkF f n N) n ∧ szF (tkF f n N) n ≤ 6000000 := by
  obtain ⟨h1, h2, h3⟩ := ofB_spec.1 h
  obtain ⟨s1, s2, s3⟩ := sysB_sys h1
  have b1 := szF_bd (p := pl f n N) (n := n) (M := 1000000) (fun j hj => ⟨by have := pl_nonneg s1 N h2 j hj; omega, by have := pl_le s1 N h2 j hj; omega⟩) n (Nat.le_refl _)
  have b2 := szF_bd (p := tkF f n N) (n := n) (M := 1000000) (fun j hj => tkF_bd h j hj) n (Nat.le_refl _)
  have e : szF (pl f n N) n = sumF (pl f n N) n := by
    unfold szF
    exact sumF_congr n fun j hj => abz_of (pl_nonneg s1 N h2 j hj)
  rw [e] at b1
  omega
end Go.Proofs.YtgcalmenlcpjpaaDoor
