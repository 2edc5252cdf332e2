/- Piled texts lead back; loose values are greater than 0: plain. -/
import Derived.Test.YthgagidpnnaajaaDoorLN
namespace Go.Proofs.YthgagidpnnaajaaDoor
set_option linter.unusedVariables false
set_option maxRecDepth 100000
def addedNP : List (List Nat × Nat) := [([68], 500), ([67], 100), ([76], 50), ([88], 10), ([86], 5), ([73], 1)]
theorem piled0 : ∀ a, a < 25 → ∀ b, b < 40 → backN (take addedNP (40 * a + b)) = ((40 * a + b : Nat) : Int) ∧ goodN (take addedNP (40 * a + b)) = true ∧ (strictN (40 * a + b)).length ≤ (take addedNP (40 * a + b)).length := by decide +kernel
theorem piled_split (n : Nat) : piled n = many [77] (n / 1000) ++ (take addedNP (n % 1000)).map UInt8.ofNat := by
  rw [map_take]
  rfl
theorem piled_back (n : Nat) (h : n < 4000) : looseL (piled n) = n ∧ okL (piled n) = true ∧ (strict n).length ≤ (piled n).length := by
  have hb := piled0 (n % 1000 / 40) (by omega) (n % 1000 % 40) (by omega)
  rw [Nat.div_add_mod] at hb
  obtain ⟨i1, i2, _⟩ := looseL_map _ hb.2.1
  rw [hb.1] at i1
  have hm := looseL_many _ i2 (n / 1000)
  rw [piled_split, strict_split]
  refine ⟨by rw [hm.1, i1]; omega, hm.2, ?_⟩
  simp only [List.length_append, List.length_map]
  have := hb.2.2
  omega
/-- what letters in front of a letter can take off -/
def dv (l : Nat) : Int := [66, 166, 0, 16, 666, 1, 6].getD l 0
theorem dv_step0 : ∀ l, l < 7 → ∀ f, f < 7 → (lv l < lv f → lv l + dv l ≤ dv f) ∧ (0 ≤ lv l - dv l + dv f) ∧ 1 ≤ lv l - dv l ∧ 0 ≤ dv l ∧ dv l ≤ 666 := by decide
theorem dv_step (l f : Nat) (v : Int) (h : l < 7) (hf : f < 7) : v - dv f ≤ bef l f v - dv l := by
  have := dv_step0 l h f hf
  unfold bef
  split
  · have := this.1 (by assumption); omega
  · omega
theorem dv_bd (l : Nat) (h : l < 7) : 0 ≤ dv l ∧ dv l ≤ 666 := (dv_step0 l h l h).2.2.2
theorem loose_pot : ∀ s : List UInt8, okL s = true → s ≠ [] → 1 ≤ looseL s - dv (fst1 s)
  | [], _, h => absurd rfl h
  | c :: r, hok, _ => by
    rw [okL_cons, Bool.and_eq_true, decide_eq_true_eq] at hok
    cases r with
    | nil =>
      have e : bef (li (c.toNat : Int)) 2 0 = lv (li (c.toNat : Int)) := by
        have := lv_pos _ hok.1
        have e1 : lv 2 = 1 := rfl
        unfold bef
        rw [e1, if_neg (by omega)]; omega
      have := (dv_step0 _ hok.1 _ hok.1).2.2.1
      show 1 ≤ bef (li (c.toNat : Int)) 2 0 - dv (li (c.toNat : Int))
      rw [e]
      exact this
    | cons d q =>
      have ih := loose_pot (d :: q) hok.2 (by simp)
      have hs := dv_step (li (c.toNat : Int)) (fst1 (d :: q)) (looseL (d :: q)) hok.1 (fst1_lt _ hok.2)
      show 1 ≤ bef (li (c.toNat : Int)) (fst1 (d :: q)) (looseL (d :: q)) - dv (li (c.toNat : Int))
      omega
theorem loose_pos (s : List UInt8) (hok : okL s = true) (hs : 1 ≤ s.length) : 1 ≤ looseL s := by
  have h1 := loose_pot s hok (by intro h; subst h; simp at hs)
  have h2 := dv_bd _ (fst1_lt s hok)
  omega
theorem loose_m (s : List UInt8) (hok : okL s = true) : looseL (77 :: s) = looseL s + 1000 ∧ okL (77 :: s) = true := by
  have := looseL_many s hok 1
  rw [many_succ, many_zero] at this
  exact ⟨by have := this.1; simp at this; omega, by simpa using this.2⟩
end Go.Proofs.YthgagidpnnaajaaDoor
