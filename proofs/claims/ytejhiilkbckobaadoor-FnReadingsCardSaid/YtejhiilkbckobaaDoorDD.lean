/- Chapter 4, plain: the readings as the program finds them. -/
import Derived.Test.YtejhiilkbckobaaDoorCP
import Derived.Test.YtejhiilkbckobaaDoorCR
namespace Go.Proofs.YtejhiilkbckobaaDoor
set_option linter.unusedVariables false
set_option maxRecDepth 100000
def rgo (g : Nat → List Nat) : Option Nat → List Nat
  | some d => g d
  | none => []
/-- the readings by what is cut off ahead, f digits at most -/
def rgs : Nat → List UInt8 → Nat → List Nat
  | _, [], n => [n]
  | 0, _ :: _, _ => []
  | f + 1, c :: s, n => (List.range (s.length + 1)).flatMap fun i => rgo (fun d => rgs f ((c :: s).drop (i + 1)) (n * 60 + d)) (rdo ((c :: s).take (i + 1)))
/-- those of the first j cuts -/
def rgJ (f : Nat) (l : List UInt8) (n j : Nat) : List Nat := (List.range j).flatMap fun i => rgo (fun d => rgs f (l.drop (i + 1)) (n * 60 + d)) (rdo (l.take (i + 1)))
theorem rgJ_zero (f : Nat) (l : List UInt8) (n : Nat) : rgJ f l n 0 = [] := rfl
theorem rgJ_some (f : Nat) (l : List UInt8) (n j d : Nat) (h : rdo (l.take (j + 1)) = some d) : rgJ f l n (j + 1) = rgJ f l n j ++ rgs f (l.drop (j + 1)) (n * 60 + d) := by
  unfold rgJ; rw [List.range_succ, List.flatMap_append, List.flatMap_singleton, h]; rfl
theorem rgJ_none (f : Nat) (l : List UInt8) (n j : Nat) (h : rdo (l.take (j + 1)) = none) : rgJ f l n (j + 1) = rgJ f l n j := by
  unfold rgJ; rw [List.range_succ, List.flatMap_append, List.flatMap_singleton, h]; simp [rgo]
theorem rgs_nil (f n : Nat) : rgs f [] n = [n] := by cases f <;> rfl
theorem rgs_none (l : List UInt8) (n : Nat) (h : l ≠ []) : rgs 0 l n = [] := by cases l with | nil => exact absurd rfl h | cons c s => rfl
theorem rgs_full (f : Nat) (l : List UInt8) (n : Nat) (h : l ≠ []) : rgs (f + 1) l n = rgJ f l n l.length := by cases l with | nil => exact absurd rfl h | cons c s => rfl
/-- a pressed text, or a part of one -/
def Prs (l : List UInt8) : Prop := ∀ c ∈ l, c = 60 ∨ c = 89
theorem Prs.drop {l : List UInt8} (h : Prs l) (k : Nat) : Prs (l.drop k) := fun c hc => h c (List.mem_of_mem_drop hc)
theorem Prs.take {l : List UInt8} (h : Prs l) (k : Nat) : Prs (l.take k) := fun c hc => h c (List.mem_of_mem_take hc)
theorem Prs.digit {l : List UInt8} (h : Prs l) {d : Nat} (hd : rdo l = some d) : 1 ≤ d ∧ d < 60 ∧ cdig d = l := by
  obtain ⟨h1, h2⟩ := (rdo_iff l d).1 hd
  refine ⟨?_, h1, h2⟩
  rcases Nat.eq_zero_or_pos d with rfl | h0
  · exfalso
    rcases h 46 (by rw [← h2]; decide) with e | e
    · exact absurd e (by decide)
    · exact absurd e (by decide)
  · exact h0
theorem mem_rgo {g : Nat → List Nat} {o : Option Nat} {x : Nat} : x ∈ rgo g o ↔ ∃ d, o = some d ∧ x ∈ g d := by
  cases o with
  | none => simp [rgo]
  | some d => simp [rgo]
theorem mem_rgs (f : Nat) : ∀ (s : List UInt8) (n x : Nat), Prs s → (x ∈ rgs f s n ↔ x ∈ prts f s n) := by
  induction f with
  | zero =>
    intro s n x _
    cases s with
    | nil => simp [rgs, prts]
    | cons c s => simp [rgs, prts]
  | succ f ih =>
    intro s n x hs
    cases s with
    | nil => simp [rgs, prts]
    | cons c s =>
      rw [mem_prts]
      simp only [rgs, List.mem_flatMap, List.mem_range, mem_rgo]
      constructor
      · rintro ⟨i, hi, d, hd, hx⟩
        obtain ⟨d1, d2, d3⟩ := (hs.take (i + 1)).digit hd
        rw [ih _ _ _ (hs.drop (i + 1)), mem_prts] at hx
        obtain ⟨ds, h1, h2, h3, h4⟩ := hx
        refine ⟨d :: ds, by simp; omega, ?_, ?_, ?_⟩
        · intro e he
          rcases List.mem_cons.1 he with rfl | he
          · exact ⟨d1, d2⟩
          · exact h2 e he
        · rw [List.flatMap_cons, h3, d3, List.take_append_drop]
        · rw [h4, Nat.mul_comm n 60]; rfl
      · rintro ⟨ds, h1, h2, h3, h4⟩
        cases ds with
        | nil => simp at h3
        | cons d r =>
          have hd := h2 d (by simp)
          rw [List.flatMap_cons] at h3
          have hl := cdig_len d hd.2
          have hll : (c :: s).length = (cdig d).length + (r.flatMap cdig).length := by rw [← h3, List.length_append]
          have hi : (cdig d).length - 1 + 1 = (cdig d).length := by omega
          refine ⟨(cdig d).length - 1, by simp at hll; omega, d, ?_, ?_⟩
          · rw [hi, ← h3, List.take_left]; exact (rdo_iff _ d).2 ⟨hd.2, rfl⟩
          · rw [ih _ _ _ (hs.drop _), mem_prts, hi, ← h3, List.drop_left]
            exact ⟨r, by simp at h1; omega, fun e he => h2 e (by simp [he]), rfl, by rw [h4, Nat.mul_comm n 60]; rfl⟩
theorem rgs_nodup (f : Nat) : ∀ (s : List UInt8) (n : Nat), Prs s → (rgs f s n).Pairwise (· ≠ ·) := by
  induction f with
  | zero =>
    intro s n _
    cases s with
    | nil => simp [rgs]
    | cons c s => simp [rgs]
  | succ f ih =>
    intro s n hs
    cases s with
    | nil => simp [rgs]
    | cons c s =>
      simp only [rgs]
      rw [List.pairwise_flatMap]
      refine ⟨fun i hi => ?_, ?_⟩
      · cases h : rdo ((c :: s).take (i + 1)) with
        | none => exact List.Pairwise.nil
        | some d => exact ih _ _ (hs.drop _)
      · have key : ∀ j, j ∈ List.range (s.length + 1) → ∀ x, x ∈ rgo (fun d => rgs f ((c :: s).drop (j + 1)) (n * 60 + d)) (rdo ((c :: s).take (j + 1))) → ∃ d r, cdig d = (c :: s).take (j + 1) ∧ digs x = (if n = 0 then [] else digs n) ++ d :: r := by
          intro j hj x hx
          obtain ⟨d, hd, hx⟩ := mem_rgo.1 hx
          obtain ⟨d1, d2, d3⟩ := (hs.take (j + 1)).digit hd
          rw [mem_rgs _ _ _ _ (hs.drop _), mem_prts] at hx
          obtain ⟨ds, h1, h2, h3, rfl⟩ := hx
          refine ⟨d, ds, d3, ?_⟩
          rw [Nat.mul_comm n 60, fold_digs ds _ (by omega) (fun e he => (h2 e he).2), digs_snoc n d d1 d2]
          simp
        refine List.Pairwise.imp_of_mem ?_ (List.pairwise_lt_range (n := s.length + 1))
        intro j k hj hk hlt x hx y hy e
        obtain ⟨d, r, c1, hr⟩ := key j hj x hx
        obtain ⟨d', t, c2, ht⟩ := key k hk y hy
        rw [e, ht] at hr
        have h := List.append_cancel_left hr
        simp only [List.cons.injEq] at h
        rw [h.1, c1] at c2
        have h2 := congrArg List.length c2
        have hk' := List.mem_range.1 hk
        simp only [List.length_take, List.length_cons] at h2
        omega
theorem rgs_len (f : Nat) : ∀ s n, s.length ≤ 8 → (rgs f s n).length ≤ 8 ^ f := by
  induction f with
  | zero => intro s n h; cases s <;> simp [rgs]
  | succ f ih =>
    intro s n h
    cases s with
    | nil => rw [rgs_nil, List.length_singleton]; exact Nat.one_le_pow _ _ (by omega)
    | cons c s =>
      rw [rgs_full _ _ _ (by simp)]
      have : ∀ j, (rgJ f (c :: s) n j).length ≤ j * 8 ^ f := fun j => by
        induction j with
        | zero => simp [rgJ]
        | succ j ihj =>
          rw [show (j + 1) * 8 ^ f = j * 8 ^ f + 8 ^ f from Nat.succ_mul _ _]
          cases hd : rdo ((c :: s).take (j + 1)) with
          | none => rw [rgJ_none _ _ _ _ hd]; exact Nat.le_trans ihj (Nat.le_add_right _ _)
          | some d =>
            rw [rgJ_some _ _ _ _ _ hd, List.length_append]
            exact Nat.add_le_add ihj (ih _ _ (by rw [List.length_drop]; omega))
      have h8 := this (c :: s).length
      have := Nat.mul_le_mul_right (8 ^ f) h
      rw [Nat.pow_succ]
      omega
theorem rgJ_len (f : Nat) (l : List UInt8) (n j : Nat) (h : l.length ≤ 8) : (rgJ f l n j).length ≤ j * 8 ^ f := by
  induction j with
  | zero => simp [rgJ]
  | succ j ihj =>
    rw [show (j + 1) * 8 ^ f = j * 8 ^ f + 8 ^ f from Nat.succ_mul _ _]
    cases hd : rdo (l.take (j + 1)) with
    | none => rw [rgJ_none _ _ _ _ hd]; exact Nat.le_trans ihj (Nat.le_add_right _ _)
    | some d =>
      rw [rgJ_some _ _ _ _ _ hd, List.length_append]
      exact Nat.add_le_add ihj (rgs_len f _ _ (by rw [List.length_drop]; omega))
/-- put in order they are the readings -/
theorem rgs_sorted (l : List UInt8) (hl : l ≠ []) (hp : Prs l) : ((rgs 3 l 0).map fun x : Nat => (x : Int)).mergeSort (fun x y => decide (x ≤ y)) = (rds l).map fun x : Nat => (x : Int) := by
  have hperm : (rgs 3 l 0).Perm (rds l) := by
    refine (List.perm_ext_iff_of_nodup (rgs_nodup 3 l 0 hp) ((rds_asc l).imp fun {a b} h => by omega)).2 fun x => ?_
    rw [mem_rgs 3 l 0 x hp, mem_prts0 l hl]
  refine List.Perm.eq_of_pairwise (le := fun a b => decide (a ≤ b) = true) (fun a b _ _ h1 h2 => by simp only [decide_eq_true_eq] at h1 h2; omega) (List.pairwise_mergeSort (fun a b c h1 h2 => by simp only [decide_eq_true_eq] at *; omega) (fun a b => by simp only [Bool.or_eq_true, decide_eq_true_eq]; omega) _) ?_ ((List.mergeSort_perm _ _).trans (hperm.map _))
  rw [List.pairwise_map]
  exact (rds_asc l).imp fun {a b} h => by simp only [decide_eq_true_eq]; omega
end Go.Proofs.YtejhiilkbckobaaDoor
