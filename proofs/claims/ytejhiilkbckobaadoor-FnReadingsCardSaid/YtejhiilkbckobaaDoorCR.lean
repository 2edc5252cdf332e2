/- Chapter 4, plain: the readings of a pressed text. -/
import Derived.Test.YtejhiilkbckobaaDoorCM
namespace Go.Proofs.YtejhiilkbckobaaDoor
set_option linter.unusedVariables false
set_option maxRecDepth 100000
/-- a text without its spaces -/
def bare (l : List UInt8) : List UInt8 := l.filter (fun c => c != 32)
/-- the digits of a number -/
def digs (n : Nat) : List Nat := if _h : n < 60 then [n] else digs (n / 60) ++ [n % 60]
termination_by n
decreasing_by omega
theorem digs_low (n : Nat) (h : n < 60) : digs n = [n] := by rw [digs, dif_pos h]
theorem digs_high (n : Nat) (h : ¬ n < 60) : digs n = digs (n / 60) ++ [n % 60] := by rw [digs, dif_neg h]
def dfold (n : Nat) (ds : List Nat) : Nat := ds.foldl (fun a d => 60 * a + d) n
theorem digs_fold (n : Nat) : dfold 0 (digs n) = n := by
  induction n using Nat.strongRecOn with
  | ind n ih =>
    by_cases h : n < 60
    · rw [digs_low n h]; unfold dfold; simp
    · rw [digs_high n h]
      have e := ih (n / 60) (by omega)
      unfold dfold at *
      rw [List.foldl_append, e]
      simp only [List.foldl_cons, List.foldl_nil]
      omega
theorem fold_digs (r : List Nat) : ∀ n, 1 ≤ n → (∀ d ∈ r, d < 60) → digs (dfold n r) = digs n ++ r := by
  induction r with
  | nil => intro n _ _; simp [dfold]
  | cons d r ih =>
    intro n hn hd
    have h1 := hd d (by simp)
    show digs (dfold (60 * n + d) r) = _
    rw [ih (60 * n + d) (by omega) (fun e he => hd e (by simp [he])), digs_high _ (by omega), show (60 * n + d) / 60 = n by omega, show (60 * n + d) % 60 = d by omega]
    simp
theorem fold_digs0 (d : Nat) (r : List Nat) (h1 : 1 ≤ d) (h2 : d < 60) (h : ∀ e ∈ r, e < 60) : digs (dfold 0 (d :: r)) = d :: r := by
  show digs (dfold (60 * 0 + d) r) = _
  rw [fold_digs r _ (by omega) h, digs_low _ (by omega)]
  simp
theorem digs_lt (n : Nat) : ∀ d ∈ digs n, d < 60 := by
  induction n using Nat.strongRecOn with
  | ind n ih =>
    intro d hd
    by_cases h : n < 60
    · rw [digs_low n h] at hd; simp at hd; omega
    · rw [digs_high n h] at hd
      rcases List.mem_append.1 hd with hd | hd
      · exact ih (n / 60) (by omega) d hd
      · simp at hd; omega
theorem digs_ne (n : Nat) : digs n ≠ [] := by
  by_cases h : n < 60
  · rw [digs_low n h]; simp
  · rw [digs_high n h]; simp
theorem many_mem (c : UInt8) (k : Nat) : ∀ x ∈ (many [c] k), x = c := by
  intro x hx
  unfold many at hx
  simp at hx
  exact hx.2
theorem cdig_mem (d : Nat) : ∀ c ∈ cdig d, (d = 0 ∧ c = 46) ∨ (d ≠ 0 ∧ (c = 60 ∨ c = 89)) := by
  intro c hc
  unfold cdig at hc
  split at hc
  · rename_i h; simp at hc; exact .inl ⟨h, hc⟩
  · rename_i h
    rcases List.mem_append.1 hc with hc | hc
    · exact .inr ⟨h, .inl (many_mem 60 _ c hc)⟩
    · exact .inr ⟨h, .inr (many_mem 89 _ c hc)⟩
theorem bare_cdig (d : Nat) : bare (cdig d) = cdig d := by
  unfold bare
  rw [List.filter_eq_self]
  intro c hc
  rcases cdig_mem d c hc with ⟨_, rfl⟩ | ⟨_, rfl | rfl⟩ <;> decide
theorem bare_clay (n : Nat) : bare (clay n) = (digs n).flatMap cdig := by
  induction n using Nat.strongRecOn with
  | ind n ih =>
    by_cases h : n < 60
    · rw [clay_low n h, digs_low n h, bare_cdig]; simp
    · rw [clay_high n h, digs_high n h]
      have e := ih (n / 60) (by omega)
      have e2 := bare_cdig (n % 60)
      unfold bare at *
      rw [List.filter_append, e, List.flatMap_append, List.filter_cons_of_neg (by decide), e2]
      simp
theorem clay_dot (n : Nat) : (46 : UInt8) ∈ clay n ↔ 0 ∈ digs n := by
  have hd : ∀ d, (46 : UInt8) ∈ cdig d ↔ d = 0 := fun d => by
    constructor
    · intro h
      rcases cdig_mem d 46 h with h | ⟨_, h | h⟩
      · exact h.1
      · exact absurd h (by decide)
      · exact absurd h (by decide)
    · rintro rfl; simp [cdig]
  induction n using Nat.strongRecOn with
  | ind n ih =>
    by_cases h : n < 60
    · rw [clay_low n h, digs_low n h, hd]
      constructor
      · rintro rfl; simp
      · intro h; simp at h; omega
    · have e : (46 : UInt8) ∈ clay (n / 60) ↔ 0 ∈ digs (n / 60) := ih (n / 60) (by omega)
      rw [clay_high n h, digs_high n h, List.mem_append, List.mem_append, List.mem_cons, hd, e]
      constructor
      · rintro (h | h | h)
        · exact .inl h
        · exact absurd h (by decide)
        · exact .inr (by simp [h])
      · rintro (h | h)
        · exact .inl h
        · refine .inr (.inr ?_)
          simp at h
          omega
theorem digs_len (n : Nat) : (digs n).length ≤ 3 ↔ n ≤ 215999 := by
  by_cases h1 : n < 60
  · rw [digs_low n h1]; simp; omega
  · rw [digs_high n h1]
    by_cases h2 : n / 60 < 60
    · rw [digs_low _ h2]; simp; omega
    · rw [digs_high _ h2]
      by_cases h3 : n / 60 / 60 < 60
      · rw [digs_low _ h3]; simp; omega
      · rw [digs_high _ h3]
        have := digs_ne (n / 60 / 60 / 60)
        have h4 : 1 ≤ (digs (n / 60 / 60 / 60)).length := List.length_pos_iff.2 this
        simp only [List.length_append, List.length_cons, List.length_nil]
        omega
/-- a reading of a text -/
def isRd (s : List UInt8) (x : Nat) : Bool := decide (1 ≤ x) && decide ((46 : UInt8) ∉ clay x) && decide (bare (clay x) = s)
/-- all readings -/
def rds (s : List UInt8) : List Nat := (List.range 216000).filter (isRd s)
theorem mem_rds (s : List UInt8) (x : Nat) : x ∈ rds s ↔ x ≤ 215999 ∧ isRd s x = true := by
  unfold rds
  rw [List.mem_filter, List.mem_range]
  constructor <;> (rintro ⟨h1, h2⟩; exact ⟨by omega, h2⟩)
theorem isRd_iff (s : List UInt8) (x : Nat) : isRd s x = true ↔ 1 ≤ x ∧ 0 ∉ digs x ∧ (digs x).flatMap cdig = s := by
  unfold isRd
  rw [Bool.and_eq_true, Bool.and_eq_true, decide_eq_true_eq, decide_eq_true_eq, decide_eq_true_eq, clay_dot, bare_clay, and_assoc]
theorem rds_asc (s : List UInt8) : (rds s).Pairwise (· < ·) := List.Pairwise.filter _ List.pairwise_lt_range
/-- two ascending lists with the same members -/
theorem asc_unique : ∀ (a b : List Nat), a.Pairwise (· < ·) → b.Pairwise (· < ·) → (∀ x, x ∈ a ↔ x ∈ b) → a = b
  | [], [], _, _, _ => rfl
  | [], y :: b, _, _, h => absurd ((h y).2 (by simp)) (by simp)
  | x :: a, [], _, _, h => absurd ((h x).1 (by simp)) (by simp)
  | x :: a, y :: b, ha, hb, h => by
    obtain ⟨ha1, ha2⟩ := List.pairwise_cons.1 ha
    obtain ⟨hb1, hb2⟩ := List.pairwise_cons.1 hb
    have hxy : x = y := by
      rcases List.mem_cons.1 ((h x).1 (by simp)) with e | e
      · exact e
      · rcases List.mem_cons.1 ((h y).2 (by simp)) with e' | e'
        · exact e'.symm
        · have := ha1 y e'; have := hb1 x e; omega
    subst hxy
    rw [asc_unique a b ha2 hb2 (fun z => ?_)]
    constructor
    · intro hz
      rcases List.mem_cons.1 ((h z).1 (by simp [hz])) with e | e
      · have := ha1 z hz; omega
      · exact e
    · intro hz
      rcases List.mem_cons.1 ((h z).2 (by simp [hz])) with e | e
      · have := hb1 z hz; omega
      · exact e
/-- the digits that a text can be cut into, f at most, one after another -/
def prts : Nat → List UInt8 → Nat → List Nat
  | _, [], n => [n]
  | 0, _ :: _, _ => []
  | f + 1, c :: s, n => (List.range 59).flatMap fun j => if (cdig (j + 1)) <+: (c :: s) then prts f ((c :: s).drop (cdig (j + 1)).length) (60 * n + (j + 1)) else []
theorem mem_prts (f : Nat) : ∀ (s : List UInt8) (n x : Nat), x ∈ prts f s n ↔ ∃ ds : List Nat, ds.length ≤ f ∧ (∀ d ∈ ds, 1 ≤ d ∧ d < 60) ∧ ds.flatMap cdig = s ∧ x = dfold n ds := by
  have hne : ∀ d, 1 ≤ d → d < 60 → cdig d ≠ [] := fun d h1 h2 h => by have := cdig_len d h2; rw [h] at this; simp at this
  have hnil : ∀ (f n x : Nat), x ∈ ([n] : List Nat) ↔ ∃ ds : List Nat, ds.length ≤ f ∧ (∀ d ∈ ds, 1 ≤ d ∧ d < 60) ∧ ds.flatMap cdig = [] ∧ x = dfold n ds := fun f n x => by
    constructor
    · intro h
      exact ⟨[], by simp, by simp, by simp, by simpa [dfold] using h⟩
    · rintro ⟨ds, h1, h2, h3, h4⟩
      cases ds with
      | nil => simpa [dfold] using h4
      | cons d r =>
        simp only [List.flatMap_cons, List.append_eq_nil_iff] at h3
        exact absurd h3.1 (hne d (h2 d (by simp)).1 (h2 d (by simp)).2)
  induction f with
  | zero =>
    intro s n x
    cases s with
    | nil => simp only [prts]; exact hnil 0 n x
    | cons c s =>
      simp only [prts, List.not_mem_nil, false_iff]
      rintro ⟨ds, h1, h2, h3, h4⟩
      have : ds = [] := List.length_eq_zero_iff.1 (by omega)
      subst this
      simp at h3
  | succ f ih =>
    intro s n x
    cases s with
    | nil => simp only [prts]; exact hnil (f + 1) n x
    | cons c s =>
      simp only [prts, List.mem_flatMap, List.mem_range]
      constructor
      · rintro ⟨j, hj, hx⟩
        split at hx
        · rename_i hp
          obtain ⟨t, ht⟩ := hp
          rw [← ht, List.drop_left, ih] at hx
          obtain ⟨ds, h1, h2, h3, h4⟩ := hx
          refine ⟨(j + 1) :: ds, by simp; omega, ?_, ?_, h4⟩
          · intro d hd
            rcases List.mem_cons.1 hd with rfl | hd
            · omega
            · exact h2 d hd
          · rw [List.flatMap_cons, h3, ht]
        · cases hx
      · rintro ⟨ds, h1, h2, h3, h4⟩
        cases ds with
        | nil => simp at h3
        | cons d r =>
          have hd := h2 d (by simp)
          rw [List.flatMap_cons] at h3
          refine ⟨d - 1, by omega, ?_⟩
          rw [show d - 1 + 1 = d by omega, if_pos ⟨_, h3⟩, ← h3, List.drop_left, ih]
          exact ⟨r, by simp at h1; omega, fun e he => h2 e (by simp [he]), rfl, h4⟩
theorem mem_prts0 (s : List UInt8) (hs : s ≠ []) (x : Nat) : x ∈ prts 3 s 0 ↔ x ∈ rds s := by
  rw [mem_prts, mem_rds, isRd_iff]
  constructor
  · rintro ⟨ds, h1, h2, h3, rfl⟩
    cases ds with
    | nil => exact absurd h3.symm (by simpa using hs)
    | cons d r =>
      have hd := h2 d (by simp)
      have e := fold_digs0 d r hd.1 hd.2 (fun e he => (h2 e (by simp [he])).2)
      refine ⟨(digs_len _).1 (by rw [e]; exact h1), ?_, ?_, by rw [e]; exact h3⟩
      · have : ∀ (r : List Nat) n, n ≤ dfold n r := fun r => by
          induction r with
          | nil => exact fun n => Nat.le_refl n
          | cons d r ih => intro n; have := ih (60 * n + d); show n ≤ dfold (60 * n + d) r; omega
        have := this r (60 * 0 + d)
        show 1 ≤ dfold (60 * 0 + d) r
        omega
      · rw [e]
        intro h0
        have := h2 0 h0
        omega
  · rintro ⟨h1, h2, h3, h4⟩
    refine ⟨digs x, (digs_len x).2 h1, fun d hd => ⟨?_, digs_lt x d hd⟩, h4, (digs_fold x).symm⟩
    rcases Nat.eq_zero_or_pos d with rfl | h
    · exact absurd hd h3
    · exact h
theorem digs_snoc (n d : Nat) (h1 : 1 ≤ d) (h2 : d < 60) : digs (60 * n + d) = (if n = 0 then [] else digs n) ++ [d] := by
  split
  · rename_i h; subst h; rw [digs_low _ (by omega)]; simp
  · rename_i h
    rw [digs_high _ (by omega), show (60 * n + d) / 60 = n by omega, show (60 * n + d) % 60 = d by omega]
/-- no number stands twice -/
theorem prts_nodup (f : Nat) : ∀ (s : List UInt8) (n : Nat), (prts f s n).Pairwise (· ≠ ·) := by
  induction f with
  | zero =>
    intro s n
    cases s with
    | nil => simp [prts]
    | cons c s => simp [prts]
  | succ f ih =>
    intro s n
    cases s with
    | nil => simp [prts]
    | cons c s =>
      simp only [prts]
      rw [List.pairwise_flatMap]
      refine ⟨fun j hj => ?_, ?_⟩
      · split
        · exact ih _ _
        · exact List.Pairwise.nil
      · have key : ∀ j, j ∈ List.range 59 → ∀ x, x ∈ (if (cdig (j + 1)) <+: (c :: s) then prts f ((c :: s).drop (cdig (j + 1)).length) (60 * n + (j + 1)) else []) → ∃ r, digs x = (if n = 0 then [] else digs n) ++ (j + 1) :: r := by
          intro j hj x hx
          have hj' := List.mem_range.1 hj
          split at hx
          · rw [mem_prts] at hx
            obtain ⟨ds, h1, h2, h3, rfl⟩ := hx
            refine ⟨ds, ?_⟩
            rw [fold_digs ds _ (by omega) (fun d hd => (h2 d hd).2), digs_snoc n (j + 1) (by omega) (by omega)]
            simp
          · cases hx
        refine List.Pairwise.imp_of_mem ?_ (List.pairwise_lt_range (n := 59))
        intro j k hj hk hlt x hx y hy e
        obtain ⟨r, hr⟩ := key j hj x hx
        obtain ⟨t, ht⟩ := key k hk y hy
        rw [e, ht] at hr
        have := List.append_cancel_left hr
        simp at this
        omega
/-- x is put into an ascending list -/
theorem asc_insert (l : List Nat) (x k : Nat) (hl : l.Pairwise (· < ·)) (hk : k ≤ l.length) (hx : x ∉ l) (h1 : ∀ y ∈ l.take k, y ≤ x) (h2 : ∀ y ∈ l.drop k, x < y) : (l.take k ++ x :: l.drop k).Pairwise (· < ·) := by
  have hs : l.take k ++ l.drop k = l := List.take_append_drop k l
  have hp := hl
  rw [← hs, List.pairwise_append] at hp
  obtain ⟨p1, p2, p3⟩ := hp
  rw [List.pairwise_append, List.pairwise_cons]
  refine ⟨p1, ⟨h2, p2⟩, fun a ha b hb => ?_⟩
  rcases List.mem_cons.1 hb with rfl | hb
  · have := h1 a ha
    have : a ≠ b := fun e => hx (by rw [← e]; exact List.mem_of_mem_take ha)
    omega
  · exact p3 a ha b hb
theorem mem_insert (l : List Nat) (x k : Nat) (z : Nat) : z ∈ l.take k ++ x :: l.drop k ↔ z = x ∨ z ∈ l := by
  conv => rhs; rw [← List.take_append_drop k l]
  simp only [List.mem_append, List.mem_cons]
  constructor
  · rintro (h | h | h)
    · exact .inr (.inl h)
    · exact .inl h
    · exact .inr (.inr h)
  · rintro (h | h | h)
    · exact .inr (.inl h)
    · exact .inl h
    · exact .inr (.inr h)
end Go.Proofs.YtejhiilkbckobaaDoor
