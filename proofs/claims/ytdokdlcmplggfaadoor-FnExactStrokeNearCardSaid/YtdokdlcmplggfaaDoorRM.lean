/- Roman letters, plain: texts by digits, greedy pieces, the longest. -/
namespace Go.Proofs.YtdokdlcmplggfaaDoor
/-- a text n times -/
def many {α : Type} (s : List α) (n : Nat) : List α := (List.replicate n s).flatten
theorem many_zero {α : Type} (s : List α) : many s 0 = [] := by simp [many]
theorem many_succ {α : Type} (s : List α) (n : Nat) : many s (n + 1) = s ++ many s n := by simp [many, List.replicate_succ]
theorem many_double {α : Type} (s : List α) (n : Nat) : many s (2 * n) = many (s ++ s) n := by
  induction n with
  | zero => simp [many]
  | succ n ih => rw [show 2 * (n + 1) = 2 * n + 1 + 1 by omega, many_succ, many_succ, ih, many_succ, List.append_assoc]
theorem many_odd {α : Type} (s : List α) (n : Nat) (h : n % 2 = 1) : many s n = s ++ many (s ++ s) (n / 2) := by
  conv => lhs; rw [show n = 2 * (n / 2) + 1 by omega]
  rw [many_succ, many_double]
theorem many_even {α : Type} (s : List α) (n : Nat) (h : n % 2 = 0) : many s n = many (s ++ s) (n / 2) := by
  conv => lhs; rw [show n = 2 * (n / 2) by omega]
  rw [many_double]
theorem many_length {α : Type} (s : List α) (n : Nat) : (many s n).length = n * s.length := by
  simp [many]

/-- one digit with three letters -/
def dig {α : Type} (o f t : α) : Nat → List α
  | 0 => [] | 1 => [o] | 2 => [o, o] | 3 => [o, o, o] | 4 => [o, f] | 5 => [f] | 6 => [f, o] | 7 => [f, o, o] | 8 => [f, o, o, o] | _ => [o, t]
/-- the strict text -/
def strict (n : Nat) : List UInt8 := many [77] (n / 1000) ++ dig 67 68 77 (n / 100 % 10) ++ dig 88 76 67 (n / 10 % 10) ++ dig 73 86 88 (n % 10)
/-- the greatest pieces first -/
def take {α : Type} : List (List α × Nat) → Nat → List α
  | [], _ => []
  | (b, v) :: ps, n => many b (n / v) ++ take ps (n % v)
def strictP : List (List UInt8 × Nat) := [([77], 1000), ([67, 77], 900), ([68], 500), ([67, 68], 400), ([67], 100), ([88, 67], 90), ([76], 50), ([88, 76], 40), ([88], 10), ([73, 88], 9), ([86], 5), ([73, 86], 4), ([73], 1)]
def addedP : List (List UInt8 × Nat) := [([77], 1000), ([68], 500), ([67], 100), ([76], 50), ([88], 10), ([86], 5), ([73], 1)]
def piled (n : Nat) : List UInt8 := take addedP n

theorem map_many {α β : Type} (f : α → β) (s : List α) (n : Nat) : (many s n).map f = many (s.map f) n := by simp [many]
theorem map_dig {α β : Type} (f : α → β) (a b c : α) (d : Nat) : (dig a b c d).map f = dig (f a) (f b) (f c) d := by
  unfold dig; split <;> rfl
theorem map_take {α β : Type} (f : α → β) : ∀ (ps : List (List α × Nat)) (n : Nat), (take ps n).map f = take (ps.map fun p => (p.1.map f, p.2)) n
  | [], n => rfl
  | p :: ps, n => by
    have ih := map_take f ps (n % p.2)
    simp only [take, List.map_append, map_many, List.map_cons, ih]
def strictN (n : Nat) : List Nat := dig 67 68 77 (n / 100) ++ dig 88 76 67 (n / 10 % 10) ++ dig 73 86 88 (n % 10)
def strictNP : List (List Nat × Nat) := [([67, 77], 900), ([68], 500), ([67, 68], 400), ([67], 100), ([88, 67], 90), ([76], 50), ([88, 76], 40), ([88], 10), ([73, 88], 9), ([86], 5), ([73, 86], 4), ([73], 1)]
theorem take_strict0 : ∀ a, a < 25 → ∀ b, b < 40 → take strictNP (40 * a + b) = strictN (40 * a + b) := by decide +kernel
theorem take_strict (n : Nat) (_h : n < 4000) : take strictP n = strict n := by
  have h1 := take_strict0 (n % 1000 / 40) (by omega) (n % 1000 % 40) (by omega)
  rw [Nat.div_add_mod] at h1
  have h2 := congrArg (List.map UInt8.ofNat) h1
  rw [map_take] at h2
  have e1 : strictP = ([77], 1000) :: strictNP.map (fun p => (p.1.map UInt8.ofNat, p.2)) := by decide
  have e2 : strict n = many [77] (n / 1000) ++ (strictN (n % 1000)).map UInt8.ofNat := by
    unfold strictN strict
    simp only [List.map_append, map_dig]
    rw [show n % 1000 / 100 = n / 100 % 10 by omega, show n % 1000 / 10 % 10 = n / 10 % 10 by omega, show n % 1000 % 10 = n % 10 by omega]
    simp
  rw [e1, e2, ← h2]
  rfl

/-- the least number up to n with the greatest f -/
def best (f : Nat → Nat) : Nat → Nat
  | 0 => 0
  | k + 1 => if k = 0 then 1 else if f (best f k) < f (k + 1) then k + 1 else best f k
theorem best_one (f : Nat → Nat) : best f 1 = 1 := rfl
theorem best_pos (f : Nat → Nat) (n : Nat) (h : 1 ≤ n) : 1 ≤ best f n ∧ best f n ≤ n := by
  induction n with
  | zero => omega
  | succ k ih =>
    unfold best
    split
    · omega
    · have := ih (by omega)
      split <;> omega
theorem best_step (f : Nat → Nat) (k : Nat) (h : 1 ≤ k) : best f (k + 1) = if f (best f k) < f (k + 1) then k + 1 else best f k := by
  conv => lhs; unfold best
  rw [if_neg (by omega)]
theorem best_max (f : Nat → Nat) (n : Nat) (h : 1 ≤ n) : ∀ k, 1 ≤ k → k ≤ n → f k ≤ f (best f n) ∧ (k < best f n → f k < f (best f n)) := by
  induction n with
  | zero => omega
  | succ m ih =>
    intro k hk hkm
    by_cases hm : m = 0
    · subst hm
      obtain rfl : k = 1 := by omega
      exact ⟨Nat.le_refl _, fun h => by simp [best] at h⟩
    · have hb := best_pos f m (by omega)
      rw [best_step f m (by omega)]
      have ih := ih (by omega)
      by_cases hkm' : k ≤ m
      · have := ih k hk hkm'
        split
        · exact ⟨by omega, fun _ => by omega⟩
        · exact this
      · obtain rfl : k = m + 1 := by omega
        split
        · exact ⟨Nat.le_refl _, fun h => by omega⟩
        · exact ⟨by omega, fun h => by omega⟩
/-- how many letters a strict text has -/
def strictLen (n : Nat) : Nat := (strict n).length
theorem longest_step (j : Nat) (h : 1 ≤ j) : best strictLen j = if strictLen (best strictLen (j - 1)) < strictLen j then j else best strictLen (j - 1) := by
  obtain ⟨k, rfl⟩ : ∃ k, j = k + 1 := ⟨j - 1, by omega⟩
  rw [Nat.add_sub_cancel]
  by_cases hk : k = 0
  · subst hk; decide
  · exact best_step strictLen k (by omega)
theorem strict_len (n : Nat) (h : n ≤ 3999) : (strict n).length ≤ 15 := by
  have hd (a b c : UInt8) (d : Nat) : (dig a b c d).length ≤ 4 := by unfold dig; split <;> simp
  have := hd 67 68 77 (n / 100 % 10)
  have := hd 88 76 67 (n / 10 % 10)
  have := hd 73 86 88 (n % 10)
  unfold strict
  simp only [List.length_append, many_length, List.length_cons, List.length_nil]
  omega
end Go.Proofs.YtdokdlcmplggfaaDoor
