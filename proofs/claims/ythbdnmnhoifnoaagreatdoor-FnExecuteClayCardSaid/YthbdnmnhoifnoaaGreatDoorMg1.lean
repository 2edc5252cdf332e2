/- Several texts of mine, one after another: RM, AM, CM, UA, YA, K, K2, ZB, ZC, ZD, ZA. -/
import Derived.WalkKit
import Derived.WalkSpells
import Derived.WalkLawsBesides
import Derived.Lib.Hide
import Derived.Lib.AppendStr
import Derived.Lib.BufferRead
import Derived.BigQuiet
import Derived.Deep.QuietTactic
import Derived.Deep.DeepFit
import Derived.Test.YthbdnmnhoifnoaaGreatDoorProg
import Derived.Laws.BytesArg
import Derived.Deep.RegionLaw
import Derived.IntWalk
import Derived.Maps.RangeRun
import Derived.Maps.Keyed
import Derived.DeepKeys4
import Derived.Carry
import Derived.Lib.SplitLaws
import Derived.Lib.CutLaws
/- Roman letters, plain: texts by digits, greedy pieces, the longest. -/
namespace Go.Proofs.YthbdnmnhoifnoaaGreatDoor
/-- a text n times -/
def many {α : Type} (s : List α) (n : Nat) : List α := (List.replicate n s).flatten
theorem many_zero {α : Type} (s : List α) : many s 0 = [] := by simp [many]
theorem many_succ {α : Type} (s : List α) (n : Nat) : many s (n + 1) = s ++ many s n := by simp [many, List.replicate_succ]
theorem many_double {α : Type} (s : List α) (n : Nat) : many s (2 * n) = many (s ++ s) n := by
  induction n with
  | zero => simp [many]
  | succ n ih => rw [show 2 * (n + 1) = 2 * n + 1 + 1 by omega, many_succ, many_succ, ih, many_succ, List.append_assoc]
theorem many_odd {α : Type} (s : List α) (n : Nat) (h : n % 2 = 1) : many s n = s ++ many (s ++ s) (n / 2) := by
  conv => lhs; rw [show n = 2 * (n / 2) + 1 by omega]
  rw [many_succ, many_double]
theorem many_even {α : Type} (s : List α) (n : Nat) (h : n % 2 = 0) : many s n = many (s ++ s) (n / 2) := by
  conv => lhs; rw [show n = 2 * (n / 2) by omega]
  rw [many_double]
theorem many_length {α : Type} (s : List α) (n : Nat) : (many s n).length = n * s.length := by
  simp [many]

/-- one digit with three letters -/
def dig {α : Type} (o f t : α) : Nat → List α
  | 0 => [] | 1 => [o] | 2 => [o, o] | 3 => [o, o, o] | 4 => [o, f] | 5 => [f] | 6 => [f, o] | 7 => [f, o, o] | 8 => [f, o, o, o] | _ => [o, t]
/-- the strict text -/
def strict (n : Nat) : List UInt8 := many [77] (n / 1000) ++ dig 67 68 77 (n / 100 % 10) ++ dig 88 76 67 (n / 10 % 10) ++ dig 73 86 88 (n % 10)
/-- the greatest pieces first -/
def take {α : Type} : List (List α × Nat) → Nat → List α
  | [], _ => []
  | (b, v) :: ps, n => many b (n / v) ++ take ps (n % v)
def strictP : List (List UInt8 × Nat) := [([77], 1000), ([67, 77], 900), ([68], 500), ([67, 68], 400), ([67], 100), ([88, 67], 90), ([76], 50), ([88, 76], 40), ([88], 10), ([73, 88], 9), ([86], 5), ([73, 86], 4), ([73], 1)]
def addedP : List (List UInt8 × Nat) := [([77], 1000), ([68], 500), ([67], 100), ([76], 50), ([88], 10), ([86], 5), ([73], 1)]
def piled (n : Nat) : List UInt8 := take addedP n

theorem map_many {α β : Type} (f : α → β) (s : List α) (n : Nat) : (many s n).map f = many (s.map f) n := by simp [many]
theorem map_dig {α β : Type} (f : α → β) (a b c : α) (d : Nat) : (dig a b c d).map f = dig (f a) (f b) (f c) d := by
  unfold dig; split <;> rfl
theorem map_take {α β : Type} (f : α → β) : ∀ (ps : List (List α × Nat)) (n : Nat), (take ps n).map f = take (ps.map fun p => (p.1.map f, p.2)) n
  | [], n => rfl
  | p :: ps, n => by
    have ih := map_take f ps (n % p.2)
    simp only [take, List.map_append, map_many, List.map_cons, ih]
def strictN (n : Nat) : List Nat := dig 67 68 77 (n / 100) ++ dig 88 76 67 (n / 10 % 10) ++ dig 73 86 88 (n % 10)
def strictNP : List (List Nat × Nat) := [([67, 77], 900), ([68], 500), ([67, 68], 400), ([67], 100), ([88, 67], 90), ([76], 50), ([88, 76], 40), ([88], 10), ([73, 88], 9), ([86], 5), ([73, 86], 4), ([73], 1)]
theorem take_strict0 : ∀ a, a < 25 → ∀ b, b < 40 → take strictNP (40 * a + b) = strictN (40 * a + b) := by decide +kernel
theorem take_strict (n : Nat) (_h : n < 4000) : take strictP n = strict n := by
  have h1 := take_strict0 (n % 1000 / 40) (by omega) (n % 1000 % 40) (by omega)
  rw [Nat.div_add_mod] at h1
  have h2 := congrArg (List.map UInt8.ofNat) h1
  rw [map_take] at h2
  have e1 : strictP = ([77], 1000) :: strictNP.map (fun p => (p.1.map UInt8.ofNat, p.2)) := by decide
  have e2 : strict n = many [77] (n / 1000) ++ (strictN (n % 1000)).map UInt8.ofNat := by
    unfold strictN strict
    simp only [List.map_append, map_dig]
    rw [show n % 1000 / 100 = n / 100 % 10 by omega, show n % 1000 / 10 % 10 = n / 10 % 10 by omega, show n % 1000 % 10 = n % 10 by omega]
    simp
  rw [e1, e2, ← h2]
  rfl

/-- the least number up to n with the greatest f -/
def best (f : Nat → Nat) : Nat → Nat
  | 0 => 0
  | k + 1 => if k = 0 then 1 else if f (best f k) < f (k + 1) then k + 1 else best f k
theorem best_one (f : Nat → Nat) : best f 1 = 1 := rfl
theorem best_pos (f : Nat → Nat) (n : Nat) (h : 1 ≤ n) : 1 ≤ best f n ∧ best f n ≤ n := by
  induction n with
  | zero => omega
  | succ k ih =>
    unfold best
    split
    · omega
    · have := ih (by omega)
      split <;> omega
theorem best_step (f : Nat → Nat) (k : Nat) (h : 1 ≤ k) : best f (k + 1) = if f (best f k) < f (k + 1) then k + 1 else best f k := by
  conv => lhs; unfold best
  rw [if_neg (by omega)]
theorem best_max (f : Nat → Nat) (n : Nat) (h : 1 ≤ n) : ∀ k, 1 ≤ k → k ≤ n → f k ≤ f (best f n) ∧ (k < best f n → f k < f (best f n)) := by
  induction n with
  | zero => omega
  | succ m ih =>
    intro k hk hkm
    by_cases hm : m = 0
    · subst hm
      obtain rfl : k = 1 := by omega
      exact ⟨Nat.le_refl _, fun h => by simp [best] at h⟩
    · have hb := best_pos f m (by omega)
      rw [best_step f m (by omega)]
      have ih := ih (by omega)
      by_cases hkm' : k ≤ m
      · have := ih k hk hkm'
        split
        · exact ⟨by omega, fun _ => by omega⟩
        · exact this
      · obtain rfl : k = m + 1 := by omega
        split
        · exact ⟨Nat.le_refl _, fun h => by omega⟩
        · exact ⟨by omega, fun h => by omega⟩
/-- how many letters a strict text has -/
def strictLen (n : Nat) : Nat := (strict n).length
theorem longest_step (j : Nat) (h : 1 ≤ j) : best strictLen j = if strictLen (best strictLen (j - 1)) < strictLen j then j else best strictLen (j - 1) := by
  obtain ⟨k, rfl⟩ : ∃ k, j = k + 1 := ⟨j - 1, by omega⟩
  rw [Nat.add_sub_cancel]
  by_cases hk : k = 0
  · subst hk; decide
  · exact best_step strictLen k (by omega)
theorem strict_len (n : Nat) (h : n ≤ 3999) : (strict n).length ≤ 15 := by
  have hd (a b c : UInt8) (d : Nat) : (dig a b c d).length ≤ 4 := by unfold dig; split <;> simp
  have := hd 67 68 77 (n / 100 % 10)
  have := hd 88 76 67 (n / 10 % 10)
  have := hd 73 86 88 (n % 10)
  unfold strict
  simp only [List.length_append, many_length, List.length_cons, List.length_nil]
  omega
end Go.Proofs.YthbdnmnhoifnoaaGreatDoor

/- Letters as numbers, plain: values of letters, letters of numbers, sums of words. No program. -/
namespace Go.Proofs.YthbdnmnhoifnoaaGreatDoor
set_option linter.unusedVariables false
set_option maxRecDepth 100000
/-- the value of a byte, 0 if it is no letter -/
def av (c : Int) : Int := if 97 ≤ c ∧ c ≤ 105 then c - 96 else if 106 ≤ c ∧ c ≤ 114 then 10 * (c - 105) else if 115 ≤ c ∧ c ≤ 122 then 100 * (c - 114) else if c = 42 then 900 else 0
theorem av_bd (c : Int) : 0 ≤ av c ∧ av c ≤ 900 := by unfold av; split <;> (try split) <;> (try split) <;> (try split) <;> omega
/-- the letter at a place: 0 to 8 ones, 9 to 17 tens, 18 to 26 hundreds -/
def lt (i : Nat) : UInt8 := if i < 26 then UInt8.ofNat (97 + i) else 42
/-- the value of the letter at a place -/
def vl (i : Nat) : Int := (i % 9 + 1 : Nat) * (10 : Int) ^ (i / 9)
theorem av_lt : ∀ i, i < 27 → av ((lt i).toNat : Int) = vl i := by decide
theorem vl_bd : ∀ i, i < 27 → 1 ≤ vl i ∧ vl i ≤ 900 := by decide
theorem lt_ne : ∀ i, i < 27 → lt i ≠ 39 := by decide
/-- the letter of a digit of a rank -/
def dl (d p : Nat) : List UInt8 := if d = 0 then [] else [lt (9 * p + d - 1)]
/-- the letters of a number -/
def aof (n : Nat) : List UInt8 := (if n / 1000 = 0 then [] else 39 :: dl (n / 1000) 0) ++ (dl (n / 100 % 10) 2 ++ (dl (n / 10 % 10) 1 ++ dl (n % 10) 0))
def asum : List UInt8 → Int
  | [] => 0
  | c :: r => av (c.toNat : Int) + asum r
theorem asum_append (a b : List UInt8) : asum (a ++ b) = asum a + asum b := by
  induction a with
  | nil => simp [asum]
  | cons c r ih => simp only [List.cons_append, asum, ih]; omega
theorem asum_bd (l : List UInt8) : 0 ≤ asum l ∧ asum l ≤ 900 * l.length := by
  induction l with
  | nil => simp [asum]
  | cons c r ih =>
    have := av_bd (c.toNat : Int)
    simp only [asum, List.length_cons]
    omega
/-- all are letters -/
def okA (l : List UInt8) : Bool := l.all fun c => decide (0 < av (c.toNat : Int))
theorem okA_cons (c : UInt8) (r : List UInt8) : okA (c :: r) = (decide (0 < av (c.toNat : Int)) && okA r) := rfl
theorem okA_append (a b : List UInt8) : okA (a ++ b) = (okA a && okA b) := by simp [okA]
/-- what a leading sign of thousands adds to the sum -/
def th : List UInt8 → Int
  | c :: d :: _ => if c = 39 then 999 * av (d.toNat : Int) else 0
  | _ => 0
theorem th_two (c d : UInt8) (r : List UInt8) : th (c :: d :: r) = if c = 39 then 999 * av (d.toNat : Int) else 0 := rfl
theorem th_bd (l : List UInt8) : 0 ≤ th l ∧ th l ≤ 899100 := by
  match l with
  | [] => simp [th]
  | [c] => simp [th]
  | c :: d :: r => have := av_bd (d.toNat : Int); rw [th_two]; split <;> omega
/-- the number that letters tell, if they are those of a number -/
def rdA (l : List UInt8) : Int := th l + asum l
theorem dl_sum (d p : Nat) (hd : d ≤ 9) (hp : p ≤ 2) : asum (dl d p) = d * (10 : Int) ^ p := by
  unfold dl
  split
  · simp [asum, *]
  · simp only [asum, Int.add_zero]
    rw [av_lt _ (by omega)]
    unfold vl
    have h1 : (9 * p + d - 1) % 9 + 1 = d := by omega
    have h2 : (9 * p + d - 1) / 9 = p := by omega
    rw [h1, h2]
theorem dl_ok (d p : Nat) (hd : d ≤ 9) (hp : p ≤ 2) : okA (dl d p) = true := by
  unfold dl
  split
  · rfl
  · rw [okA_cons, av_lt _ (by omega)]
    have := vl_bd (9 * p + d - 1) (by omega)
    simp [okA]; omega
theorem dl_len (d p : Nat) : (dl d p).length ≤ 1 := by unfold dl; split <;> simp
theorem dl_len_eq (d p : Nat) : (dl d p).length = if d = 0 then 0 else 1 := by unfold dl; split <;> simp
theorem th_ok (l : List UInt8) (h : okA l = true) : th l = 0 := by
  match l with
  | [] => rfl
  | [c] => rfl
  | c :: d :: r =>
    rw [th_two]
    split
    · rename_i hc
      subst hc
      rw [okA_cons] at h
      revert h
      simp [av]
    · rfl
/-- the letters without thousands -/
def low (n : Nat) : List UInt8 := dl (n / 100 % 10) 2 ++ (dl (n / 10 % 10) 1 ++ dl (n % 10) 0)
theorem low_ok (n : Nat) : okA (low n) = true := by
  unfold low
  rw [okA_append, okA_append, dl_ok _ _ (by omega) (by omega), dl_ok _ _ (by omega) (by omega), dl_ok _ _ (by omega) (by omega)]
  rfl
theorem low_sum (n : Nat) : asum (low n) = (n % 1000 : Nat) := by
  unfold low
  rw [asum_append, asum_append, dl_sum _ _ (by omega) (by omega), dl_sum _ _ (by omega) (by omega), dl_sum _ _ (by omega) (by omega)]
  simp only [Int.reducePow]
  omega
theorem low_len (n : Nat) : (low n).length ≤ 3 := by
  unfold low
  have h1 := dl_len (n / 100 % 10) 2
  have h2 := dl_len (n / 10 % 10) 1
  have h3 := dl_len (n % 10) 0
  simp only [List.length_append]
  omega
theorem aof_low (n : Nat) (h : n < 1000) : aof n = low n := by
  unfold aof low
  rw [if_pos (by omega)]
  rfl
theorem aof_high (n : Nat) (h : 1000 ≤ n) : aof n = 39 :: lt (n / 1000 - 1) :: low n := by
  unfold aof low dl
  rw [if_neg (by omega), if_neg (by omega), show 9 * 0 + n / 1000 - 1 = n / 1000 - 1 by omega]
  rfl
theorem aof_len (n : Nat) : (aof n).length ≤ 5 := by
  have := low_len n
  by_cases h : n < 1000
  · rw [aof_low n h]; omega
  · rw [aof_high n (by omega)]; simp; omega
theorem rdA_aof (n : Nat) (h : n ≤ 9999) : rdA (aof n) = n := by
  unfold rdA
  by_cases h' : n < 1000
  · rw [aof_low n h', th_ok _ (low_ok n), low_sum]; omega
  · rw [aof_high n (by omega)]
    have ha := av_lt (n / 1000 - 1) (by omega)
    have hv : vl (n / 1000 - 1) = (n / 1000 : Nat) := by
      unfold vl
      rw [show (n / 1000 - 1) % 9 + 1 = n / 1000 by omega, show (n / 1000 - 1) / 9 = 0 by omega]
      simp
    rw [hv] at ha
    simp only [th, asum, ha, low_sum, if_true]
    have : av ((39 : UInt8).toNat : Int) = 0 := by decide
    rw [this]
    omega
/-- what letters of numbers look like -/
theorem aof_shape (n : Nat) (h : n ≤ 9999) : okA (aof n) = true ∨ ∃ c r, aof n = 39 :: c :: r ∧ okA (c :: r) = true := by
  by_cases h' : n < 1000
  · rw [aof_low n h']; exact .inl (low_ok n)
  · rw [aof_high n (by omega)]
    refine .inr ⟨_, _, rfl, ?_⟩
    rw [okA_cons, low_ok, av_lt _ (by omega)]
    have := vl_bd (n / 1000 - 1) (by omega)
    simp; omega
/-- are they the letters of a number? -/
def isA (l : List UInt8) : Bool := decide (1 ≤ rdA l ∧ rdA l ≤ 9999 ∧ aof (rdA l).toNat = l)
theorem isA_aof (n : Nat) (h0 : 1 ≤ n) (h : n ≤ 9999) : isA (aof n) = true := by
  unfold isA
  rw [rdA_aof n h]
  simp; omega
theorem isA_len (l : List UInt8) (h : isA l = true) : l.length ≤ 5 := by
  unfold isA at h
  have h' := of_decide_eq_true h
  rw [← h'.2.2]
  exact aof_len _
theorem isA_eq (n : Nat) (l : List UInt8) (h0 : 1 ≤ n) (h : n ≤ 9999) (e : aof n = l) : rdA l = n ∧ isA l = true := by
  subst e; exact ⟨rdA_aof n h, isA_aof n h0 h⟩
theorem isA_shape (l : List UInt8) (h : isA l = true) : okA l = true ∨ ∃ c r, l = 39 :: c :: r ∧ okA (c :: r) = true := by
  unfold isA at h
  have h' := of_decide_eq_true h
  have := aof_shape (rdA l).toNat (by omega)
  rwa [h'.2.2] at this
theorem isA_of (l : List UInt8) (h : isA l = true) : 1 ≤ rdA l ∧ rdA l ≤ 9999 ∧ aof (rdA l).toNat = l := of_decide_eq_true h
/-- the number of letters of a number under 1000 -/
theorem aof_len_low (n : Nat) (h : n < 1000) : (aof n).length = (if n / 100 % 10 = 0 then 0 else 1) + ((if n / 10 % 10 = 0 then 0 else 1) + (if n % 10 = 0 then 0 else 1)) := by
  rw [aof_low n h]
  unfold low
  simp only [List.length_append, dl_len_eq]
/-- a text of letters has a sum of at least its length -/
theorem asum_pos (l : List UInt8) (h : okA l = true) : (l.length : Int) ≤ asum l := by
  induction l with
  | nil => simp [asum]
  | cons c r ih =>
    rw [okA_cons, Bool.and_eq_true] at h
    have h1 := of_decide_eq_true h.1
    have h2 := ih h.2
    simp only [asum, List.length_cons]
    omega
theorem asum_take_succ (l : List UInt8) (k : Nat) (h : k < l.length) : asum (l.take (k + 1)) = asum (l.take k) + av (l[k].toNat : Int) := by
  rw [List.take_succ_eq_append_getElem h, asum_append]
  simp [asum]
theorem okA_take_succ (l : List UInt8) (k : Nat) (h : k < l.length) : okA (l.take (k + 1)) = (okA (l.take k) && decide (0 < av (l[k].toNat : Int))) := by
  rw [List.take_succ_eq_append_getElem h, okA_append]
  simp [okA]
theorem okA_take (l : List UInt8) (k : Nat) (h : okA l = true) : okA (l.take k) = true := by
  unfold okA at *
  rw [List.all_eq_true] at *
  exact fun x hx => h x (List.mem_of_mem_take hx)
theorem okA_getElem (l : List UInt8) (k : Nat) (hk : k < l.length) (h : okA l = true) : 0 < av (l[k].toNat : Int) := by
  unfold okA at h
  rw [List.all_eq_true] at h
  exact of_decide_eq_true (h _ (List.getElem_mem hk))
end Go.Proofs.YthbdnmnhoifnoaaGreatDoor

/- Chapter 4, plain: clay texts, their numbers, readings; days; places. -/
namespace Go.Proofs.YthbdnmnhoifnoaaGreatDoor
set_option linter.unusedVariables false
set_option maxRecDepth 100000
/-- a digit's text -/
def cdig (d : Nat) : List UInt8 := if d = 0 then [46] else many [60] (d / 10) ++ many [89] (d % 10)
/-- the clay text -/
def clay (n : Nat) : List UInt8 := if _h : n < 60 then cdig n else clay (n / 60) ++ 32 :: cdig (n % 60)
termination_by n
decreasing_by omega
theorem clay_low (n : Nat) (h : n < 60) : clay n = cdig n := by rw [clay, dif_pos h]
theorem clay_high (n : Nat) (h : ¬ n < 60) : clay n = clay (n / 60) ++ 32 :: cdig (n % 60) := by rw [clay, dif_neg h]
/-- what a sign does to a number -/
def cst (n : Nat) (c : UInt8) : Nat := if c = 60 then n + 10 else if c = 89 then n + 1 else if c = 32 then n * 60 else n
def cval (l : List UInt8) : Nat := l.foldl cst 0
theorem cst_le (n : Nat) (c : UInt8) : n ≤ cst n c := by unfold cst; split <;> (try split) <;> (try split) <;> omega
theorem fold_le (l : List UInt8) : ∀ n, n ≤ l.foldl cst n := by
  induction l with
  | nil => exact fun n => Nat.le_refl n
  | cons c r ih => exact fun n => Nat.le_trans (cst_le n c) (ih (cst n c))
theorem cval_prefix (l : List UInt8) (k : Nat) : cval (l.take k) ≤ cval l := by
  have := fold_le (l.drop k) (cval (l.take k))
  unfold cval at *
  rwa [← List.foldl_append, List.take_append_drop] at this
theorem cval_snoc (l : List UInt8) (k : Nat) (h : k < l.length) : cval (l.take (k + 1)) = cst (cval (l.take k)) l[k] := by
  unfold cval
  rw [List.take_succ_eq_append_getElem h, List.foldl_append]; rfl
theorem fold_tens (k : Nat) : ∀ n, (many [60] k : List UInt8).foldl cst n = n + 10 * k := by
  induction k with
  | zero => intro n; rfl
  | succ k ih => intro n; rw [many_succ, List.foldl_append, ih]; show n + 10 + 10 * k = _; omega
theorem fold_ones (k : Nat) : ∀ n, (many [89] k : List UInt8).foldl cst n = n + k := by
  induction k with
  | zero => intro n; rfl
  | succ k ih => intro n; rw [many_succ, List.foldl_append, ih]; show n + 1 + k = _; omega
theorem fold_cdig (d n : Nat) : (cdig d).foldl cst n = n + d := by
  unfold cdig
  split
  · rename_i h; subst h; rfl
  · rw [List.foldl_append, fold_tens, fold_ones]; omega
theorem clay_val (n : Nat) : cval (clay n) = n := by
  induction n using Nat.strongRecOn with
  | ind n ih =>
    by_cases h : n < 60
    · rw [clay_low n h]; unfold cval; rw [fold_cdig]; omega
    · rw [clay_high n h]
      have e := ih (n / 60) (by omega)
      unfold cval at *
      rw [List.foldl_append, e, List.foldl_cons, fold_cdig]
      show n / 60 * 60 + n % 60 = n
      omega
theorem cdig_len (d : Nat) (h : d < 60) : 1 ≤ (cdig d).length ∧ (cdig d).length ≤ 14 := by
  unfold cdig
  split
  · exact ⟨by decide, by decide⟩
  · rw [List.length_append, many_length, many_length]
    simp only [List.length_cons, List.length_nil]
    omega
theorem clay_len (k : Nat) : ∀ n, n < 60 ^ (k + 1) → 1 ≤ (clay n).length ∧ (clay n).length ≤ 14 + 15 * k := by
  induction k with
  | zero =>
    intro n h
    rw [clay_low n (by omega)]
    exact cdig_len n (by omega)
  | succ k ih =>
    intro n h
    by_cases hn : n < 60
    · rw [clay_low n hn]
      have := cdig_len n hn
      omega
    · rw [clay_high n hn]
      have h1 := ih (n / 60) (by rw [Nat.pow_succ] at h; omega)
      have h2 := cdig_len (n % 60) (by omega)
      simp only [List.length_append, List.length_cons]
      omega
theorem clay_short (n : Nat) (h : n < 12960000) : 1 ≤ (clay n).length ∧ (clay n).length ≤ 59 := clay_len 3 n (by omega)
/-- is it a clay text? -/
def isC (l : List UInt8) : Bool := decide (cval l ≤ 12959999) && decide (clay (cval l) = l)
theorem isC_of (l : List UInt8) (h : isC l = true) : cval l ≤ 12959999 ∧ clay (cval l) = l := by
  unfold isC at h; rw [Bool.and_eq_true, decide_eq_true_eq, decide_eq_true_eq] at h; exact h
theorem isC_clay (n : Nat) (h : n ≤ 12959999) : isC (clay n) = true := by
  unfold isC; rw [clay_val]; simp; exact h
/-- days: their digits -/
theorem days_back (n : Int) (h0 : 0 ≤ n) (h1 : n ≤ 2879999) : 144000 * (n / 144000) + 7200 * (n / 7200 % 20) + 360 * (n / 360 % 20) + 20 * (n / 20 % 18) + n % 20 = n := by omega
theorem days_of (a b c d e : Int) (ha : 0 ≤ a ∧ a ≤ 19) (hb : 0 ≤ b ∧ b ≤ 19) (hc : 0 ≤ c ∧ c ≤ 19) (hd : 0 ≤ d ∧ d ≤ 17) (he : 0 ≤ e ∧ e ≤ 19) :
    let n := 144000 * a + 7200 * b + 360 * c + 20 * d + e
    0 ≤ n ∧ n ≤ 2879999 ∧ n / 144000 = a ∧ n / 7200 % 20 = b ∧ n / 360 % 20 = c ∧ n / 20 % 18 = d ∧ n % 20 = e := by
  intro n
  refine ⟨by omega, by omega, by omega, by omega, by omega, by omega, by omega⟩
/-- places: the product of the first k -/
def prd (p : Nat → Int) : Nat → Int
  | 0 => 1
  | k + 1 => prd p k * p k
/-- the number of the first k digits -/
def dnum (p d : Nat → Int) : Nat → Int
  | 0 => 0
  | k + 1 => dnum p d k * p k + d k
/-- what is left of N when j digits are taken from the end of n places -/
def lft (p : Nat → Int) (n : Nat) (N : Int) : Nat → Int
  | 0 => N
  | j + 1 => lft p n N j / p (n - 1 - j)
/-- the digit at place k -/
def pdg (p : Nat → Int) (n : Nat) (N : Int) (k : Nat) : Int := lft p n N (n - 1 - k) % p k
theorem prd_pos (p : Nat → Int) (n : Nat) (h : ∀ k, k < n → 2 ≤ p k) : ∀ k, k ≤ n → 1 ≤ prd p k := by
  intro k
  induction k with
  | zero => intro _; exact Int.le_refl 1
  | succ k ih =>
    intro hk
    have h1 := ih (by omega); have h2 := h k (by omega)
    simp only [prd]
    have := Int.mul_le_mul h1 (show (1 : Int) ≤ p k by omega) (by omega) (by omega)
    omega
theorem prd_bound (p : Nat → Int) (n : Nat) (h : ∀ k, k < n → 2 ≤ p k ∧ p k ≤ 100) : ∀ k, k ≤ n → prd p k ≤ 100 ^ k := by
  intro k
  induction k with
  | zero => intro _; exact Int.le_refl 1
  | succ k ih =>
    intro hk
    have h0 := prd_pos p n (fun k hk => (h k hk).1) k (by omega)
    have h1 := ih (by omega); have h2 := h k (by omega)
    simp only [prd]
    have := Int.mul_le_mul h1 h2.2 (by omega) (by omega)
    rw [Int.pow_succ]
    exact this
theorem lft_lt (p : Nat → Int) (n : Nat) (N : Int) (h : ∀ k, k < n → 2 ≤ p k) (h0 : 0 ≤ N) (h1 : N < prd p n) : ∀ j, j ≤ n → 0 ≤ lft p n N j ∧ lft p n N j < prd p (n - j) := by
  intro j
  induction j with
  | zero => intro _; exact ⟨h0, h1⟩
  | succ j ih =>
    intro hj
    obtain ⟨a, b⟩ := ih (by omega)
    have hp := h (n - 1 - j) (by omega)
    simp only [lft]
    refine ⟨Int.ediv_nonneg a (by omega), ?_⟩
    rw [show n - j = (n - (j + 1)) + 1 by omega] at b
    simp only [prd] at b
    rw [show n - (j + 1) = n - 1 - j by omega] at b ⊢
    exact Int.ediv_lt_of_lt_mul (by omega) b
theorem lft_zero (p : Nat → Int) (n : Nat) (N : Int) (h : ∀ k, k < n → 2 ≤ p k) (h0 : 0 ≤ N) (h1 : N < prd p n) : lft p n N n = 0 := by
  obtain ⟨a, b⟩ := lft_lt p n N h h0 h1 n (Nat.le_refl n)
  rw [Nat.sub_self] at b
  simp only [prd] at b
  omega
theorem pdg_bd (p : Nat → Int) (n : Nat) (N : Int) (k : Nat) (h : 2 ≤ p k) : 0 ≤ pdg p n N k ∧ pdg p n N k < p k :=
  ⟨Int.emod_nonneg _ (by omega), Int.emod_lt_of_pos _ (by omega)⟩
/-- digits lead back -/
theorem pdg_num (p : Nat → Int) (n : Nat) (N : Int) (h : ∀ k, k < n → 2 ≤ p k) (h0 : 0 ≤ N) (h1 : N < prd p n) : ∀ k, k ≤ n → dnum p (pdg p n N) k = lft p n N (n - k) := by
  intro k
  induction k with
  | zero => intro _; rw [Nat.sub_zero, lft_zero p n N h h0 h1]; rfl
  | succ k ih =>
    intro hk
    have e := ih (by omega)
    simp only [dnum, pdg]
    rw [e, show n - k = (n - 1 - k) + 1 by omega, show n - (k + 1) = n - 1 - k by omega]
    simp only [lft]
    rw [show n - 1 - (n - 1 - k) = k by omega]
    have := Int.mul_ediv_add_emod (lft p n N (n - 1 - k)) (p k)
    rw [Int.mul_comm] at this
    exact this
theorem dnum_congr (p d e : Nat → Int) : ∀ n, (∀ k, k < n → d k = e k) → dnum p d n = dnum p e n
  | 0, _ => rfl
  | n + 1, h => by simp only [dnum]; rw [dnum_congr p d e n (fun k hk => h k (by omega)), h n (by omega)]
theorem dnum_lt (p d : Nat → Int) (n : Nat) (h : ∀ k, k < n → 2 ≤ p k) (hd : ∀ k, k < n → 0 ≤ d k ∧ d k < p k) : ∀ k, k ≤ n → 0 ≤ dnum p d k ∧ dnum p d k < prd p k := by
  intro k
  induction k with
  | zero => intro _; exact ⟨Int.le_refl 0, by simp [dnum, prd]⟩
  | succ k ih =>
    intro hk
    obtain ⟨a, b⟩ := ih (by omega)
    have hp := h k (by omega); have hdk := hd k (by omega)
    simp only [dnum, prd]
    have m1 := Int.mul_nonneg a (show 0 ≤ p k by omega)
    have m2 := Int.mul_le_mul_of_nonneg_right (show dnum p d k + 1 ≤ prd p k by omega) (show 0 ≤ p k by omega)
    rw [Int.add_mul] at m2
    omega
/-- numbers lead back to digits -/
theorem num_lft (p d : Nat → Int) (n : Nat) (h : ∀ k, k < n → 2 ≤ p k) (hd : ∀ k, k < n → 0 ≤ d k ∧ d k < p k) : ∀ j, j ≤ n → lft p n (dnum p d n) j = dnum p d (n - j) := by
  intro j
  induction j with
  | zero => intro _; rfl
  | succ j ih =>
    intro hj
    simp only [lft]
    rw [ih (by omega), show n - j = (n - 1 - j) + 1 by omega, show n - (j + 1) = n - 1 - j by omega]
    simp only [dnum]
    have hp := h (n - 1 - j) (by omega); have hdk := hd (n - 1 - j) (by omega)
    rw [Int.add_comm, Int.add_mul_ediv_right _ _ (by omega), Int.ediv_eq_zero_of_lt hdk.1 hdk.2]
    omega
theorem num_pdg (p d : Nat → Int) (n : Nat) (h : ∀ k, k < n → 2 ≤ p k) (hd : ∀ k, k < n → 0 ≤ d k ∧ d k < p k) (k : Nat) (hk : k < n) : pdg p n (dnum p d n) k = d k := by
  unfold pdg
  rw [num_lft p d n h hd (n - 1 - k) (by omega), show n - (n - 1 - k) = k + 1 by omega]
  simp only [dnum]
  have hdk := hd k hk
  rw [Int.add_comm, Int.add_mul_emod_self_right]
  exact Int.emod_eq_of_lt hdk.1 hdk.2
end Go.Proofs.YthbdnmnhoifnoaaGreatDoor

/- Ranks, plain: ranked texts, how they are read, noughts. No program. -/
namespace Go.Proofs.YthbdnmnhoifnoaaGreatDoor
set_option linter.unusedVariables false
set_option maxRecDepth 100000
/-- the sign of a digit -/
def dch (d : Nat) : UInt8 := UInt8.ofNat (48 + d)
theorem dch_fact : ∀ d : Fin 10, dch d.val ≠ 113 ∧ dch d.val ≠ 98 ∧ dch d.val ≠ 115 ∧ dch d.val ≠ 119 ∧ dch d.val ≠ 111 ∧ (dch d.val - 48).toNat = d.val ∧ (dch d.val).toNat = 48 + d.val := by decide
/-- a digit of four -/
def dgt (n i : Nat) : Nat := if i = 0 then n / 1000 % 10 else if i = 1 then n / 100 % 10 else if i = 2 then n / 10 % 10 else n % 10
theorem dgt_lt (n i : Nat) : dgt n i < 10 := by unfold dgt; split <;> (try split) <;> (try split) <;> omega
def rsg (i : Nat) : List UInt8 := if i = 0 then [113] else if i = 1 then [98] else if i = 2 then [115] else []
/-- text and gap behind i digits -/
def rkS (n : Nat) : Nat → List UInt8 × Bool
  | 0 => ([], false)
  | i + 1 => if dgt n i = 0 then ((rkS n i).1, (rkS n i).1 != []) else ((rkS n i).1 ++ (if (rkS n i).2 = true then [111] else []) ++ [dch (dgt n i)] ++ rsg i, false)
def rk4 (n : Nat) : List UInt8 := (rkS n 4).1
/-- the ranked text -/
def rkO (n : Nat) : List UInt8 := if n = 0 then [111] else if n < 10000 then rk4 n else rk4 (n / 10000) ++ [119] ++ (if 0 < n % 10000 ∧ n % 10000 < 1000 then [111] else []) ++ rk4 (n % 10000)
/-- how a byte is read: high, low, digit -/
def rdS (st : Nat × Nat × Nat) (c : UInt8) : Nat × Nat × Nat :=
  if c = 113 then (st.1, st.2.1 + 1000 * st.2.2, 0) else if c = 98 then (st.1, st.2.1 + 100 * st.2.2, 0) else if c = 115 then (st.1, st.2.1 + 10 * st.2.2, 0)
  else if c = 119 then (st.1 + 10000 * (st.2.1 + st.2.2), 0, 0) else if c = 111 then (st.1, st.2.1, 0) else (st.1, st.2.1, (c - 48).toNat)
def rdF (l : List UInt8) : Nat × Nat × Nat := l.foldl rdS (0, 0, 0)
def rkN (l : List UInt8) : Nat := (rdF l).1 + (rdF l).2.1 + (rdF l).2.2
theorem rdS_dch (st : Nat × Nat × Nat) (d : Nat) (h : d < 10) : rdS st (dch d) = (st.1, st.2.1, d) := by
  obtain ⟨h1, h2, h3, h4, h5, h6, _⟩ := dch_fact ⟨d, h⟩
  unfold rdS
  rw [if_neg h1, if_neg h2, if_neg h3, if_neg h4, if_neg h5, h6]
theorem rk4_cases (n : Nat) : rk4 n =
    (if n / 1000 % 10 = 0 then [] else [dch (n / 1000 % 10), 113]) ++
    (if n / 100 % 10 = 0 then [] else [dch (n / 100 % 10), 98]) ++
    (if n / 10 % 10 = 0 then [] else (if n / 1000 % 10 ≠ 0 ∧ n / 100 % 10 = 0 then [111] else []) ++ [dch (n / 10 % 10), 115]) ++
    (if n % 10 = 0 then [] else (if (n / 1000 % 10 ≠ 0 ∨ n / 100 % 10 ≠ 0) ∧ n / 10 % 10 = 0 then [111] else []) ++ [dch (n % 10)]) := by
  unfold rk4 rkS rkS rkS rkS rkS
  simp only [dgt, rsg]
  by_cases a : n / 1000 % 10 = 0 <;> by_cases b : n / 100 % 10 = 0 <;> by_cases c : n / 10 % 10 = 0 <;> by_cases d : n % 10 = 0 <;> simp [a, b, c, d]
theorem rd4 (n h : Nat) (hn : n < 10000) : (rk4 n).foldl rdS (h, 0, 0) = (h, n / 10 * 10, n % 10) := by
  have q : ∀ st : Nat × Nat × Nat, rdS st 113 = (st.1, st.2.1 + 1000 * st.2.2, 0) := fun _ => rfl
  have b : ∀ st : Nat × Nat × Nat, rdS st 98 = (st.1, st.2.1 + 100 * st.2.2, 0) := fun _ => rfl
  have s : ∀ st : Nat × Nat × Nat, rdS st 115 = (st.1, st.2.1 + 10 * st.2.2, 0) := fun _ => rfl
  have o : ∀ st : Nat × Nat × Nat, rdS st 111 = (st.1, st.2.1, 0) := fun _ => rfl
  have d1 := fun st => rdS_dch st (n / 1000 % 10) (by omega)
  have d2 := fun st => rdS_dch st (n / 100 % 10) (by omega)
  have d3 := fun st => rdS_dch st (n / 10 % 10) (by omega)
  have d4 := fun st => rdS_dch st (n % 10) (by omega)
  rw [rk4_cases]
  by_cases e1 : n / 1000 % 10 = 0 <;> by_cases e2 : n / 100 % 10 = 0 <;> by_cases e3 : n / 10 % 10 = 0 <;> by_cases e4 : n % 10 = 0 <;> simp [e1, e2, e3, e4, q, b, s, o, d1, d2, d3, d4] <;> omega
theorem rd_back (n : Nat) (hn : n ≤ 99999999) : rkN (rkO n) = n := by
  have w : ∀ st : Nat × Nat × Nat, rdS st 119 = (st.1 + 10000 * (st.2.1 + st.2.2), 0, 0) := fun _ => rfl
  have o : ∀ st : Nat × Nat × Nat, rdS st 111 = (st.1, st.2.1, 0) := fun _ => rfl
  unfold rkN rdF rkO
  split
  · rename_i h; subst h; rfl
  · split
    · rename_i h1 h2
      rw [rd4 n 0 h2]
      show 0 + n / 10 * 10 + n % 10 = n
      omega
    · rename_i h1 h2
      rw [List.foldl_append, List.foldl_append, List.foldl_append, rd4 (n / 10000) 0 (by omega)]
      split
      · simp only [List.foldl_cons, List.foldl_nil, w, o]
        rw [rd4 (n % 10000) _ (by omega)]
        show 0 + 10000 * (n / 10000 / 10 * 10 + n / 10000 % 10) + n % 10000 / 10 * 10 + n % 10000 % 10 = n
        omega
      · simp only [List.foldl_cons, List.foldl_nil, w]
        rw [rd4 (n % 10000) _ (by omega)]
        show 0 + 10000 * (n / 10000 / 10 * 10 + n / 10000 % 10) + n % 10000 / 10 * 10 + n % 10000 % 10 = n
        omega
theorem rk4_len (n : Nat) : (rk4 n).length ≤ 7 := by
  rw [rk4_cases]
  by_cases e1 : n / 1000 % 10 = 0 <;> by_cases e2 : n / 100 % 10 = 0 <;> by_cases e3 : n / 10 % 10 = 0 <;> by_cases e4 : n % 10 = 0 <;> simp [e1, e2, e3, e4]
theorem rk4_zero : rk4 0 = [] := by decide
theorem rkO_len (n : Nat) : 1 ≤ (rkO n).length ∧ (rkO n).length ≤ 16 := by
  unfold rkO
  split
  · simp
  · split
    · rename_i h1 h2
      refine ⟨?_, by have := rk4_len n; omega⟩
      have hne : rk4 n ≠ [] := fun e => by
        have := rd4 n 0 h2
        rw [e] at this
        simp at this
        omega
      exact List.length_pos_iff.2 hne
    · have a := rk4_len (n / 10000)
      have b := rk4_len (n % 10000)
      simp only [List.length_append, List.length_cons, List.length_nil]
      split <;> simp <;> omega
/-- how many noughts -/
def nts (l : List UInt8) : Nat := (l.filter (fun c => c == 111)).length
theorem nts_append (a b : List UInt8) : nts (a ++ b) = nts a + nts b := by unfold nts; rw [List.filter_append, List.length_append]
theorem nts_dch (d : Nat) (h : d < 10) : nts [dch d] = 0 := by
  obtain ⟨_, _, _, _, h5, _, _⟩ := dch_fact ⟨d, h⟩
  unfold nts
  rw [List.filter_cons_of_neg (by simpa using h5)]
  rfl
theorem nts_rk4 (n : Nat) : nts (rk4 n) ≤ 1 := by
  have cons : ∀ (c : UInt8) l, nts (c :: l) = nts [c] + nts l := fun c l => nts_append [c] l
  have d1 := nts_dch (n / 1000 % 10) (by omega)
  have d2 := nts_dch (n / 100 % 10) (by omega)
  have d3 := nts_dch (n / 10 % 10) (by omega)
  have d4 := nts_dch (n % 10) (by omega)
  have q : nts [113] = 0 := rfl
  have b : nts [98] = 0 := rfl
  have s : nts [115] = 0 := rfl
  have o : nts [111] = 1 := rfl
  have z : nts [] = 0 := rfl
  rw [rk4_cases]
  by_cases e1 : n / 1000 % 10 = 0 <;> by_cases e2 : n / 100 % 10 = 0 <;> by_cases e3 : n / 10 % 10 = 0 <;> by_cases e4 : n % 10 = 0 <;>
    simp only [e1, e2, e3, e4, if_true, if_false, nts_append, cons _ [_], not_true_eq_false, not_false_eq_true, ne_eq, and_true, and_false, or_true, or_false, or_self, d1, d2, d3, d4, q, b, s, o, z] <;> omega
theorem nts_most (n : Nat) : nts (rkO n) ≤ 3 ∧ nts (rkO 0) = 1 := by
  refine ⟨?_, rfl⟩
  unfold rkO
  split
  · decide
  · split
    · have := nts_rk4 n; omega
    · have a := nts_rk4 (n / 10000)
      have b := nts_rk4 (n % 10000)
      have w : nts [119] = 0 := rfl
      rw [nts_append, nts_append, nts_append, w]
      split
      · have : nts [111] = 1 := rfl
        omega
      · have : nts [] = 0 := rfl
        omega
theorem nts_great (n : Nat) (h1 : 1000 ≤ n) (h2 : n ≤ 9999) : nts (rkO (n * 10000)) = nts (rkO n) := by
  have e1 : n * 10000 / 10000 = n := by omega
  have e2 : n * 10000 % 10000 = 0 := by omega
  have w : nts [119] = 0 := rfl
  have z : nts [] = 0 := rfl
  unfold rkO
  rw [if_neg (by omega), if_neg (by omega), e1, e2, if_neg (by omega), if_neg (by omega), if_pos (by omega), rk4_zero, nts_append, nts_append, nts_append, w, z]
  omega
/-- does a text tell a number? -/
def rrB (l : List UInt8) : Bool := decide (l.length ≤ 20) && decide (rkN l ≤ 99999999) && decide (rkO (rkN l) = l)
theorem rrB_spec (l : List UInt8) : rrB l = true ↔ l.length ≤ 20 ∧ rkN l ≤ 99999999 ∧ rkO (rkN l) = l := by
  unfold rrB
  rw [Bool.and_eq_true, Bool.and_eq_true, decide_eq_true_eq, decide_eq_true_eq, decide_eq_true_eq, and_assoc]
theorem rrB_rk (n : Nat) (h : n ≤ 99999999) : rrB (rkO n) = true := by
  have := rd_back n h
  exact (rrB_spec _).2 ⟨by have := (rkO_len n).2; omega, by rw [this]; exact h, by rw [this]⟩
/-- one byte more: no great numbers -/
theorem rdS_step (st : Nat × Nat × Nat) (c : UInt8) (B L : Nat) (h1 : st.1 ≤ B) (h2 : st.2.1 ≤ L) (h3 : st.2.2 ≤ 255) : (rdS st c).1 ≤ B + 10000 * (L + 255) ∧ (rdS st c).2.1 ≤ L + 255000 ∧ (rdS st c).2.2 ≤ 255 := by
  have hc : (c - 48).toNat < 256 := (c - 48).toNat_lt
  unfold rdS
  split
  · exact ⟨by show st.1 ≤ _; omega, by show st.2.1 + 1000 * st.2.2 ≤ _; omega, by show 0 ≤ _; omega⟩
  · split
    · exact ⟨by show st.1 ≤ _; omega, by show st.2.1 + 100 * st.2.2 ≤ _; omega, by show 0 ≤ _; omega⟩
    · split
      · exact ⟨by show st.1 ≤ _; omega, by show st.2.1 + 10 * st.2.2 ≤ _; omega, by show 0 ≤ _; omega⟩
      · split
        · exact ⟨by show st.1 + 10000 * (st.2.1 + st.2.2) ≤ _; omega, by show 0 ≤ _; omega, by show 0 ≤ _; omega⟩
        · split
          · exact ⟨by show st.1 ≤ _; omega, by show st.2.1 ≤ _; omega, by show 0 ≤ _; omega⟩
          · exact ⟨by show st.1 ≤ _; omega, by show st.2.1 ≤ _; omega, by show (c - 48).toNat ≤ _; omega⟩
/-- the states while a text is read are no great numbers -/
theorem rdS_bd (l : List UInt8) (hl : l.length ≤ 20) : ∀ k, k ≤ l.length → ∃ B L, ((l.take k).foldl rdS (0, 0, 0)).1 ≤ B ∧ ((l.take k).foldl rdS (0, 0, 0)).2.1 ≤ L ∧ ((l.take k).foldl rdS (0, 0, 0)).2.2 ≤ 255 ∧ L = k * 255000 ∧ (B : Int) ≤ k * 60000000000
  | 0, _ => ⟨0, 0, by simp, by simp, by simp, by simp, by simp⟩
  | k + 1, h => by
    obtain ⟨B, L, h1, h2, h3, h4, h5⟩ := rdS_bd l hl k (by omega)
    rw [List.take_succ_eq_append_getElem (by omega), List.foldl_append]
    generalize (l.take k).foldl rdS (0, 0, 0) = st at *
    obtain ⟨g1, g2, g3⟩ := rdS_step st l[k] B L h1 h2 h3
    have hk : k ≤ 19 := by omega
    exact ⟨B + 10000 * (L + 255), L + 255000, g1, g2, g3, by omega, by omega⟩
end Go.Proofs.YthbdnmnhoifnoaaGreatDoor

/- Changes, plain: decimals, numerals of all kinds. No program. -/
namespace Go.Proofs.YthbdnmnhoifnoaaGreatDoor
set_option linter.unusedVariables false
set_option maxRecDepth 100000
/-- a number in decimals -/
def dcm (n : Nat) : List UInt8 := if _h : n < 10 then [dch n] else dcm (n / 10) ++ [dch (n % 10)]
termination_by n
decreasing_by omega
theorem dcm_low (n : Nat) (h : n < 10) : dcm n = [dch n] := by rw [dcm, dif_pos h]
theorem dcm_high (n : Nat) (h : ¬ n < 10) : dcm n = dcm (n / 10) ++ [dch (n % 10)] := by rw [dcm, dif_neg h]
def dgC (c : UInt8) : Bool := decide (48 ≤ c.toNat) && decide (c.toNat ≤ 57)
def dcs (n : Nat) (c : UInt8) : Nat := 10 * n + (c.toNat - 48)
def dcN (l : List UInt8) : Nat := l.foldl dcs 0
theorem dch_dg (d : Nat) (h : d < 10) : dgC (dch d) = true ∧ (dch d).toNat - 48 = d := by
  have := (dch_fact ⟨d, h⟩).2.2.2.2.2.2
  simp only at this
  unfold dgC
  rw [this]
  exact ⟨by simp; omega, by omega⟩
theorem dcm_back (n : Nat) : dcN (dcm n) = n ∧ (dcm n).all dgC = true := by
  induction n using Nat.strongRecOn with
  | _ n ih =>
    by_cases h : n < 10
    · rw [dcm_low n h]
      obtain ⟨h1, h2⟩ := dch_dg n h
      exact ⟨by show 10 * 0 + _ = n; rw [h2]; omega, by simp [h1]⟩
    · rw [dcm_high n h]
      obtain ⟨h1, h2⟩ := dch_dg (n % 10) (by omega)
      obtain ⟨i1, i2⟩ := ih (n / 10) (by omega)
      refine ⟨?_, by rw [List.all_append, i2]; simp [h1]⟩
      unfold dcN at *
      rw [List.foldl_append, i1]
      show 10 * (n / 10) + _ = n
      rw [h2]; omega
theorem dcm_len (k : Nat) : ∀ n, n < 10 ^ (k + 1) → 1 ≤ (dcm n).length ∧ (dcm n).length ≤ k + 1 := by
  induction k with
  | zero =>
    intro n h
    rw [dcm_low n (by simpa using h)]
    exact ⟨Nat.le_refl _, Nat.le_refl _⟩
  | succ k ih =>
    intro n h
    by_cases hn : n < 10
    · rw [dcm_low n hn]; exact ⟨Nat.le_refl _, by show 1 ≤ _; omega⟩
    · rw [dcm_high n hn]
      have e : 10 ^ (k + 1 + 1) = 10 ^ (k + 1) * 10 := Nat.pow_succ _ _
      obtain ⟨i1, i2⟩ := ih (n / 10) (by omega)
      rw [List.length_append]
      show 1 ≤ _ + 1 ∧ _ + 1 ≤ _
      omega
theorem ten8 : (10 : Nat) ^ (7 + 1) = 100000000 := by decide
theorem ten9 : (10 : Nat) ^ (8 + 1) = 1000000000 := by decide
theorem dcm_short (n : Nat) (h : n ≤ 99999999) : 1 ≤ (dcm n).length ∧ (dcm n).length ≤ 8 := dcm_len 7 n (by rw [ten8]; omega)
/-- does a text tell a number in decimals? -/
def dcB (l : List UInt8) : Bool := (l.take 9).all dgC && (decide (dcN (l.take 9) ≤ 99999999) && decide (dcm (dcN (l.take 9)) = l))
theorem dcB_of (l : List UInt8) (h : dcB l = true) : dcN (l.take 9) ≤ 99999999 ∧ dcm (dcN (l.take 9)) = l := by
  unfold dcB at h
  rw [Bool.and_eq_true, Bool.and_eq_true, decide_eq_true_eq, decide_eq_true_eq] at h
  exact h.2
theorem dcB_dcm (n : Nat) (h : n ≤ 99999999) : dcB (dcm n) = true ∧ dcN ((dcm n).take 9) = n := by
  have hl := (dcm_short n h).2
  obtain ⟨h1, h2⟩ := dcm_back n
  have e : (dcm n).take 9 = dcm n := List.take_of_length_le (by omega)
  refine ⟨?_, by rw [e, h1]⟩
  unfold dcB
  rw [e, h1, h2, decide_eq_true h, decide_eq_true rfl]
  rfl
/-- the numeral of a kind of a number -/
def chO (K : List UInt8) (n : Int) : Option (List UInt8) :=
  if K = [114] then (if 1 ≤ n ∧ n ≤ 3999 then some (strict n.toNat) else none)
  else if K = [97] then (if 1 ≤ n ∧ n ≤ 9999 then some (aof n.toNat) else none)
  else if K = [99] then (if 0 ≤ n ∧ n ≤ 12959999 then some (clay n.toNat) else none)
  else if K = [107] then (if 0 ≤ n ∧ n ≤ 99999999 then some (rkO n.toNat) else none)
  else if K = [100] then (if 0 ≤ n ∧ n ≤ 99999999 then some (dcm n.toNat) else none)
  else none
theorem dig_pos : ∀ d, d < 10 → 1 ≤ d → (1 ≤ (dig (67 : UInt8) 68 77 d).length ∧ 1 ≤ (dig (88 : UInt8) 76 67 d).length ∧ 1 ≤ (dig (73 : UInt8) 86 88 d).length) := by decide
theorem strict_pos8 (n : Nat) (h1 : 1 ≤ n) (h : n < 4000) : 1 ≤ (strict n).length := by
  unfold strict
  rw [List.length_append, List.length_append, List.length_append, many_length]
  by_cases a : n / 1000 = 0
  · by_cases b : n / 100 % 10 = 0
    · by_cases c : n / 10 % 10 = 0
      · have := (dig_pos (n % 10) (by omega) (by omega)).2.2
        omega
      · have := (dig_pos (n / 10 % 10) (by omega) (by omega)).2.1
        omega
    · have := (dig_pos (n / 100 % 10) (by omega) (by omega)).1
      omega
  · show 1 ≤ n / 1000 * 1 + _ + _ + _
    omega
theorem aof_pos8 (m : Nat) (h1 : 1 ≤ m) (h : m ≤ 9999) : 1 ≤ (aof m).length := by
  rcases Nat.eq_zero_or_pos (aof m).length with h0 | h0
  · exfalso
    have h1 := rdA_aof m (by omega)
    rw [List.eq_nil_of_length_eq_zero h0] at h1
    have : rdA [] = 0 := rfl
    omega
  · exact h0
/-- how long a numeral is -/
theorem chO_len (K : List UInt8) (n : Int) (s : List UInt8) (h : chO K n = some s) : 1 ≤ s.length ∧ s.length ≤ 59 := by
  unfold chO at h
  split at h
  · split at h
    · obtain rfl := Option.some.inj h
      have := strict_pos8 n.toNat (by omega) (by omega)
      have := strict_len n.toNat (by omega)
      omega
    · cases h
  · split at h
    · split at h
      · obtain rfl := Option.some.inj h
        have := aof_pos8 n.toNat (by omega) (by omega)
        have := aof_len n.toNat
        omega
      · cases h
    · split at h
      · split at h
        · obtain rfl := Option.some.inj h
          have := clay_short n.toNat (by omega)
          omega
        · cases h
      · split at h
        · split at h
          · obtain rfl := Option.some.inj h
            have := rkO_len n.toNat
            omega
          · cases h
        · split at h
          · split at h
            · obtain rfl := Option.some.inj h
              have := dcm_short n.toNat (by omega)
              omega
            · cases h
          · cases h
/-- the kinds, in order -/
def kb (i : Nat) : UInt8 := if i = 0 then 114 else if i = 1 then 97 else if i = 2 then 99 else if i = 3 then 107 else 100
end Go.Proofs.YthbdnmnhoifnoaaGreatDoor

/- Small lemmas of my own for walks: no program. -/
namespace Go.Proofs.YthbdnmnhoifnoaaGreatDoor
open Go.RowKit
/-- a slice of integers that came in: nil, or a row of cap cells zs, each fitting its kind -/
def IsRow (k : IntKind) (w : World) (a : Option Addr) (len cap : Nat) (zs : List Int) : Prop :=
  (a = none ∧ len = 0 ∧ cap = 0 ∧ zs = []) ∨
  ∃ x, a = some x ∧ len ≤ cap ∧ cap ≤ maxLen ∧ zs.length = cap ∧ (∀ i, i < zs.length → w.cell? (x.add i) = some (.int k (zs.getD i 0))) ∧ ∀ n ∈ zs, (Lit.int k n).wf = true
theorem bel_chain {a b c : World} (h : Below a.heap.size a b) (k : Below b.heap.size b c) : Below a.heap.size a c := h.trans (k.mono h.size)
theorem bel_under {B : Nat} {a b c : World} (h : Below B a b) (hB : B ≤ b.heap.size) (k : Below b.heap.size b c) : Below B a c := h.trans (k.mono hB)
theorem bytes_append (a b : List UInt8) : ((⟨a.toArray⟩ : ByteArray) ++ (⟨b.toArray⟩ : ByteArray)) = ⟨(a ++ b).toArray⟩ := by
  apply ByteArray.ext
  simp [ByteArray.data_append]
theorem ret_bytes {a b : ByteArray} (h : a = b) : Ending.returned (.string a) = .returned (.string b) := by rw [h]
theorem ret_string {a b : List UInt8} (h : a = b) : Ending.returned (.string ⟨a.toArray⟩) = .returned (.string ⟨b.toArray⟩) := by rw [h]
theorem ret_int {k : IntKind} {a b : Int} (h : a = b) : Ending.returned (.int k a) = .returned (.int k b) := by rw [h]
theorem ret_int_yes {k : IntKind} {a b : Int} (h : a = b) : Ending.returned (.tuple #[.int k a, .bool true]) = .returned (.tuple #[.int k b, .bool true]) := by rw [h]
theorem ret_bytes_yes {a b : ByteArray} (h : a = b) : Ending.returned (.tuple #[.string a, .bool true]) = .returned (.tuple #[.string b, .bool true]) := by rw [h]
theorem strCells_append (a b : List UInt8) : Lib.strCells ⟨(a ++ b).toArray⟩ = Lib.strCells ⟨a.toArray⟩ ++ Lib.strCells ⟨b.toArray⟩ := by
  simp [Lib.strCells]
/-- a row's own block is not a block of another type -/
theorem own_ne {w : World} {base : Nat} {e T : TypeId} {size n pb : Nat} {v : Value} {xs : List Value} {c : Array Value} {fr : Nat × Nat} (h : w.ownsRow base e size v n xs) (hb : w.heap[pb]? = some (.cells c T fr)) (hT : T ≠ e) : v.ownBlock ≠ some pb := by
  intro hv
  rcases h.2 with ⟨rfl, _⟩ | ⟨g, cap, cur, rfl, _, hg, _⟩
  · simp [Value.ownBlock] at hv
  · simp [Value.ownBlock] at hv
    subst hv
    rw [hg] at hb
    simp at hb
    exact hT hb.2.1.symm
/-- another block stays behind an append -/
theorem grown_block {w w' : World} {base : Nat} {e T : TypeId} {size n pb : Nat} {v : Value} {xs : List Value} {c : Array Value} {fr : Nat × Nat} (hg : w.grownBy w' v.ownBlock) (h : w.ownsRow base e size v n xs) (hb : w.heap[pb]? = some (.cells c T fr)) (hT : T ≠ e) : w'.heap[pb]? = some (.cells c T fr) := by
  have hlt : pb < w.heap.size := by
    rcases Nat.lt_or_ge pb w.heap.size with h' | h'
    · exact h'
    · simp [Array.getElem?_eq_none h'] at hb
  rw [hg.block pb hlt (fun e => own_ne h hb hT e.symm)]
  exact hb
theorem cell_at {w : World} {b j : Nat} {c : Array Value} {T : TypeId} {fr : Nat × Nat} {v : Value} (h : w.heap[b]? = some (.cells c T fr)) (hv : c[j]? = some v) : w.cell? ⟨b, j, none⟩ = some v := by
  simp [World.cell?, h, hv]
/-- string(b) of a row of bytes that the call owns -/
theorem conv_own {P : Program} (w : World) (src dst e : TypeId) (hs : P.underlying src = some (.slice e)) (he : P.underlying e = some (.int .u8)) (hd : P.underlying dst = some .string)
    (base : Nat) (v : Value) (l : List UInt8) (n : Nat) (hown : w.ownsRow base e 1 v n (Lib.strCells ⟨l.toArray⟩)) : (convert src dst v).run P w = .ok (.string ⟨l.toArray⟩) w := by
  have hlen : n = l.length := by
    have := hown.1
    rw [Lib.strCells_length] at this
    have h2 : (⟨l.toArray⟩ : ByteArray).size = l.length := by show l.toArray.size = l.length; simp
    omega
  subst hlen
  rcases hown.2 with ⟨rfl, hz⟩ | ⟨g, cap, cur, rfl, _, hg, _, _, _, htk⟩
  · have : l = [] := List.eq_nil_of_length_eq_zero hz
    subst this
    exact Lib.run_convert_nil_bytes w src dst e _ hs he hd
  · refine run_convert_bytes_back w src dst e _ cap l hs he hd ?_
    intro j hj
    have hc := hown.cells (g := g) rfl j (.int .u8 (l[j].toNat : Int)) (by simp [Lib.strCells, hj])
    exact hc
end Go.Proofs.YthbdnmnhoifnoaaGreatDoor

/- Small lemmas of my own for walks, second part: no program. -/
namespace Go.Proofs.YthbdnmnhoifnoaaGreatDoor
open Go.RowKit
theorem lt_of_block' {w : World} {b : Nat} {o : Obj} (h : w.heap[b]? = some o) : b < w.heap.size := by
  rcases Nat.lt_or_ge b w.heap.size with h' | h'
  · exact h'
  · simp [Array.getElem?_eq_none h'] at h
theorem quiet_mine {P : Program} {f : FuncId} {args : Array Value} {w : World} {n : Nat} {v : Value}
    (h : Calls P f args (w.drewN n) fun e w' => e = .returned v ∧ w.drewN n = w') : Calls P f args (w.drewN n) fun e w'' => e = .returned v ∧ ∃ m, w'' = w.drewN m :=
  h.mono fun _ _ ⟨he, hm⟩ => ⟨he, n, hm.symm⟩
theorem bel_drewN {B : Nat} {a w : World} (h : Below B a w) (n : Nat) : Below B a (w.drewN n) := h.trans ⟨rfl, rfl, rfl, Nat.le_refl _, fun _ _ => rfl⟩
end Go.Proofs.YthbdnmnhoifnoaaGreatDoor

/- The laws' digits. -/
namespace Go.Proofs.YthbdnmnhoifnoaaGreatDoor
open Go.RowKit
set_option linter.unusedVariables false
set_option linter.unusedSimpArgs false
set_option maxRecDepth 100000
theorem byte_txt {w : World} {b : Nat} {d : Nat} (hd : d < 10) (h : w.heap[b]? = some (.cells #[.int .u8 (48 + (d : Int))] 5 (0, 0))) :
    Sem.run Tryz.prog (convert 22 9 (.slice (some ⟨b, 0, none⟩) 1 1)) w = .ok (.string ⟨#[dch d]⟩) w := by
  have := run_convert_bytes_arg (P := Tryz.prog) w 22 5 Tryz.underlying22 Tryz.underlying5 b 0 1 1 [48 + (d : Int)] rfl (fun i hi => by
    obtain rfl : i = 0 := by omega
    exact cell_at h rfl) 9 Tryz.underlying9
  rw [this]
  have e : strOfNums [48 + (d : Int)] = ⟨#[dch d]⟩ := by
    unfold strOfNums dch
    rw [List.map_singleton, show (48 + (d : Int)).toNat = 48 + d by omega]
  rw [e]
theorem zcat_bytes (a b : List UInt8) : (⟨a.toArray⟩ : ByteArray) ++ ⟨b.toArray⟩ = ⟨(a ++ b).toArray⟩ := by
  apply ByteArray.ext
  rw [ByteArray.data_append]
  simp
theorem zret {a b : Value} (h : a = b) : Ending.returned a = .returned b := by rw [h]
set_option maxHeartbeats 2000000 in
theorem ldigit_any (d : Nat) (w : World) (hd : d < 10) : Calls Tryz.prog 9 #[.int .i64 d] w fun e w' => e = .returned (.string ⟨#[dch d]⟩) ∧ Below w.heap.size w w' := by
  rcases Nat.eq_zero_or_pos d with rfl | hp
  · have hcv : Sem.run Tryz.prog (convert 22 9 (.slice (some ⟨w.heap.size, 0, none⟩) 1 1)) (w.alloc (.cells #[.int .u8 48] 5)) = .ok (.string ⟨#[dch 0]⟩) (w.alloc (.cells #[.int .u8 48] 5)) := byte_txt (w := w.alloc (.cells #[.int .u8 (48 + ((0 : Nat) : Int))] 5)) hd (heap_alloc_new w _)
    go_enter Tryz.func9, Tryz.ntmps9
    go_wp2_with fail
    go_ret
    exact ⟨rfl, (Below.refl _ _).alloc (Nat.le_refl _) _⟩
  · have hcv := byte_txt (w := w.alloc (.cells #[.int .u8 (48 + (d : Int))] 5)) hd (heap_alloc_new w _)
    have h10 : (d : Int) < 10 := by omega
    have h00 : (0 : Int) < (d : Int) := by omega
    go_enter Tryz.func9, Tryz.ntmps9
    go_wp2_with fail
    go_ret
    exact ⟨rfl, (Below.refl _ _).alloc (Nat.le_refl _) _⟩
set_option maxHeartbeats 4000000 in
theorem ldigits_any (n : Nat) : ∀ w : World, n ≤ 999999999 → Calls Tryz.prog 9 #[.int .i64 n] w fun e w' => e = .returned (.string ⟨(dcm n).toArray⟩) ∧ Below w.heap.size w w' := by
  induction n using Nat.strongRecOn with
  | _ n ih =>
    intro w hn
    by_cases h : n < 10
    · rw [dcm_low n h]
      exact ldigit_any n w h
    · have HD : Hid (dcm n = dcm (n / 10) ++ [dch (n % 10)]) := Lib.hid (dcm_high n h)
      have C := Lib.hid (fun W => ih (n / 10) (by omega) W (by omega))
      have hl : (dcm (n / 10)).length ≤ 9 := (dcm_len 8 (n / 10) (by rw [ten9]; omega)).2
      have h10 : ¬ (n : Int) < 10 := by omega
      have e1 : (n : Int) / 10 = ((n / 10 : Nat) : Int) := by omega
      have e2 : (n : Int).tmod 10 = ((n % 10 : Nat) : Int) := by rw [Int.tmod_eq_emod_of_nonneg (by omega)]; omega
      have e3 : (n : Int) % 10 = ((n % 10 : Nat) : Int) := by omega
      have hw : wrap64 ((n : Int) / 10) = (n / 10 : Nat) := by rw [e1]; unfold wrap64; omega
      have hd : n % 10 < 10 := by omega
      have hm : n / 10 ≤ 99999999 := by omega
      clear ih h
      generalize n / 10 = m at *
      generalize n % 10 = d at *
      generalize dcm m = M at *
      have HE : Hid ((⟨M.toArray⟩ : ByteArray) ++ ⟨#[dch d]⟩ = ⟨(dcm n).toArray⟩) := Lib.hid (by rw [HD.out]; exact zcat_bytes M [dch d])
      have HBT : Hid (∀ W : World, W.heap[w.heap.size]? = some (.cells #[.int .u8 (48 + (d : Int))] 5 (0, 0)) → Sem.run Tryz.prog (convert 22 9 (.slice (some ⟨w.heap.size, 0, none⟩) 1 1)) W = .ok (.string ⟨#[dch d]⟩) W) := Lib.hid fun W hb => byte_txt hd hb
      have BT : ∀ W : World, Sem.run Tryz.prog (convert 22 9 (.slice (some ⟨W.heap.size, 0, none⟩) 1 1)) (W.alloc (.cells #[.int .u8 (48 + (d : Int))] 5)) = .ok (.string ⟨#[dch d]⟩) (W.alloc (.cells #[.int .u8 (48 + (d : Int))] 5)) := fun W => byte_txt hd (heap_alloc_new W _)
      have hcv0 := HBT.out (w.alloc (.cells #[.int .u8 (48 + (d : Int))] 5)).drew (heap_alloc_new w _)
      have hu : IntKind.u8.wrap (48 + (d : Int)) = 48 + (d : Int) := by rw [IntKind.wrap_u8]; omega
      have hw1 : IntKind.i64.wrap (m : Int) = m := IntWalk.i64_in _ (by omega)
      have hw2 : IntKind.i64.wrap (48 + (d : Int)) = 48 + (d : Int) := IntWalk.i64_in _ (by omega)
      have l1 : ¬ 9223372036854775807 < M.length + 1 := by omega
      go_enter Tryz.func9, Tryz.ntmps9
      go_wp2_with fail
      go_region_law (first
        | (go_simp
           go_at_call 9
           with_reducible refine (C.out w.drew).mono ?_
           rintro e w5 ⟨rfl, g5⟩
           have G5 : Hid (Below w.heap.size w w5) := Lib.hid (((Below.refl _ w).drew).trans g5))
        | (go_simp
           go_at_call 9
           with_reducible refine (C.out (w.alloc (.cells #[.int .u8 (48 + (d : Int))] 5)).drew).mono ?_
           rintro e w5 ⟨rfl, g5⟩
           have hcv := HBT.out w5 ((g5.block w.heap.size (by simp [World.drew])).trans (heap_alloc_new w _))
           have G5 : Hid (Below w.heap.size w w5) := Lib.hid ((((Below.refl _ w).alloc (Nat.le_refl _) _).drew).trans (g5.mono (by simp [World.drew])))))
      all_goals
        go_wp2_with fail
        go_ret
        first
          | exact ⟨zret (congrArg Value.string (HE.out)), G5.out⟩
          | exact ⟨zret (congrArg Value.string (HE.out)), G5.out.alloc G5.out.size _⟩
end Go.Proofs.YthbdnmnhoifnoaaGreatDoor

/- The desk of a script: a block that changes while all else is kept; refusals; the numbers of a rest. -/
namespace Go.Proofs.YthbdnmnhoifnoaaGreatDoor
open Go.RowKit
set_option linter.unusedVariables false
set_option linter.unusedSimpArgs false
set_option maxRecDepth 100000
/-- below block B the world w' is as w was, but for block D -/
structure But (D B : Nat) (w w' : World) : Prop where
  os : w'.os = w.os
  tape : w'.tape = w.tape
  output : w'.output = w.output
  size : w.heap.size ≤ w'.heap.size
  block : ∀ k, k < B → k ≠ D → w'.heap[k]? = w.heap[k]?
theorem But.of {D B : Nat} {w w' : World} (h : Below B w w') : But D B w w' := ⟨h.os, h.tape, h.output, h.size, fun k hk _ => h.block k hk⟩
theorem But.refl (D B : Nat) (w : World) : But D B w w := ⟨rfl, rfl, rfl, Nat.le_refl _, fun _ _ _ => rfl⟩
theorem But.trans {D B : Nat} {a b c : World} (h : But D B a b) (k : But D B b c) : But D B a c :=
  ⟨k.os.trans h.os, k.tape.trans h.tape, k.output.trans h.output, Nat.le_trans h.size k.size, fun i hi hn => (k.block i hi hn).trans (h.block i hi hn)⟩
theorem But.mono {D B B' : Nat} {w w' : World} (h : But D B w w') (hB : B' ≤ B) : But D B' w w' := ⟨h.os, h.tape, h.output, h.size, fun k hk hn => h.block k (Nat.lt_of_lt_of_le hk hB) hn⟩
theorem But.below {D B C : Nat} {w w' : World} (h : But D B w w') (hD : C ≤ D) (hB : C ≤ B) : Below C w w' := ⟨h.os, h.tape, h.output, h.size, fun k hk => h.block k (by omega) (by omega)⟩
theorem But.set {D B : Nat} {a w : World} (h : But D B a w) (o : Nat) (u : Value) : But D B a (w.setCell ⟨D, o, none⟩ u) :=
  h.trans ⟨rfl, rfl, rfl, by simp [World.setCell], fun k _ hn => Below.heap_setCell _ _ _ _ hn⟩
theorem But.then {D B B' : Nat} {a w w' : World} (h : But D B a w) (g : Below B' w w') (hB : B ≤ B') : But D B a w' := h.trans (But.of (g.mono hB))
/-- the desk: the number and the values' slice -/
def Dsk (w : World) (D : Nat) (n : Int) (v : Value) : Prop := w.heap[D]? = some (.cells #[.int .i64 n, v] 61 (0, 0))
theorem Dsk.lt {w : World} {D : Nat} {n : Int} {v : Value} (h : Dsk w D n v) : D < w.heap.size := lt_of_block' h
theorem Dsk.below {w w' : World} {D B : Nat} {n : Int} {v : Value} (h : Dsk w D n v) (g : Below B w w') (hD : D < B) : Dsk w' D n v := (g.block D hD).trans h
theorem Dsk.cell0 {w : World} {D : Nat} {n : Int} {v : Value} (h : Dsk w D n v) : w.cell? ⟨D, 0, none⟩ = some (.int .i64 n) := cell_at h rfl
theorem Dsk.cell1 {w : World} {D : Nat} {n : Int} {v : Value} (h : Dsk w D n v) : w.cell? ⟨D, 1, none⟩ = some v := cell_at h rfl
theorem Dsk.frozen {w : World} {D : Nat} {n : Int} {v : Value} (h : Dsk w D n v) (k : Nat) : w.frozen? ⟨D, k, none⟩ = false := by
  unfold Dsk at h
  simp [World.frozen?, h]
theorem Dsk.set0 {w : World} {D : Nat} {n : Int} {v : Value} (h : Dsk w D n v) (m : Int) : Dsk (w.setCell ⟨D, 0, none⟩ (.int .i64 m)) D m v := by
  unfold Dsk at h ⊢
  simp [World.setCell, Array.getElem?_modify, h]
theorem Dsk.set1 {w : World} {D : Nat} {n : Int} {v : Value} (h : Dsk w D n v) (u : Value) : Dsk (w.setCell ⟨D, 1, none⟩ u) D n u := by
  unfold Dsk at h ⊢
  simp [World.setCell, Array.getElem?_modify, h]
theorem Dsk.but {w w' : World} {C D B : Nat} {n : Int} {v : Value} (h : Dsk w D n v) (g : But C B w w') (hD : D < B) (hC : D ≠ C) : Dsk w' D n v := (g.block D hD hC).trans h
/-- a line's refusal -/
abbrev noR : Ending := .panicked [{ v := .iface 63 (.string ⟨#[110, 111]⟩), recovered := false }]
abbrev whatR : Ending := .panicked [{ v := .iface 63 (.string ⟨#[119, 104, 97, 116]⟩), recovered := false }]
theorem zbyte_at (l : List UInt8) (k : Nat) (hk : k < l.length) (c : UInt8) (h : l[k] = c) : ∀ hix, ((((⟨l.toArray⟩ : ByteArray)[k]'hix).toNat : Int)) = (c.toNat : Int) := by
  intro hix
  have e : (⟨l.toArray⟩ : ByteArray)[k]'hix = c := h
  rw [e]
theorem become_ok (D : Nat) (n m : Int) (v : Value) (w : World) (hd : Dsk w D n v) (hm : m ≤ 99999999) :
    Calls Tryz.prog 89 #[.pointer (some ⟨D, 0, none⟩), .int .i64 m, .bool true] w fun e w' => e = .returned (.string ⟨#[111, 107]⟩) ∧ w' = w.setCell ⟨D, 0, none⟩ (.int .i64 m) := by
  have c0 := hd.cell0
  have f0 := hd.frozen 0
  have h1 : ¬ (99999999 : Int) < m := by omega
  clear hd hm
  go_enter Tryz.func89, Tryz.ntmps89
  go_wp2_with fail
  go_ret
  exact ⟨rfl, rfl⟩
theorem become_no (D : Nat) (m : Int) (b : Bool) (w : World) (hb : b = false ∨ b = true ∧ 99999999 < m) :
    Calls Tryz.prog 89 #[.pointer (some ⟨D, 0, none⟩), .int .i64 m, .bool b] w fun e w' => e = noR ∧ w' = w := by
  rcases hb with rfl | ⟨rfl, h⟩
  · go_enter Tryz.func89, Tryz.ntmps89
    go_wp2_with fail
    exact ⟨rfl, rfl, rfl⟩
  · go_enter Tryz.func89, Tryz.ntmps89
    go_wp2_with fail
    exact ⟨rfl, rfl, rfl⟩
theorem dcn_succ (l : List UInt8) (k : Nat) (h : k < l.length) : dcN (l.take (k + 1)) = 10 * dcN (l.take k) + (l[k].toNat - 48) := by
  unfold dcN
  rw [List.take_succ_eq_append_getElem h, List.foldl_append]
  rfl
theorem dcn_bd (l : List UInt8) : ∀ k, k ≤ l.length → (l.take k).all dgC = true → dcN (l.take k) < 10 ^ k
  | 0, _, _ => by simp [dcN]
  | k + 1, h, ha => by
    rw [List.take_succ_eq_append_getElem (by omega), List.all_append, Bool.and_eq_true] at ha
    have ih := dcn_bd l k (by omega) ha.1
    have hd : dgC l[k] = true := by simpa using ha.2
    unfold dgC at hd
    rw [Bool.and_eq_true, decide_eq_true_eq, decide_eq_true_eq] at hd
    rw [dcn_succ l k (by omega), Nat.pow_succ]
    omega
/-- the number of a rest with just one of them, if there is one -/
def nmO (l : List UInt8) : Option Nat := if 1 ≤ l.length ∧ l.length ≤ 8 ∧ l.all dgC = true then some (dcN l) else none
theorem nmO_le (l : List UInt8) (n : Nat) (h : nmO l = some n) : n ≤ 99999999 := by
  unfold nmO at h
  split at h
  · rename_i hc
    obtain rfl := Option.some.inj h
    have := dcn_bd l l.length (Nat.le_refl _) (by rw [List.take_length]; exact hc.2.2)
    rw [List.take_length] at this
    have h2 : (10 : Nat) ^ l.length ≤ 10 ^ 8 := Nat.pow_le_pow_right (by omega) hc.2.1
    have h3 : (10 : Nat) ^ 8 = 100000000 := by decide
    omega
  · cases h
theorem nmO_dcm (n : Nat) (h : n ≤ 99999999) : nmO (dcm n) = some n := by
  obtain ⟨h1, h2⟩ := dcm_back n
  obtain ⟨h3, h4⟩ := dcm_short n h
  unfold nmO
  rw [if_pos ⟨h3, h4, h2⟩, h1]
theorem nmO_bad (l : List UInt8) (k : Nat) (hk : k < l.length) (h : dgC l[k] = false) : nmO l = none := by
  unfold nmO
  rw [if_neg]
  rintro ⟨_, _, h3⟩
  have := List.all_eq_true.1 h3 l[k] (List.getElem_mem hk)
  rw [h] at this; cases this
/-- how numberIn ends -/
def nmE (l : List UInt8) : Ending := match nmO l with | some n => .returned (.int .i64 n) | none => noR
theorem nmE_no {l : List UInt8} (h : nmO l = none) : nmE l = noR := by unfold nmE; rw [h]
theorem nmE_yes {l : List UInt8} {n : Nat} (h : nmO l = some n) : nmE l = .returned (.int .i64 n) := by unfold nmE; rw [h]
set_option maxHeartbeats 2000000 in
theorem numberIn_any (l : List UInt8) (w : World) (hl : l.length ≤ 1048576) : Calls Tryz.prog 90 #[.string ⟨l.toArray⟩] w fun e w' => e = nmE l ∧ w' = w := by
  by_cases h1 : l.length < 1
  · have HF : Hid (nmE l = noR) := Lib.hid (nmE_no (by unfold nmO; rw [if_neg]; omega))
    have i1 : (l.length : Int) < 1 := by omega
    clear hl
    go_enter Tryz.func90, Tryz.ntmps90
    go_wp2_with fail
    exact ⟨rfl, HF.out.symm, rfl⟩
  have i1 : ¬ (l.length : Int) < 1 := by omega
  by_cases h8 : 8 < l.length
  · have HF : Hid (nmE l = noR) := Lib.hid (nmE_no (by unfold nmO; rw [if_neg]; omega))
    have i2 : (8 : Int) < (l.length : Int) := by omega
    clear hl
    go_enter Tryz.func90, Tryz.ntmps90
    go_wp2_with fail
    exact ⟨rfl, HF.out.symm, rfl⟩
  have i2 : ¬ (8 : Int) < (l.length : Int) := by omega
  have g1 : 1 ≤ l.length := by omega
  have g8 : l.length ≤ 8 := by omega
  have G1 := Lib.hid g1; clear g1
  go_enter Tryz.func90, Tryz.ntmps90
  go_wp2_with fail
  go_loopw [3, 16] (fun n i wr => ∃ (k N : Nat), k ≤ l.length ∧ N < 1000000000 ∧ i = .int .i64 k ∧ n = .int .i64 N ∧ Hid (dcN (l.take k) = N) ∧ Hid ((l.take k).all dgC = true) ∧ wr = w) (fun _ i _ => l.length - (intOf i).toNat)
  case atStart => exact ⟨0, 0, by omega, by decide, rfl, rfl, Lib.hid rfl, Lib.hid rfl, rfl⟩
  case round =>
    obtain ⟨k, N, hk, hN, rfl, rfl, HN, HA, rfl⟩ := hrel
    by_cases hlt : k < l.length
    · have j0 : (k : Int) < (l.length : Int) := by omega
      have hlt' : k < (⟨l.toArray⟩ : ByteArray).size := hlt
      obtain ⟨c, hc⟩ : ∃ c, l[k] = c := ⟨_, rfl⟩
      have hbyte : ((((⟨l.toArray⟩ : ByteArray)[k]'hlt').toNat : Int)) = (c.toNat : Int) := zbyte_at l k hlt c hc _
      have hb := nmO_bad l k hlt
      have hs := dcn_succ l k hlt
      have hbd := dcn_bd l (k + 1) hlt
      have ha2 : (l.take (k + 1)).all dgC = ((l.take k).all dgC && dgC l[k]) := by
        rw [List.take_succ_eq_append_getElem hlt, List.all_append]
        simp
      rw [hc] at hb hs ha2
      rw [HN.out] at hs
      rw [HA.out, Bool.true_and] at ha2
      have hc256 := c.toNat_lt
      by_cases h1 : c.toNat < 48
      · have HF : Hid (nmE l = noR) := Lib.hid (nmE_no (hb (by unfold dgC; rw [decide_eq_false (by omega)]; rfl)))
        have j1 : (c.toNat : Int) < 48 := by omega
        clear hb hs hbd ha2 hc
        go_wp2_with fail
        exact ⟨rfl, HF.out.symm, rfl⟩
      · by_cases h2 : 57 < c.toNat
        · have HF : Hid (nmE l = noR) := Lib.hid (nmE_no (hb (by unfold dgC; rw [decide_eq_false (show ¬ c.toNat ≤ 57 by omega), Bool.and_false])))
          have j1 : ¬ (c.toNat : Int) < 48 := by omega
          have j2 : (57 : Int) < (c.toNat : Int) := by omega
          clear hb hs hbd ha2 hc
          go_wp2_with fail
          exact ⟨rfl, HF.out.symm, rfl⟩
        · have hd : dgC c = true := by unfold dgC; rw [decide_eq_true (by omega), decide_eq_true (by omega)]; rfl
          rw [hd] at ha2
          have hbd := hbd ha2
          rw [hs] at hbd
          have h10 : (10 : Nat) ^ (k + 1) ≤ 10 ^ (8 + 1) := Nat.pow_le_pow_right (by omega) (by omega)
          rw [ten9] at h10
          have hN2 : 10 * N + (c.toNat - 48) < 1000000000 := by omega
          have j1 : ¬ (c.toNat : Int) < 48 := by omega
          have j2 : ¬ (57 : Int) < (c.toNat : Int) := by omega
          have hu : IntKind.u8.wrap ((c.toNat : Int) - 48) = ((c.toNat - 48 : Nat) : Int) := by rw [IntKind.wrap_u8]; omega
          have HN2 := Lib.hid hs; have HA2 := Lib.hid ha2
          clear hb hs hbd ha2 hc h10 hd
          have hv : c.toNat - 48 ≤ 9 := by omega
          generalize c.toNat - 48 = v at *
          have hm1 : (N : Int) * 10 = 10 * (N : Int) := by omega
          have hw0 : IntKind.i64.wrap ((N : Int) * 10) = 10 * (N : Int) := by rw [hm1]; exact IntWalk.i64_in _ (by omega)
          have hw1 : IntKind.i64.wrap (10 * (N : Int)) = 10 * (N : Int) := IntWalk.i64_in _ (by omega)
          have hw2 : IntKind.i64.wrap (10 * (N : Int) + (v : Int)) = 10 * (N : Int) + (v : Int) := IntWalk.i64_in _ (by omega)
          go_wp2_with fail
          go_roundw
          case rel => exact ⟨k + 1, 10 * N + v, by omega, hN2, by go_num, by go_num, HN2, HA2, trivial⟩
          case measure => simp [intOf]; omega
    · have hk0 : k = l.length := by omega
      subst hk0
      have j0 : ¬ (l.length : Int) < (l.length : Int) := by omega
      have HF : Hid (nmE l = .returned (.int .i64 N)) := Lib.hid (nmE_yes (by
        have a1 := HN.out; have a2 := HA.out
        rw [List.take_length] at a1 a2
        unfold nmO; rw [if_pos ⟨G1.out, g8, a2⟩, a1]))
      go_wp2_with fail
      go_ret
      exact ⟨HF.out.symm, rfl⟩
theorem textOutput_yes (l : List UInt8) (w : World) (h : l ≠ []) : Calls Tryz.prog 78 #[.string ⟨l.toArray⟩, .bool true] w fun e w' => e = .returned (.string ⟨l.toArray⟩) ∧ w' = w := by
  have q : (l == []) = false := by rw [beq_eq_false_iff_ne]; exact h
  clear h
  go_enter Tryz.func78, Tryz.ntmps78
  go_wp2_with fail
  go_ret
  exact ⟨rfl, rfl⟩
theorem textOutput_nil (w : World) : Calls Tryz.prog 78 #[.string ⟨#[]⟩, .bool true] w fun e w' => e = .returned (.string ⟨#[45]⟩) ∧ w' = w := by
  go_enter Tryz.func78, Tryz.ntmps78
  go_wp2_with fail
  go_ret
  exact ⟨rfl, rfl⟩
theorem textOutput_no (s : ByteArray) (w : World) : Calls Tryz.prog 78 #[.string s, .bool false] w fun e w' => e = noR ∧ w' = w := by
  go_enter Tryz.func78, Tryz.ntmps78
  go_wp2_with fail
  exact ⟨rfl, rfl, rfl⟩
end Go.Proofs.YthbdnmnhoifnoaaGreatDoor

/- The maps of a script's words: made, looked up. -/
namespace Go.Proofs.YthbdnmnhoifnoaaGreatDoor
open Go.RowKit
set_option linter.unusedVariables false
set_option linter.unusedSimpArgs false
set_option maxRecDepth 100000
theorem push_set {α : Type} (xs : Array α) (a b : α) : (xs.push a).setIfInBounds xs.size b = xs.push b := by
  apply Array.ext'
  simp [List.set_append]
theorem ins_new {P : Program} {t k e : TypeId} (ht : P.underlying t = some (.map k e)) (w : World) (es : Array MapEntry) (i : Nat) (key val : Value)
    (hc : ∀ W : World, (Instr.checkKey false 10000 k key).run P W = .ok () W) (hf : ∀ W : World, (Instr.findKey k key es.toList).run P W = .ok none W) :
    (Instr.mapUpdate t (.map (some w.heap.size)) key val).run P (w.alloc (.map es i)) = .ok () (w.alloc (.map (es.push (.mk key val i)) (i + 1))) := by
  have hb : (w.alloc (.map es i)).heap[w.heap.size]? = some (.map es i) := heap_alloc_new w _
  have hs : ChangeMaps.setBlock (w.alloc (.map es i)) w.heap.size (.map (es.push (.mk key val i)) (i + 1)) = w.alloc (.map (es.push (.mk key val i)) (i + 1)) := by
    unfold ChangeMaps.setBlock World.alloc
    simp only [push_set]
  simp [Instr.mapUpdate, run_underlying ht, MapKept.run_getObj_map hb, hc, hf, MapKept.run_setObj_map _ hb, Result.andThen]
  exact hs
theorem look_hit {P : Program} {t k e : TypeId} (ht : P.underlying t = some (.map k e)) (w : World) (b : Nat) (es : Array MapEntry) (i : Nat) (key val : Value) (j : Nat) (hb : w.heap[b]? = some (.map es i))
    (hc : (Instr.checkKey es.isEmpty 10000 k key).run P w = .ok () w) (hf : (Instr.findKey k key es.toList).run P w = .ok (some (j, val)) w) :
    (Instr.lookup t (.map (some b)) key true).run P w = .ok (.tuple #[val, .bool true]) w := by
  simp [Instr.lookup, run_underlying ht, MapKept.run_getObj_map hb, hc, hf, Result.andThen]
theorem look_miss {P : Program} {t k e : TypeId} (ht : P.underlying t = some (.map k e)) (w : World) (b : Nat) (es : Array MapEntry) (i : Nat) (key z : Value) (hb : w.heap[b]? = some (.map es i))
    (hc : (Instr.checkKey es.isEmpty 10000 k key).run P w = .ok () w) (hz : (zeroValue e).run P w = .ok z w) (hf : (Instr.findKey k key es.toList).run P w = .ok none w) :
    (Instr.lookup t (.map (some b)) key true).run P w = .ok (.tuple #[z, .bool false]) w := by
  simp [Instr.lookup, run_underlying ht, MapKept.run_getObj_map hb, hc, hz, hf, Result.andThen]
/-- the words of wordsWithRest, entered -/
abbrev esR : Array MapEntry := #[.mk (.string ⟨#[110, 117, 109, 98, 101, 114]⟩) (.func (.func 53) #[] #[]) 0, .mk (.string ⟨#[114, 111, 109, 97, 110]⟩) (.func (.func 54) #[] #[]) 1, .mk (.string ⟨#[97, 108, 112, 104, 97]⟩) (.func (.func 55) #[] #[]) 2, .mk (.string ⟨#[99, 108, 97, 121]⟩) (.func (.func 56) #[] #[]) 3, .mk (.string ⟨#[114, 97, 110, 107]⟩) (.func (.func 57) #[] #[]) 4, .mk (.string ⟨#[97, 100, 100]⟩) (.func (.func 58) #[] #[]) 5, .mk (.string ⟨#[115, 121, 115, 116, 101, 109]⟩) (.func (.func 59) #[] #[]) 6, .mk (.string ⟨#[97, 115]⟩) (.func (.func 60) #[] #[]) 7, .mk (.string ⟨#[108, 111, 111, 115, 101]⟩) (.func (.func 61) #[] #[]) 8, .mk (.string ⟨#[115, 117, 109]⟩) (.func (.func 62) #[] #[]) 9, .mk (.string ⟨#[114, 101, 97, 100, 105, 110, 103, 115]⟩) (.func (.func 63) #[] #[]) 10, .mk (.string ⟨#[107, 105, 110, 100, 115]⟩) (.func (.func 64) #[] #[]) 11]
theorem mtR : Tryz.prog.underlying 69 = some (.map 9 67) := Tryz.underlying69
theorem inR0 (w : World) : (Instr.mapUpdate 69 (.map (some w.heap.size)) (.string ⟨#[110, 117, 109, 98, 101, 114]⟩) (.func (.func 53) #[] #[])).run Tryz.prog (w.alloc (.map #[] 0)) = .ok () (w.alloc (.map #[.mk (.string ⟨#[110, 117, 109, 98, 101, 114]⟩) (.func (.func 53) #[] #[]) 0] 1)) :=
  ins_new mtR w #[] 0 _ _ (fun W => by kernel_rfl) (fun W => by kernel_rfl)
theorem inR1 (w : World) : (Instr.mapUpdate 69 (.map (some w.heap.size)) (.string ⟨#[114, 111, 109, 97, 110]⟩) (.func (.func 54) #[] #[])).run Tryz.prog (w.alloc (.map #[.mk (.string ⟨#[110, 117, 109, 98, 101, 114]⟩) (.func (.func 53) #[] #[]) 0] 1)) = .ok () (w.alloc (.map #[.mk (.string ⟨#[110, 117, 109, 98, 101, 114]⟩) (.func (.func 53) #[] #[]) 0, .mk (.string ⟨#[114, 111, 109, 97, 110]⟩) (.func (.func 54) #[] #[]) 1] 2)) :=
  ins_new mtR w #[.mk (.string ⟨#[110, 117, 109, 98, 101, 114]⟩) (.func (.func 53) #[] #[]) 0] 1 _ _ (fun W => by kernel_rfl) (fun W => by kernel_rfl)
theorem inR2 (w : World) : (Instr.mapUpdate 69 (.map (some w.heap.size)) (.string ⟨#[97, 108, 112, 104, 97]⟩) (.func (.func 55) #[] #[])).run Tryz.prog (w.alloc (.map #[.mk (.string ⟨#[110, 117, 109, 98, 101, 114]⟩) (.func (.func 53) #[] #[]) 0, .mk (.string ⟨#[114, 111, 109, 97, 110]⟩) (.func (.func 54) #[] #[]) 1] 2)) = .ok () (w.alloc (.map #[.mk (.string ⟨#[110, 117, 109, 98, 101, 114]⟩) (.func (.func 53) #[] #[]) 0, .mk (.string ⟨#[114, 111, 109, 97, 110]⟩) (.func (.func 54) #[] #[]) 1, .mk (.string ⟨#[97, 108, 112, 104, 97]⟩) (.func (.func 55) #[] #[]) 2] 3)) :=
  ins_new mtR w #[.mk (.string ⟨#[110, 117, 109, 98, 101, 114]⟩) (.func (.func 53) #[] #[]) 0, .mk (.string ⟨#[114, 111, 109, 97, 110]⟩) (.func (.func 54) #[] #[]) 1] 2 _ _ (fun W => by kernel_rfl) (fun W => by kernel_rfl)
theorem inR3 (w : World) : (Instr.mapUpdate 69 (.map (some w.heap.size)) (.string ⟨#[99, 108, 97, 121]⟩) (.func (.func 56) #[] #[])).run Tryz.prog (w.alloc (.map #[.mk (.string ⟨#[110, 117, 109, 98, 101, 114]⟩) (.func (.func 53) #[] #[]) 0, .mk (.string ⟨#[114, 111, 109, 97, 110]⟩) (.func (.func 54) #[] #[]) 1, .mk (.string ⟨#[97, 108, 112, 104, 97]⟩) (.func (.func 55) #[] #[]) 2] 3)) = .ok () (w.alloc (.map #[.mk (.string ⟨#[110, 117, 109, 98, 101, 114]⟩) (.func (.func 53) #[] #[]) 0, .mk (.string ⟨#[114, 111, 109, 97, 110]⟩) (.func (.func 54) #[] #[]) 1, .mk (.string ⟨#[97, 108, 112, 104, 97]⟩) (.func (.func 55) #[] #[]) 2, .mk (.string ⟨#[99, 108, 97, 121]⟩) (.func (.func 56) #[] #[]) 3] 4)) :=
  ins_new mtR w #[.mk (.string ⟨#[110, 117, 109, 98, 101, 114]⟩) (.func (.func 53) #[] #[]) 0, .mk (.string ⟨#[114, 111, 109, 97, 110]⟩) (.func (.func 54) #[] #[]) 1, .mk (.string ⟨#[97, 108, 112, 104, 97]⟩) (.func (.func 55) #[] #[]) 2] 3 _ _ (fun W => by kernel_rfl) (fun W => by kernel_rfl)
theorem inR4 (w : World) : (Instr.mapUpdate 69 (.map (some w.heap.size)) (.string ⟨#[114, 97, 110, 107]⟩) (.func (.func 57) #[] #[])).run Tryz.prog (w.alloc (.map #[.mk (.string ⟨#[110, 117, 109, 98, 101, 114]⟩) (.func (.func 53) #[] #[]) 0, .mk (.string ⟨#[114, 111, 109, 97, 110]⟩) (.func (.func 54) #[] #[]) 1, .mk (.string ⟨#[97, 108, 112, 104, 97]⟩) (.func (.func 55) #[] #[]) 2, .mk (.string ⟨#[99, 108, 97, 121]⟩) (.func (.func 56) #[] #[]) 3] 4)) = .ok () (w.alloc (.map #[.mk (.string ⟨#[110, 117, 109, 98, 101, 114]⟩) (.func (.func 53) #[] #[]) 0, .mk (.string ⟨#[114, 111, 109, 97, 110]⟩) (.func (.func 54) #[] #[]) 1, .mk (.string ⟨#[97, 108, 112, 104, 97]⟩) (.func (.func 55) #[] #[]) 2, .mk (.string ⟨#[99, 108, 97, 121]⟩) (.func (.func 56) #[] #[]) 3, .mk (.string ⟨#[114, 97, 110, 107]⟩) (.func (.func 57) #[] #[]) 4] 5)) :=
  ins_new mtR w #[.mk (.string ⟨#[110, 117, 109, 98, 101, 114]⟩) (.func (.func 53) #[] #[]) 0, .mk (.string ⟨#[114, 111, 109, 97, 110]⟩) (.func (.func 54) #[] #[]) 1, .mk (.string ⟨#[97, 108, 112, 104, 97]⟩) (.func (.func 55) #[] #[]) 2, .mk (.string ⟨#[99, 108, 97, 121]⟩) (.func (.func 56) #[] #[]) 3] 4 _ _ (fun W => by kernel_rfl) (fun W => by kernel_rfl)
theorem inR5 (w : World) : (Instr.mapUpdate 69 (.map (some w.heap.size)) (.string ⟨#[97, 100, 100]⟩) (.func (.func 58) #[] #[])).run Tryz.prog (w.alloc (.map #[.mk (.string ⟨#[110, 117, 109, 98, 101, 114]⟩) (.func (.func 53) #[] #[]) 0, .mk (.string ⟨#[114, 111, 109, 97, 110]⟩) (.func (.func 54) #[] #[]) 1, .mk (.string ⟨#[97, 108, 112, 104, 97]⟩) (.func (.func 55) #[] #[]) 2, .mk (.string ⟨#[99, 108, 97, 121]⟩) (.func (.func 56) #[] #[]) 3, .mk (.string ⟨#[114, 97, 110, 107]⟩) (.func (.func 57) #[] #[]) 4] 5)) = .ok () (w.alloc (.map #[.mk (.string ⟨#[110, 117, 109, 98, 101, 114]⟩) (.func (.func 53) #[] #[]) 0, .mk (.string ⟨#[114, 111, 109, 97, 110]⟩) (.func (.func 54) #[] #[]) 1, .mk (.string ⟨#[97, 108, 112, 104, 97]⟩) (.func (.func 55) #[] #[]) 2, .mk (.string ⟨#[99, 108, 97, 121]⟩) (.func (.func 56) #[] #[]) 3, .mk (.string ⟨#[114, 97, 110, 107]⟩) (.func (.func 57) #[] #[]) 4, .mk (.string ⟨#[97, 100, 100]⟩) (.func (.func 58) #[] #[]) 5] 6)) :=
  ins_new mtR w #[.mk (.string ⟨#[110, 117, 109, 98, 101, 114]⟩) (.func (.func 53) #[] #[]) 0, .mk (.string ⟨#[114, 111, 109, 97, 110]⟩) (.func (.func 54) #[] #[]) 1, .mk (.string ⟨#[97, 108, 112, 104, 97]⟩) (.func (.func 55) #[] #[]) 2, .mk (.string ⟨#[99, 108, 97, 121]⟩) (.func (.func 56) #[] #[]) 3, .mk (.string ⟨#[114, 97, 110, 107]⟩) (.func (.func 57) #[] #[]) 4] 5 _ _ (fun W => by kernel_rfl) (fun W => by kernel_rfl)
theorem inR6 (w : World) : (Instr.mapUpdate 69 (.map (some w.heap.size)) (.string ⟨#[115, 121, 115, 116, 101, 109]⟩) (.func (.func 59) #[] #[])).run Tryz.prog (w.alloc (.map #[.mk (.string ⟨#[110, 117, 109, 98, 101, 114]⟩) (.func (.func 53) #[] #[]) 0, .mk (.string ⟨#[114, 111, 109, 97, 110]⟩) (.func (.func 54) #[] #[]) 1, .mk (.string ⟨#[97, 108, 112, 104, 97]⟩) (.func (.func 55) #[] #[]) 2, .mk (.string ⟨#[99, 108, 97, 121]⟩) (.func (.func 56) #[] #[]) 3, .mk (.string ⟨#[114, 97, 110, 107]⟩) (.func (.func 57) #[] #[]) 4, .mk (.string ⟨#[97, 100, 100]⟩) (.func (.func 58) #[] #[]) 5] 6)) = .ok () (w.alloc (.map #[.mk (.string ⟨#[110, 117, 109, 98, 101, 114]⟩) (.func (.func 53) #[] #[]) 0, .mk (.string ⟨#[114, 111, 109, 97, 110]⟩) (.func (.func 54) #[] #[]) 1, .mk (.string ⟨#[97, 108, 112, 104, 97]⟩) (.func (.func 55) #[] #[]) 2, .mk (.string ⟨#[99, 108, 97, 121]⟩) (.func (.func 56) #[] #[]) 3, .mk (.string ⟨#[114, 97, 110, 107]⟩) (.func (.func 57) #[] #[]) 4, .mk (.string ⟨#[97, 100, 100]⟩) (.func (.func 58) #[] #[]) 5, .mk (.string ⟨#[115, 121, 115, 116, 101, 109]⟩) (.func (.func 59) #[] #[]) 6] 7)) :=
  ins_new mtR w #[.mk (.string ⟨#[110, 117, 109, 98, 101, 114]⟩) (.func (.func 53) #[] #[]) 0, .mk (.string ⟨#[114, 111, 109, 97, 110]⟩) (.func (.func 54) #[] #[]) 1, .mk (.string ⟨#[97, 108, 112, 104, 97]⟩) (.func (.func 55) #[] #[]) 2, .mk (.string ⟨#[99, 108, 97, 121]⟩) (.func (.func 56) #[] #[]) 3, .mk (.string ⟨#[114, 97, 110, 107]⟩) (.func (.func 57) #[] #[]) 4, .mk (.string ⟨#[97, 100, 100]⟩) (.func (.func 58) #[] #[]) 5] 6 _ _ (fun W => by kernel_rfl) (fun W => by kernel_rfl)
theorem inR7 (w : World) : (Instr.mapUpdate 69 (.map (some w.heap.size)) (.string ⟨#[97, 115]⟩) (.func (.func 60) #[] #[])).run Tryz.prog (w.alloc (.map #[.mk (.string ⟨#[110, 117, 109, 98, 101, 114]⟩) (.func (.func 53) #[] #[]) 0, .mk (.string ⟨#[114, 111, 109, 97, 110]⟩) (.func (.func 54) #[] #[]) 1, .mk (.string ⟨#[97, 108, 112, 104, 97]⟩) (.func (.func 55) #[] #[]) 2, .mk (.string ⟨#[99, 108, 97, 121]⟩) (.func (.func 56) #[] #[]) 3, .mk (.string ⟨#[114, 97, 110, 107]⟩) (.func (.func 57) #[] #[]) 4, .mk (.string ⟨#[97, 100, 100]⟩) (.func (.func 58) #[] #[]) 5, .mk (.string ⟨#[115, 121, 115, 116, 101, 109]⟩) (.func (.func 59) #[] #[]) 6] 7)) = .ok () (w.alloc (.map #[.mk (.string ⟨#[110, 117, 109, 98, 101, 114]⟩) (.func (.func 53) #[] #[]) 0, .mk (.string ⟨#[114, 111, 109, 97, 110]⟩) (.func (.func 54) #[] #[]) 1, .mk (.string ⟨#[97, 108, 112, 104, 97]⟩) (.func (.func 55) #[] #[]) 2, .mk (.string ⟨#[99, 108, 97, 121]⟩) (.func (.func 56) #[] #[]) 3, .mk (.string ⟨#[114, 97, 110, 107]⟩) (.func (.func 57) #[] #[]) 4, .mk (.string ⟨#[97, 100, 100]⟩) (.func (.func 58) #[] #[]) 5, .mk (.string ⟨#[115, 121, 115, 116, 101, 109]⟩) (.func (.func 59) #[] #[]) 6, .mk (.string ⟨#[97, 115]⟩) (.func (.func 60) #[] #[]) 7] 8)) :=
  ins_new mtR w #[.mk (.string ⟨#[110, 117, 109, 98, 101, 114]⟩) (.func (.func 53) #[] #[]) 0, .mk (.string ⟨#[114, 111, 109, 97, 110]⟩) (.func (.func 54) #[] #[]) 1, .mk (.string ⟨#[97, 108, 112, 104, 97]⟩) (.func (.func 55) #[] #[]) 2, .mk (.string ⟨#[99, 108, 97, 121]⟩) (.func (.func 56) #[] #[]) 3, .mk (.string ⟨#[114, 97, 110, 107]⟩) (.func (.func 57) #[] #[]) 4, .mk (.string ⟨#[97, 100, 100]⟩) (.func (.func 58) #[] #[]) 5, .mk (.string ⟨#[115, 121, 115, 116, 101, 109]⟩) (.func (.func 59) #[] #[]) 6] 7 _ _ (fun W => by kernel_rfl) (fun W => by kernel_rfl)
theorem inR8 (w : World) : (Instr.mapUpdate 69 (.map (some w.heap.size)) (.string ⟨#[108, 111, 111, 115, 101]⟩) (.func (.func 61) #[] #[])).run Tryz.prog (w.alloc (.map #[.mk (.string ⟨#[110, 117, 109, 98, 101, 114]⟩) (.func (.func 53) #[] #[]) 0, .mk (.string ⟨#[114, 111, 109, 97, 110]⟩) (.func (.func 54) #[] #[]) 1, .mk (.string ⟨#[97, 108, 112, 104, 97]⟩) (.func (.func 55) #[] #[]) 2, .mk (.string ⟨#[99, 108, 97, 121]⟩) (.func (.func 56) #[] #[]) 3, .mk (.string ⟨#[114, 97, 110, 107]⟩) (.func (.func 57) #[] #[]) 4, .mk (.string ⟨#[97, 100, 100]⟩) (.func (.func 58) #[] #[]) 5, .mk (.string ⟨#[115, 121, 115, 116, 101, 109]⟩) (.func (.func 59) #[] #[]) 6, .mk (.string ⟨#[97, 115]⟩) (.func (.func 60) #[] #[]) 7] 8)) = .ok () (w.alloc (.map #[.mk (.string ⟨#[110, 117, 109, 98, 101, 114]⟩) (.func (.func 53) #[] #[]) 0, .mk (.string ⟨#[114, 111, 109, 97, 110]⟩) (.func (.func 54) #[] #[]) 1, .mk (.string ⟨#[97, 108, 112, 104, 97]⟩) (.func (.func 55) #[] #[]) 2, .mk (.string ⟨#[99, 108, 97, 121]⟩) (.func (.func 56) #[] #[]) 3, .mk (.string ⟨#[114, 97, 110, 107]⟩) (.func (.func 57) #[] #[]) 4, .mk (.string ⟨#[97, 100, 100]⟩) (.func (.func 58) #[] #[]) 5, .mk (.string ⟨#[115, 121, 115, 116, 101, 109]⟩) (.func (.func 59) #[] #[]) 6, .mk (.string ⟨#[97, 115]⟩) (.func (.func 60) #[] #[]) 7, .mk (.string ⟨#[108, 111, 111, 115, 101]⟩) (.func (.func 61) #[] #[]) 8] 9)) :=
  ins_new mtR w #[.mk (.string ⟨#[110, 117, 109, 98, 101, 114]⟩) (.func (.func 53) #[] #[]) 0, .mk (.string ⟨#[114, 111, 109, 97, 110]⟩) (.func (.func 54) #[] #[]) 1, .mk (.string ⟨#[97, 108, 112, 104, 97]⟩) (.func (.func 55) #[] #[]) 2, .mk (.string ⟨#[99, 108, 97, 121]⟩) (.func (.func 56) #[] #[]) 3, .mk (.string ⟨#[114, 97, 110, 107]⟩) (.func (.func 57) #[] #[]) 4, .mk (.string ⟨#[97, 100, 100]⟩) (.func (.func 58) #[] #[]) 5, .mk (.string ⟨#[115, 121, 115, 116, 101, 109]⟩) (.func (.func 59) #[] #[]) 6, .mk (.string ⟨#[97, 115]⟩) (.func (.func 60) #[] #[]) 7] 8 _ _ (fun W => by kernel_rfl) (fun W => by kernel_rfl)
theorem inR9 (w : World) : (Instr.mapUpdate 69 (.map (some w.heap.size)) (.string ⟨#[115, 117, 109]⟩) (.func (.func 62) #[] #[])).run Tryz.prog (w.alloc (.map #[.mk (.string ⟨#[110, 117, 109, 98, 101, 114]⟩) (.func (.func 53) #[] #[]) 0, .mk (.string ⟨#[114, 111, 109, 97, 110]⟩) (.func (.func 54) #[] #[]) 1, .mk (.string ⟨#[97, 108, 112, 104, 97]⟩) (.func (.func 55) #[] #[]) 2, .mk (.string ⟨#[99, 108, 97, 121]⟩) (.func (.func 56) #[] #[]) 3, .mk (.string ⟨#[114, 97, 110, 107]⟩) (.func (.func 57) #[] #[]) 4, .mk (.string ⟨#[97, 100, 100]⟩) (.func (.func 58) #[] #[]) 5, .mk (.string ⟨#[115, 121, 115, 116, 101, 109]⟩) (.func (.func 59) #[] #[]) 6, .mk (.string ⟨#[97, 115]⟩) (.func (.func 60) #[] #[]) 7, .mk (.string ⟨#[108, 111, 111, 115, 101]⟩) (.func (.func 61) #[] #[]) 8] 9)) = .ok () (w.alloc (.map #[.mk (.string ⟨#[110, 117, 109, 98, 101, 114]⟩) (.func (.func 53) #[] #[]) 0, .mk (.string ⟨#[114, 111, 109, 97, 110]⟩) (.func (.func 54) #[] #[]) 1, .mk (.string ⟨#[97, 108, 112, 104, 97]⟩) (.func (.func 55) #[] #[]) 2, .mk (.string ⟨#[99, 108, 97, 121]⟩) (.func (.func 56) #[] #[]) 3, .mk (.string ⟨#[114, 97, 110, 107]⟩) (.func (.func 57) #[] #[]) 4, .mk (.string ⟨#[97, 100, 100]⟩) (.func (.func 58) #[] #[]) 5, .mk (.string ⟨#[115, 121, 115, 116, 101, 109]⟩) (.func (.func 59) #[] #[]) 6, .mk (.string ⟨#[97, 115]⟩) (.func (.func 60) #[] #[]) 7, .mk (.string ⟨#[108, 111, 111, 115, 101]⟩) (.func (.func 61) #[] #[]) 8, .mk (.string ⟨#[115, 117, 109]⟩) (.func (.func 62) #[] #[]) 9] 10)) :=
  ins_new mtR w #[.mk (.string ⟨#[110, 117, 109, 98, 101, 114]⟩) (.func (.func 53) #[] #[]) 0, .mk (.string ⟨#[114, 111, 109, 97, 110]⟩) (.func (.func 54) #[] #[]) 1, .mk (.string ⟨#[97, 108, 112, 104, 97]⟩) (.func (.func 55) #[] #[]) 2, .mk (.string ⟨#[99, 108, 97, 121]⟩) (.func (.func 56) #[] #[]) 3, .mk (.string ⟨#[114, 97, 110, 107]⟩) (.func (.func 57) #[] #[]) 4, .mk (.string ⟨#[97, 100, 100]⟩) (.func (.func 58) #[] #[]) 5, .mk (.string ⟨#[115, 121, 115, 116, 101, 109]⟩) (.func (.func 59) #[] #[]) 6, .mk (.string ⟨#[97, 115]⟩) (.func (.func 60) #[] #[]) 7, .mk (.string ⟨#[108, 111, 111, 115, 101]⟩) (.func (.func 61) #[] #[]) 8] 9 _ _ (fun W => by kernel_rfl) (fun W => by kernel_rfl)
theorem inR10 (w : World) : (Instr.mapUpdate 69 (.map (some w.heap.size)) (.string ⟨#[114, 101, 97, 100, 105, 110, 103, 115]⟩) (.func (.func 63) #[] #[])).run Tryz.prog (w.alloc (.map #[.mk (.string ⟨#[110, 117, 109, 98, 101, 114]⟩) (.func (.func 53) #[] #[]) 0, .mk (.string ⟨#[114, 111, 109, 97, 110]⟩) (.func (.func 54) #[] #[]) 1, .mk (.string ⟨#[97, 108, 112, 104, 97]⟩) (.func (.func 55) #[] #[]) 2, .mk (.string ⟨#[99, 108, 97, 121]⟩) (.func (.func 56) #[] #[]) 3, .mk (.string ⟨#[114, 97, 110, 107]⟩) (.func (.func 57) #[] #[]) 4, .mk (.string ⟨#[97, 100, 100]⟩) (.func (.func 58) #[] #[]) 5, .mk (.string ⟨#[115, 121, 115, 116, 101, 109]⟩) (.func (.func 59) #[] #[]) 6, .mk (.string ⟨#[97, 115]⟩) (.func (.func 60) #[] #[]) 7, .mk (.string ⟨#[108, 111, 111, 115, 101]⟩) (.func (.func 61) #[] #[]) 8, .mk (.string ⟨#[115, 117, 109]⟩) (.func (.func 62) #[] #[]) 9] 10)) = .ok () (w.alloc (.map #[.mk (.string ⟨#[110, 117, 109, 98, 101, 114]⟩) (.func (.func 53) #[] #[]) 0, .mk (.string ⟨#[114, 111, 109, 97, 110]⟩) (.func (.func 54) #[] #[]) 1, .mk (.string ⟨#[97, 108, 112, 104, 97]⟩) (.func (.func 55) #[] #[]) 2, .mk (.string ⟨#[99, 108, 97, 121]⟩) (.func (.func 56) #[] #[]) 3, .mk (.string ⟨#[114, 97, 110, 107]⟩) (.func (.func 57) #[] #[]) 4, .mk (.string ⟨#[97, 100, 100]⟩) (.func (.func 58) #[] #[]) 5, .mk (.string ⟨#[115, 121, 115, 116, 101, 109]⟩) (.func (.func 59) #[] #[]) 6, .mk (.string ⟨#[97, 115]⟩) (.func (.func 60) #[] #[]) 7, .mk (.string ⟨#[108, 111, 111, 115, 101]⟩) (.func (.func 61) #[] #[]) 8, .mk (.string ⟨#[115, 117, 109]⟩) (.func (.func 62) #[] #[]) 9, .mk (.string ⟨#[114, 101, 97, 100, 105, 110, 103, 115]⟩) (.func (.func 63) #[] #[]) 10] 11)) :=
  ins_new mtR w #[.mk (.string ⟨#[110, 117, 109, 98, 101, 114]⟩) (.func (.func 53) #[] #[]) 0, .mk (.string ⟨#[114, 111, 109, 97, 110]⟩) (.func (.func 54) #[] #[]) 1, .mk (.string ⟨#[97, 108, 112, 104, 97]⟩) (.func (.func 55) #[] #[]) 2, .mk (.string ⟨#[99, 108, 97, 121]⟩) (.func (.func 56) #[] #[]) 3, .mk (.string ⟨#[114, 97, 110, 107]⟩) (.func (.func 57) #[] #[]) 4, .mk (.string ⟨#[97, 100, 100]⟩) (.func (.func 58) #[] #[]) 5, .mk (.string ⟨#[115, 121, 115, 116, 101, 109]⟩) (.func (.func 59) #[] #[]) 6, .mk (.string ⟨#[97, 115]⟩) (.func (.func 60) #[] #[]) 7, .mk (.string ⟨#[108, 111, 111, 115, 101]⟩) (.func (.func 61) #[] #[]) 8, .mk (.string ⟨#[115, 117, 109]⟩) (.func (.func 62) #[] #[]) 9] 10 _ _ (fun W => by kernel_rfl) (fun W => by kernel_rfl)
theorem inR11 (w : World) : (Instr.mapUpdate 69 (.map (some w.heap.size)) (.string ⟨#[107, 105, 110, 100, 115]⟩) (.func (.func 64) #[] #[])).run Tryz.prog (w.alloc (.map #[.mk (.string ⟨#[110, 117, 109, 98, 101, 114]⟩) (.func (.func 53) #[] #[]) 0, .mk (.string ⟨#[114, 111, 109, 97, 110]⟩) (.func (.func 54) #[] #[]) 1, .mk (.string ⟨#[97, 108, 112, 104, 97]⟩) (.func (.func 55) #[] #[]) 2, .mk (.string ⟨#[99, 108, 97, 121]⟩) (.func (.func 56) #[] #[]) 3, .mk (.string ⟨#[114, 97, 110, 107]⟩) (.func (.func 57) #[] #[]) 4, .mk (.string ⟨#[97, 100, 100]⟩) (.func (.func 58) #[] #[]) 5, .mk (.string ⟨#[115, 121, 115, 116, 101, 109]⟩) (.func (.func 59) #[] #[]) 6, .mk (.string ⟨#[97, 115]⟩) (.func (.func 60) #[] #[]) 7, .mk (.string ⟨#[108, 111, 111, 115, 101]⟩) (.func (.func 61) #[] #[]) 8, .mk (.string ⟨#[115, 117, 109]⟩) (.func (.func 62) #[] #[]) 9, .mk (.string ⟨#[114, 101, 97, 100, 105, 110, 103, 115]⟩) (.func (.func 63) #[] #[]) 10] 11)) = .ok () (w.alloc (.map #[.mk (.string ⟨#[110, 117, 109, 98, 101, 114]⟩) (.func (.func 53) #[] #[]) 0, .mk (.string ⟨#[114, 111, 109, 97, 110]⟩) (.func (.func 54) #[] #[]) 1, .mk (.string ⟨#[97, 108, 112, 104, 97]⟩) (.func (.func 55) #[] #[]) 2, .mk (.string ⟨#[99, 108, 97, 121]⟩) (.func (.func 56) #[] #[]) 3, .mk (.string ⟨#[114, 97, 110, 107]⟩) (.func (.func 57) #[] #[]) 4, .mk (.string ⟨#[97, 100, 100]⟩) (.func (.func 58) #[] #[]) 5, .mk (.string ⟨#[115, 121, 115, 116, 101, 109]⟩) (.func (.func 59) #[] #[]) 6, .mk (.string ⟨#[97, 115]⟩) (.func (.func 60) #[] #[]) 7, .mk (.string ⟨#[108, 111, 111, 115, 101]⟩) (.func (.func 61) #[] #[]) 8, .mk (.string ⟨#[115, 117, 109]⟩) (.func (.func 62) #[] #[]) 9, .mk (.string ⟨#[114, 101, 97, 100, 105, 110, 103, 115]⟩) (.func (.func 63) #[] #[]) 10, .mk (.string ⟨#[107, 105, 110, 100, 115]⟩) (.func (.func 64) #[] #[]) 11] 12)) :=
  ins_new mtR w #[.mk (.string ⟨#[110, 117, 109, 98, 101, 114]⟩) (.func (.func 53) #[] #[]) 0, .mk (.string ⟨#[114, 111, 109, 97, 110]⟩) (.func (.func 54) #[] #[]) 1, .mk (.string ⟨#[97, 108, 112, 104, 97]⟩) (.func (.func 55) #[] #[]) 2, .mk (.string ⟨#[99, 108, 97, 121]⟩) (.func (.func 56) #[] #[]) 3, .mk (.string ⟨#[114, 97, 110, 107]⟩) (.func (.func 57) #[] #[]) 4, .mk (.string ⟨#[97, 100, 100]⟩) (.func (.func 58) #[] #[]) 5, .mk (.string ⟨#[115, 121, 115, 116, 101, 109]⟩) (.func (.func 59) #[] #[]) 6, .mk (.string ⟨#[97, 115]⟩) (.func (.func 60) #[] #[]) 7, .mk (.string ⟨#[108, 111, 111, 115, 101]⟩) (.func (.func 61) #[] #[]) 8, .mk (.string ⟨#[115, 117, 109]⟩) (.func (.func 62) #[] #[]) 9, .mk (.string ⟨#[114, 101, 97, 100, 105, 110, 103, 115]⟩) (.func (.func 63) #[] #[]) 10] 11 _ _ (fun W => by kernel_rfl) (fun W => by kernel_rfl)
set_option maxHeartbeats 4000000 in
theorem wordsWithRest_any (w : World) : Calls Tryz.prog 41 #[] w fun e w' => e = .returned (.map (some w.heap.size)) ∧ w' = w.alloc (.map esR 12) := by
  have hmm := @run_makeMap Tryz.prog
  have h0 := inR0 w
  have h1 := inR1 w
  have h2 := inR2 w
  have h3 := inR3 w
  have h4 := inR4 w
  have h5 := inR5 w
  have h6 := inR6 w
  have h7 := inR7 w
  have h8 := inR8 w
  have h9 := inR9 w
  have h10 := inR10 w
  have h11 := inR11 w
  go_enter Tryz.func41, Tryz.ntmps41
  go_wp2_with fail
  go_ret
  exact ⟨rfl, rfl⟩
theorem lkR_number (w : World) (b : Nat) (hb : w.heap[b]? = some (.map esR 12)) : (Instr.lookup 69 (.map (some b)) (.string ⟨#[110, 117, 109, 98, 101, 114]⟩) true).run Tryz.prog w = .ok (.tuple #[.func (.func 53) #[] #[], .bool true]) w :=
  look_hit mtR w b esR 12 _ _ 0 hb (by kernel_rfl) (by kernel_rfl)
theorem lkR_roman (w : World) (b : Nat) (hb : w.heap[b]? = some (.map esR 12)) : (Instr.lookup 69 (.map (some b)) (.string ⟨#[114, 111, 109, 97, 110]⟩) true).run Tryz.prog w = .ok (.tuple #[.func (.func 54) #[] #[], .bool true]) w :=
  look_hit mtR w b esR 12 _ _ 1 hb (by kernel_rfl) (by kernel_rfl)
theorem lkR_alpha (w : World) (b : Nat) (hb : w.heap[b]? = some (.map esR 12)) : (Instr.lookup 69 (.map (some b)) (.string ⟨#[97, 108, 112, 104, 97]⟩) true).run Tryz.prog w = .ok (.tuple #[.func (.func 55) #[] #[], .bool true]) w :=
  look_hit mtR w b esR 12 _ _ 2 hb (by kernel_rfl) (by kernel_rfl)
theorem lkR_clay (w : World) (b : Nat) (hb : w.heap[b]? = some (.map esR 12)) : (Instr.lookup 69 (.map (some b)) (.string ⟨#[99, 108, 97, 121]⟩) true).run Tryz.prog w = .ok (.tuple #[.func (.func 56) #[] #[], .bool true]) w :=
  look_hit mtR w b esR 12 _ _ 3 hb (by kernel_rfl) (by kernel_rfl)
theorem lkR_rank (w : World) (b : Nat) (hb : w.heap[b]? = some (.map esR 12)) : (Instr.lookup 69 (.map (some b)) (.string ⟨#[114, 97, 110, 107]⟩) true).run Tryz.prog w = .ok (.tuple #[.func (.func 57) #[] #[], .bool true]) w :=
  look_hit mtR w b esR 12 _ _ 4 hb (by kernel_rfl) (by kernel_rfl)
theorem lkR_add (w : World) (b : Nat) (hb : w.heap[b]? = some (.map esR 12)) : (Instr.lookup 69 (.map (some b)) (.string ⟨#[97, 100, 100]⟩) true).run Tryz.prog w = .ok (.tuple #[.func (.func 58) #[] #[], .bool true]) w :=
  look_hit mtR w b esR 12 _ _ 5 hb (by kernel_rfl) (by kernel_rfl)
theorem lkR_system (w : World) (b : Nat) (hb : w.heap[b]? = some (.map esR 12)) : (Instr.lookup 69 (.map (some b)) (.string ⟨#[115, 121, 115, 116, 101, 109]⟩) true).run Tryz.prog w = .ok (.tuple #[.func (.func 59) #[] #[], .bool true]) w :=
  look_hit mtR w b esR 12 _ _ 6 hb (by kernel_rfl) (by kernel_rfl)
theorem lkR_as (w : World) (b : Nat) (hb : w.heap[b]? = some (.map esR 12)) : (Instr.lookup 69 (.map (some b)) (.string ⟨#[97, 115]⟩) true).run Tryz.prog w = .ok (.tuple #[.func (.func 60) #[] #[], .bool true]) w :=
  look_hit mtR w b esR 12 _ _ 7 hb (by kernel_rfl) (by kernel_rfl)
theorem lkR_loose (w : World) (b : Nat) (hb : w.heap[b]? = some (.map esR 12)) : (Instr.lookup 69 (.map (some b)) (.string ⟨#[108, 111, 111, 115, 101]⟩) true).run Tryz.prog w = .ok (.tuple #[.func (.func 61) #[] #[], .bool true]) w :=
  look_hit mtR w b esR 12 _ _ 8 hb (by kernel_rfl) (by kernel_rfl)
theorem lkR_sum (w : World) (b : Nat) (hb : w.heap[b]? = some (.map esR 12)) : (Instr.lookup 69 (.map (some b)) (.string ⟨#[115, 117, 109]⟩) true).run Tryz.prog w = .ok (.tuple #[.func (.func 62) #[] #[], .bool true]) w :=
  look_hit mtR w b esR 12 _ _ 9 hb (by kernel_rfl) (by kernel_rfl)
theorem lkR_readings (w : World) (b : Nat) (hb : w.heap[b]? = some (.map esR 12)) : (Instr.lookup 69 (.map (some b)) (.string ⟨#[114, 101, 97, 100, 105, 110, 103, 115]⟩) true).run Tryz.prog w = .ok (.tuple #[.func (.func 63) #[] #[], .bool true]) w :=
  look_hit mtR w b esR 12 _ _ 10 hb (by kernel_rfl) (by kernel_rfl)
theorem lkR_kinds (w : World) (b : Nat) (hb : w.heap[b]? = some (.map esR 12)) : (Instr.lookup 69 (.map (some b)) (.string ⟨#[107, 105, 110, 100, 115]⟩) true).run Tryz.prog w = .ok (.tuple #[.func (.func 64) #[] #[], .bool true]) w :=
  look_hit mtR w b esR 12 _ _ 11 hb (by kernel_rfl) (by kernel_rfl)
theorem commandOfR_at (w : World) (b : Nat) (s : ByteArray) (K : FuncId) (hl : (Instr.lookup 69 (.map (some b)) (.string s) true).run Tryz.prog w = .ok (.tuple #[.func (.func K) #[] #[], .bool true]) w) :
    Calls Tryz.prog 40 #[.map (some b), .string s] w fun e w' => e = .returned (.func (.func K) #[] #[]) ∧ w' = w := by
  go_enter Tryz.func40, Tryz.ntmps40
  go_wp2_with fail
  go_ret
  exact ⟨rfl, rfl⟩
/-- the words of wordsAlone, entered -/
abbrev esA : Array MapEntry := #[.mk (.string ⟨#[115, 104, 111, 119]⟩) (.func (.func 23) #[] #[]) 0, .mk (.string ⟨#[115, 104, 111, 114, 116]⟩) (.func (.func 65) #[] #[]) 1, .mk (.string ⟨#[108, 101, 97, 115, 116]⟩) (.func (.func 66) #[] #[]) 2, .mk (.string ⟨#[112, 105, 108, 101, 100]⟩) (.func (.func 67) #[] #[]) 3, .mk (.string ⟨#[112, 105, 108, 101]⟩) (.func (.func 68) #[] #[]) 4, .mk (.string ⟨#[116, 97, 107, 101, 110]⟩) (.func (.func 69) #[] #[]) 5, .mk (.string ⟨#[115, 97, 118, 101, 100]⟩) (.func (.func 70) #[] #[]) 6, .mk (.string ⟨#[119, 111, 114, 100]⟩) (.func (.func 71) #[] #[]) 7, .mk (.string ⟨#[100, 97, 121, 115]⟩) (.func (.func 72) #[] #[]) 8, .mk (.string ⟨#[110, 111, 117, 103, 104, 116, 115]⟩) (.func (.func 73) #[] #[]) 9, .mk (.string ⟨#[115, 105, 103, 110]⟩) (.func (.func 74) #[] #[]) 10, .mk (.string ⟨#[115, 116, 114, 111, 107, 101, 115]⟩) (.func (.func 75) #[] #[]) 11, .mk (.string ⟨#[116, 117, 114, 110, 101, 100]⟩) (.func (.func 76) #[] #[]) 12, .mk (.string ⟨#[109, 105, 114, 114, 111, 114]⟩) (.func (.func 77) #[] #[]) 13]
theorem mtA : Tryz.prog.underlying 73 = some (.map 9 71) := Tryz.underlying73
theorem inA0 (w : World) : (Instr.mapUpdate 73 (.map (some w.heap.size)) (.string ⟨#[115, 104, 111, 119]⟩) (.func (.func 23) #[] #[])).run Tryz.prog (w.alloc (.map #[] 0)) = .ok () (w.alloc (.map #[.mk (.string ⟨#[115, 104, 111, 119]⟩) (.func (.func 23) #[] #[]) 0] 1)) :=
  ins_new mtA w #[] 0 _ _ (fun W => by kernel_rfl) (fun W => by kernel_rfl)
theorem inA1 (w : World) : (Instr.mapUpdate 73 (.map (some w.heap.size)) (.string ⟨#[115, 104, 111, 114, 116]⟩) (.func (.func 65) #[] #[])).run Tryz.prog (w.alloc (.map #[.mk (.string ⟨#[115, 104, 111, 119]⟩) (.func (.func 23) #[] #[]) 0] 1)) = .ok () (w.alloc (.map #[.mk (.string ⟨#[115, 104, 111, 119]⟩) (.func (.func 23) #[] #[]) 0, .mk (.string ⟨#[115, 104, 111, 114, 116]⟩) (.func (.func 65) #[] #[]) 1] 2)) :=
  ins_new mtA w #[.mk (.string ⟨#[115, 104, 111, 119]⟩) (.func (.func 23) #[] #[]) 0] 1 _ _ (fun W => by kernel_rfl) (fun W => by kernel_rfl)
theorem inA2 (w : World) : (Instr.mapUpdate 73 (.map (some w.heap.size)) (.string ⟨#[108, 101, 97, 115, 116]⟩) (.func (.func 66) #[] #[])).run Tryz.prog (w.alloc (.map #[.mk (.string ⟨#[115, 104, 111, 119]⟩) (.func (.func 23) #[] #[]) 0, .mk (.string ⟨#[115, 104, 111, 114, 116]⟩) (.func (.func 65) #[] #[]) 1] 2)) = .ok () (w.alloc (.map #[.mk (.string ⟨#[115, 104, 111, 119]⟩) (.func (.func 23) #[] #[]) 0, .mk (.string ⟨#[115, 104, 111, 114, 116]⟩) (.func (.func 65) #[] #[]) 1, .mk (.string ⟨#[108, 101, 97, 115, 116]⟩) (.func (.func 66) #[] #[]) 2] 3)) :=
  ins_new mtA w #[.mk (.string ⟨#[115, 104, 111, 119]⟩) (.func (.func 23) #[] #[]) 0, .mk (.string ⟨#[115, 104, 111, 114, 116]⟩) (.func (.func 65) #[] #[]) 1] 2 _ _ (fun W => by kernel_rfl) (fun W => by kernel_rfl)
theorem inA3 (w : World) : (Instr.mapUpdate 73 (.map (some w.heap.size)) (.string ⟨#[112, 105, 108, 101, 100]⟩) (.func (.func 67) #[] #[])).run Tryz.prog (w.alloc (.map #[.mk (.string ⟨#[115, 104, 111, 119]⟩) (.func (.func 23) #[] #[]) 0, .mk (.string ⟨#[115, 104, 111, 114, 116]⟩) (.func (.func 65) #[] #[]) 1, .mk (.string ⟨#[108, 101, 97, 115, 116]⟩) (.func (.func 66) #[] #[]) 2] 3)) = .ok () (w.alloc (.map #[.mk (.string ⟨#[115, 104, 111, 119]⟩) (.func (.func 23) #[] #[]) 0, .mk (.string ⟨#[115, 104, 111, 114, 116]⟩) (.func (.func 65) #[] #[]) 1, .mk (.string ⟨#[108, 101, 97, 115, 116]⟩) (.func (.func 66) #[] #[]) 2, .mk (.string ⟨#[112, 105, 108, 101, 100]⟩) (.func (.func 67) #[] #[]) 3] 4)) :=
  ins_new mtA w #[.mk (.string ⟨#[115, 104, 111, 119]⟩) (.func (.func 23) #[] #[]) 0, .mk (.string ⟨#[115, 104, 111, 114, 116]⟩) (.func (.func 65) #[] #[]) 1, .mk (.string ⟨#[108, 101, 97, 115, 116]⟩) (.func (.func 66) #[] #[]) 2] 3 _ _ (fun W => by kernel_rfl) (fun W => by kernel_rfl)
theorem inA4 (w : World) : (Instr.mapUpdate 73 (.map (some w.heap.size)) (.string ⟨#[112, 105, 108, 101]⟩) (.func (.func 68) #[] #[])).run Tryz.prog (w.alloc (.map #[.mk (.string ⟨#[115, 104, 111, 119]⟩) (.func (.func 23) #[] #[]) 0, .mk (.string ⟨#[115, 104, 111, 114, 116]⟩) (.func (.func 65) #[] #[]) 1, .mk (.string ⟨#[108, 101, 97, 115, 116]⟩) (.func (.func 66) #[] #[]) 2, .mk (.string ⟨#[112, 105, 108, 101, 100]⟩) (.func (.func 67) #[] #[]) 3] 4)) = .ok () (w.alloc (.map #[.mk (.string ⟨#[115, 104, 111, 119]⟩) (.func (.func 23) #[] #[]) 0, .mk (.string ⟨#[115, 104, 111, 114, 116]⟩) (.func (.func 65) #[] #[]) 1, .mk (.string ⟨#[108, 101, 97, 115, 116]⟩) (.func (.func 66) #[] #[]) 2, .mk (.string ⟨#[112, 105, 108, 101, 100]⟩) (.func (.func 67) #[] #[]) 3, .mk (.string ⟨#[112, 105, 108, 101]⟩) (.func (.func 68) #[] #[]) 4] 5)) :=
  ins_new mtA w #[.mk (.string ⟨#[115, 104, 111, 119]⟩) (.func (.func 23) #[] #[]) 0, .mk (.string ⟨#[115, 104, 111, 114, 116]⟩) (.func (.func 65) #[] #[]) 1, .mk (.string ⟨#[108, 101, 97, 115, 116]⟩) (.func (.func 66) #[] #[]) 2, .mk (.string ⟨#[112, 105, 108, 101, 100]⟩) (.func (.func 67) #[] #[]) 3] 4 _ _ (fun W => by kernel_rfl) (fun W => by kernel_rfl)
theorem inA5 (w : World) : (Instr.mapUpdate 73 (.map (some w.heap.size)) (.string ⟨#[116, 97, 107, 101, 110]⟩) (.func (.func 69) #[] #[])).run Tryz.prog (w.alloc (.map #[.mk (.string ⟨#[115, 104, 111, 119]⟩) (.func (.func 23) #[] #[]) 0, .mk (.string ⟨#[115, 104, 111, 114, 116]⟩) (.func (.func 65) #[] #[]) 1, .mk (.string ⟨#[108, 101, 97, 115, 116]⟩) (.func (.func 66) #[] #[]) 2, .mk (.string ⟨#[112, 105, 108, 101, 100]⟩) (.func (.func 67) #[] #[]) 3, .mk (.string ⟨#[112, 105, 108, 101]⟩) (.func (.func 68) #[] #[]) 4] 5)) = .ok () (w.alloc (.map #[.mk (.string ⟨#[115, 104, 111, 119]⟩) (.func (.func 23) #[] #[]) 0, .mk (.string ⟨#[115, 104, 111, 114, 116]⟩) (.func (.func 65) #[] #[]) 1, .mk (.string ⟨#[108, 101, 97, 115, 116]⟩) (.func (.func 66) #[] #[]) 2, .mk (.string ⟨#[112, 105, 108, 101, 100]⟩) (.func (.func 67) #[] #[]) 3, .mk (.string ⟨#[112, 105, 108, 101]⟩) (.func (.func 68) #[] #[]) 4, .mk (.string ⟨#[116, 97, 107, 101, 110]⟩) (.func (.func 69) #[] #[]) 5] 6)) :=
  ins_new mtA w #[.mk (.string ⟨#[115, 104, 111, 119]⟩) (.func (.func 23) #[] #[]) 0, .mk (.string ⟨#[115, 104, 111, 114, 116]⟩) (.func (.func 65) #[] #[]) 1, .mk (.string ⟨#[108, 101, 97, 115, 116]⟩) (.func (.func 66) #[] #[]) 2, .mk (.string ⟨#[112, 105, 108, 101, 100]⟩) (.func (.func 67) #[] #[]) 3, .mk (.string ⟨#[112, 105, 108, 101]⟩) (.func (.func 68) #[] #[]) 4] 5 _ _ (fun W => by kernel_rfl) (fun W => by kernel_rfl)
theorem inA6 (w : World) : (Instr.mapUpdate 73 (.map (some w.heap.size)) (.string ⟨#[115, 97, 118, 101, 100]⟩) (.func (.func 70) #[] #[])).run Tryz.prog (w.alloc (.map #[.mk (.string ⟨#[115, 104, 111, 119]⟩) (.func (.func 23) #[] #[]) 0, .mk (.string ⟨#[115, 104, 111, 114, 116]⟩) (.func (.func 65) #[] #[]) 1, .mk (.string ⟨#[108, 101, 97, 115, 116]⟩) (.func (.func 66) #[] #[]) 2, .mk (.string ⟨#[112, 105, 108, 101, 100]⟩) (.func (.func 67) #[] #[]) 3, .mk (.string ⟨#[112, 105, 108, 101]⟩) (.func (.func 68) #[] #[]) 4, .mk (.string ⟨#[116, 97, 107, 101, 110]⟩) (.func (.func 69) #[] #[]) 5] 6)) = .ok () (w.alloc (.map #[.mk (.string ⟨#[115, 104, 111, 119]⟩) (.func (.func 23) #[] #[]) 0, .mk (.string ⟨#[115, 104, 111, 114, 116]⟩) (.func (.func 65) #[] #[]) 1, .mk (.string ⟨#[108, 101, 97, 115, 116]⟩) (.func (.func 66) #[] #[]) 2, .mk (.string ⟨#[112, 105, 108, 101, 100]⟩) (.func (.func 67) #[] #[]) 3, .mk (.string ⟨#[112, 105, 108, 101]⟩) (.func (.func 68) #[] #[]) 4, .mk (.string ⟨#[116, 97, 107, 101, 110]⟩) (.func (.func 69) #[] #[]) 5, .mk (.string ⟨#[115, 97, 118, 101, 100]⟩) (.func (.func 70) #[] #[]) 6] 7)) :=
  ins_new mtA w #[.mk (.string ⟨#[115, 104, 111, 119]⟩) (.func (.func 23) #[] #[]) 0, .mk (.string ⟨#[115, 104, 111, 114, 116]⟩) (.func (.func 65) #[] #[]) 1, .mk (.string ⟨#[108, 101, 97, 115, 116]⟩) (.func (.func 66) #[] #[]) 2, .mk (.string ⟨#[112, 105, 108, 101, 100]⟩) (.func (.func 67) #[] #[]) 3, .mk (.string ⟨#[112, 105, 108, 101]⟩) (.func (.func 68) #[] #[]) 4, .mk (.string ⟨#[116, 97, 107, 101, 110]⟩) (.func (.func 69) #[] #[]) 5] 6 _ _ (fun W => by kernel_rfl) (fun W => by kernel_rfl)
theorem inA7 (w : World) : (Instr.mapUpdate 73 (.map (some w.heap.size)) (.string ⟨#[119, 111, 114, 100]⟩) (.func (.func 71) #[] #[])).run Tryz.prog (w.alloc (.map #[.mk (.string ⟨#[115, 104, 111, 119]⟩) (.func (.func 23) #[] #[]) 0, .mk (.string ⟨#[115, 104, 111, 114, 116]⟩) (.func (.func 65) #[] #[]) 1, .mk (.string ⟨#[108, 101, 97, 115, 116]⟩) (.func (.func 66) #[] #[]) 2, .mk (.string ⟨#[112, 105, 108, 101, 100]⟩) (.func (.func 67) #[] #[]) 3, .mk (.string ⟨#[112, 105, 108, 101]⟩) (.func (.func 68) #[] #[]) 4, .mk (.string ⟨#[116, 97, 107, 101, 110]⟩) (.func (.func 69) #[] #[]) 5, .mk (.string ⟨#[115, 97, 118, 101, 100]⟩) (.func (.func 70) #[] #[]) 6] 7)) = .ok () (w.alloc (.map #[.mk (.string ⟨#[115, 104, 111, 119]⟩) (.func (.func 23) #[] #[]) 0, .mk (.string ⟨#[115, 104, 111, 114, 116]⟩) (.func (.func 65) #[] #[]) 1, .mk (.string ⟨#[108, 101, 97, 115, 116]⟩) (.func (.func 66) #[] #[]) 2, .mk (.string ⟨#[112, 105, 108, 101, 100]⟩) (.func (.func 67) #[] #[]) 3, .mk (.string ⟨#[112, 105, 108, 101]⟩) (.func (.func 68) #[] #[]) 4, .mk (.string ⟨#[116, 97, 107, 101, 110]⟩) (.func (.func 69) #[] #[]) 5, .mk (.string ⟨#[115, 97, 118, 101, 100]⟩) (.func (.func 70) #[] #[]) 6, .mk (.string ⟨#[119, 111, 114, 100]⟩) (.func (.func 71) #[] #[]) 7] 8)) :=
  ins_new mtA w #[.mk (.string ⟨#[115, 104, 111, 119]⟩) (.func (.func 23) #[] #[]) 0, .mk (.string ⟨#[115, 104, 111, 114, 116]⟩) (.func (.func 65) #[] #[]) 1, .mk (.string ⟨#[108, 101, 97, 115, 116]⟩) (.func (.func 66) #[] #[]) 2, .mk (.string ⟨#[112, 105, 108, 101, 100]⟩) (.func (.func 67) #[] #[]) 3, .mk (.string ⟨#[112, 105, 108, 101]⟩) (.func (.func 68) #[] #[]) 4, .mk (.string ⟨#[116, 97, 107, 101, 110]⟩) (.func (.func 69) #[] #[]) 5, .mk (.string ⟨#[115, 97, 118, 101, 100]⟩) (.func (.func 70) #[] #[]) 6] 7 _ _ (fun W => by kernel_rfl) (fun W => by kernel_rfl)
theorem inA8 (w : World) : (Instr.mapUpdate 73 (.map (some w.heap.size)) (.string ⟨#[100, 97, 121, 115]⟩) (.func (.func 72) #[] #[])).run Tryz.prog (w.alloc (.map #[.mk (.string ⟨#[115, 104, 111, 119]⟩) (.func (.func 23) #[] #[]) 0, .mk (.string ⟨#[115, 104, 111, 114, 116]⟩) (.func (.func 65) #[] #[]) 1, .mk (.string ⟨#[108, 101, 97, 115, 116]⟩) (.func (.func 66) #[] #[]) 2, .mk (.string ⟨#[112, 105, 108, 101, 100]⟩) (.func (.func 67) #[] #[]) 3, .mk (.string ⟨#[112, 105, 108, 101]⟩) (.func (.func 68) #[] #[]) 4, .mk (.string ⟨#[116, 97, 107, 101, 110]⟩) (.func (.func 69) #[] #[]) 5, .mk (.string ⟨#[115, 97, 118, 101, 100]⟩) (.func (.func 70) #[] #[]) 6, .mk (.string ⟨#[119, 111, 114, 100]⟩) (.func (.func 71) #[] #[]) 7] 8)) = .ok () (w.alloc (.map #[.mk (.string ⟨#[115, 104, 111, 119]⟩) (.func (.func 23) #[] #[]) 0, .mk (.string ⟨#[115, 104, 111, 114, 116]⟩) (.func (.func 65) #[] #[]) 1, .mk (.string ⟨#[108, 101, 97, 115, 116]⟩) (.func (.func 66) #[] #[]) 2, .mk (.string ⟨#[112, 105, 108, 101, 100]⟩) (.func (.func 67) #[] #[]) 3, .mk (.string ⟨#[112, 105, 108, 101]⟩) (.func (.func 68) #[] #[]) 4, .mk (.string ⟨#[116, 97, 107, 101, 110]⟩) (.func (.func 69) #[] #[]) 5, .mk (.string ⟨#[115, 97, 118, 101, 100]⟩) (.func (.func 70) #[] #[]) 6, .mk (.string ⟨#[119, 111, 114, 100]⟩) (.func (.func 71) #[] #[]) 7, .mk (.string ⟨#[100, 97, 121, 115]⟩) (.func (.func 72) #[] #[]) 8] 9)) :=
  ins_new mtA w #[.mk (.string ⟨#[115, 104, 111, 119]⟩) (.func (.func 23) #[] #[]) 0, .mk (.string ⟨#[115, 104, 111, 114, 116]⟩) (.func (.func 65) #[] #[]) 1, .mk (.string ⟨#[108, 101, 97, 115, 116]⟩) (.func (.func 66) #[] #[]) 2, .mk (.string ⟨#[112, 105, 108, 101, 100]⟩) (.func (.func 67) #[] #[]) 3, .mk (.string ⟨#[112, 105, 108, 101]⟩) (.func (.func 68) #[] #[]) 4, .mk (.string ⟨#[116, 97, 107, 101, 110]⟩) (.func (.func 69) #[] #[]) 5, .mk (.string ⟨#[115, 97, 118, 101, 100]⟩) (.func (.func 70) #[] #[]) 6, .mk (.string ⟨#[119, 111, 114, 100]⟩) (.func (.func 71) #[] #[]) 7] 8 _ _ (fun W => by kernel_rfl) (fun W => by kernel_rfl)
theorem inA9 (w : World) : (Instr.mapUpdate 73 (.map (some w.heap.size)) (.string ⟨#[110, 111, 117, 103, 104, 116, 115]⟩) (.func (.func 73) #[] #[])).run Tryz.prog (w.alloc (.map #[.mk (.string ⟨#[115, 104, 111, 119]⟩) (.func (.func 23) #[] #[]) 0, .mk (.string ⟨#[115, 104, 111, 114, 116]⟩) (.func (.func 65) #[] #[]) 1, .mk (.string ⟨#[108, 101, 97, 115, 116]⟩) (.func (.func 66) #[] #[]) 2, .mk (.string ⟨#[112, 105, 108, 101, 100]⟩) (.func (.func 67) #[] #[]) 3, .mk (.string ⟨#[112, 105, 108, 101]⟩) (.func (.func 68) #[] #[]) 4, .mk (.string ⟨#[116, 97, 107, 101, 110]⟩) (.func (.func 69) #[] #[]) 5, .mk (.string ⟨#[115, 97, 118, 101, 100]⟩) (.func (.func 70) #[] #[]) 6, .mk (.string ⟨#[119, 111, 114, 100]⟩) (.func (.func 71) #[] #[]) 7, .mk (.string ⟨#[100, 97, 121, 115]⟩) (.func (.func 72) #[] #[]) 8] 9)) = .ok () (w.alloc (.map #[.mk (.string ⟨#[115, 104, 111, 119]⟩) (.func (.func 23) #[] #[]) 0, .mk (.string ⟨#[115, 104, 111, 114, 116]⟩) (.func (.func 65) #[] #[]) 1, .mk (.string ⟨#[108, 101, 97, 115, 116]⟩) (.func (.func 66) #[] #[]) 2, .mk (.string ⟨#[112, 105, 108, 101, 100]⟩) (.func (.func 67) #[] #[]) 3, .mk (.string ⟨#[112, 105, 108, 101]⟩) (.func (.func 68) #[] #[]) 4, .mk (.string ⟨#[116, 97, 107, 101, 110]⟩) (.func (.func 69) #[] #[]) 5, .mk (.string ⟨#[115, 97, 118, 101, 100]⟩) (.func (.func 70) #[] #[]) 6, .mk (.string ⟨#[119, 111, 114, 100]⟩) (.func (.func 71) #[] #[]) 7, .mk (.string ⟨#[100, 97, 121, 115]⟩) (.func (.func 72) #[] #[]) 8, .mk (.string ⟨#[110, 111, 117, 103, 104, 116, 115]⟩) (.func (.func 73) #[] #[]) 9] 10)) :=
  ins_new mtA w #[.mk (.string ⟨#[115, 104, 111, 119]⟩) (.func (.func 23) #[] #[]) 0, .mk (.string ⟨#[115, 104, 111, 114, 116]⟩) (.func (.func 65) #[] #[]) 1, .mk (.string ⟨#[108, 101, 97, 115, 116]⟩) (.func (.func 66) #[] #[]) 2, .mk (.string ⟨#[112, 105, 108, 101, 100]⟩) (.func (.func 67) #[] #[]) 3, .mk (.string ⟨#[112, 105, 108, 101]⟩) (.func (.func 68) #[] #[]) 4, .mk (.string ⟨#[116, 97, 107, 101, 110]⟩) (.func (.func 69) #[] #[]) 5, .mk (.string ⟨#[115, 97, 118, 101, 100]⟩) (.func (.func 70) #[] #[]) 6, .mk (.string ⟨#[119, 111, 114, 100]⟩) (.func (.func 71) #[] #[]) 7, .mk (.string ⟨#[100, 97, 121, 115]⟩) (.func (.func 72) #[] #[]) 8] 9 _ _ (fun W => by kernel_rfl) (fun W => by kernel_rfl)
theorem inA10 (w : World) : (Instr.mapUpdate 73 (.map (some w.heap.size)) (.string ⟨#[115, 105, 103, 110]⟩) (.func (.func 74) #[] #[])).run Tryz.prog (w.alloc (.map #[.mk (.string ⟨#[115, 104, 111, 119]⟩) (.func (.func 23) #[] #[]) 0, .mk (.string ⟨#[115, 104, 111, 114, 116]⟩) (.func (.func 65) #[] #[]) 1, .mk (.string ⟨#[108, 101, 97, 115, 116]⟩) (.func (.func 66) #[] #[]) 2, .mk (.string ⟨#[112, 105, 108, 101, 100]⟩) (.func (.func 67) #[] #[]) 3, .mk (.string ⟨#[112, 105, 108, 101]⟩) (.func (.func 68) #[] #[]) 4, .mk (.string ⟨#[116, 97, 107, 101, 110]⟩) (.func (.func 69) #[] #[]) 5, .mk (.string ⟨#[115, 97, 118, 101, 100]⟩) (.func (.func 70) #[] #[]) 6, .mk (.string ⟨#[119, 111, 114, 100]⟩) (.func (.func 71) #[] #[]) 7, .mk (.string ⟨#[100, 97, 121, 115]⟩) (.func (.func 72) #[] #[]) 8, .mk (.string ⟨#[110, 111, 117, 103, 104, 116, 115]⟩) (.func (.func 73) #[] #[]) 9] 10)) = .ok () (w.alloc (.map #[.mk (.string ⟨#[115, 104, 111, 119]⟩) (.func (.func 23) #[] #[]) 0, .mk (.string ⟨#[115, 104, 111, 114, 116]⟩) (.func (.func 65) #[] #[]) 1, .mk (.string ⟨#[108, 101, 97, 115, 116]⟩) (.func (.func 66) #[] #[]) 2, .mk (.string ⟨#[112, 105, 108, 101, 100]⟩) (.func (.func 67) #[] #[]) 3, .mk (.string ⟨#[112, 105, 108, 101]⟩) (.func (.func 68) #[] #[]) 4, .mk (.string ⟨#[116, 97, 107, 101, 110]⟩) (.func (.func 69) #[] #[]) 5, .mk (.string ⟨#[115, 97, 118, 101, 100]⟩) (.func (.func 70) #[] #[]) 6, .mk (.string ⟨#[119, 111, 114, 100]⟩) (.func (.func 71) #[] #[]) 7, .mk (.string ⟨#[100, 97, 121, 115]⟩) (.func (.func 72) #[] #[]) 8, .mk (.string ⟨#[110, 111, 117, 103, 104, 116, 115]⟩) (.func (.func 73) #[] #[]) 9, .mk (.string ⟨#[115, 105, 103, 110]⟩) (.func (.func 74) #[] #[]) 10] 11)) :=
  ins_new mtA w #[.mk (.string ⟨#[115, 104, 111, 119]⟩) (.func (.func 23) #[] #[]) 0, .mk (.string ⟨#[115, 104, 111, 114, 116]⟩) (.func (.func 65) #[] #[]) 1, .mk (.string ⟨#[108, 101, 97, 115, 116]⟩) (.func (.func 66) #[] #[]) 2, .mk (.string ⟨#[112, 105, 108, 101, 100]⟩) (.func (.func 67) #[] #[]) 3, .mk (.string ⟨#[112, 105, 108, 101]⟩) (.func (.func 68) #[] #[]) 4, .mk (.string ⟨#[116, 97, 107, 101, 110]⟩) (.func (.func 69) #[] #[]) 5, .mk (.string ⟨#[115, 97, 118, 101, 100]⟩) (.func (.func 70) #[] #[]) 6, .mk (.string ⟨#[119, 111, 114, 100]⟩) (.func (.func 71) #[] #[]) 7, .mk (.string ⟨#[100, 97, 121, 115]⟩) (.func (.func 72) #[] #[]) 8, .mk (.string ⟨#[110, 111, 117, 103, 104, 116, 115]⟩) (.func (.func 73) #[] #[]) 9] 10 _ _ (fun W => by kernel_rfl) (fun W => by kernel_rfl)
theorem inA11 (w : World) : (Instr.mapUpdate 73 (.map (some w.heap.size)) (.string ⟨#[115, 116, 114, 111, 107, 101, 115]⟩) (.func (.func 75) #[] #[])).run Tryz.prog (w.alloc (.map #[.mk (.string ⟨#[115, 104, 111, 119]⟩) (.func (.func 23) #[] #[]) 0, .mk (.string ⟨#[115, 104, 111, 114, 116]⟩) (.func (.func 65) #[] #[]) 1, .mk (.string ⟨#[108, 101, 97, 115, 116]⟩) (.func (.func 66) #[] #[]) 2, .mk (.string ⟨#[112, 105, 108, 101, 100]⟩) (.func (.func 67) #[] #[]) 3, .mk (.string ⟨#[112, 105, 108, 101]⟩) (.func (.func 68) #[] #[]) 4, .mk (.string ⟨#[116, 97, 107, 101, 110]⟩) (.func (.func 69) #[] #[]) 5, .mk (.string ⟨#[115, 97, 118, 101, 100]⟩) (.func (.func 70) #[] #[]) 6, .mk (.string ⟨#[119, 111, 114, 100]⟩) (.func (.func 71) #[] #[]) 7, .mk (.string ⟨#[100, 97, 121, 115]⟩) (.func (.func 72) #[] #[]) 8, .mk (.string ⟨#[110, 111, 117, 103, 104, 116, 115]⟩) (.func (.func 73) #[] #[]) 9, .mk (.string ⟨#[115, 105, 103, 110]⟩) (.func (.func 74) #[] #[]) 10] 11)) = .ok () (w.alloc (.map #[.mk (.string ⟨#[115, 104, 111, 119]⟩) (.func (.func 23) #[] #[]) 0, .mk (.string ⟨#[115, 104, 111, 114, 116]⟩) (.func (.func 65) #[] #[]) 1, .mk (.string ⟨#[108, 101, 97, 115, 116]⟩) (.func (.func 66) #[] #[]) 2, .mk (.string ⟨#[112, 105, 108, 101, 100]⟩) (.func (.func 67) #[] #[]) 3, .mk (.string ⟨#[112, 105, 108, 101]⟩) (.func (.func 68) #[] #[]) 4, .mk (.string ⟨#[116, 97, 107, 101, 110]⟩) (.func (.func 69) #[] #[]) 5, .mk (.string ⟨#[115, 97, 118, 101, 100]⟩) (.func (.func 70) #[] #[]) 6, .mk (.string ⟨#[119, 111, 114, 100]⟩) (.func (.func 71) #[] #[]) 7, .mk (.string ⟨#[100, 97, 121, 115]⟩) (.func (.func 72) #[] #[]) 8, .mk (.string ⟨#[110, 111, 117, 103, 104, 116, 115]⟩) (.func (.func 73) #[] #[]) 9, .mk (.string ⟨#[115, 105, 103, 110]⟩) (.func (.func 74) #[] #[]) 10, .mk (.string ⟨#[115, 116, 114, 111, 107, 101, 115]⟩) (.func (.func 75) #[] #[]) 11] 12)) :=
  ins_new mtA w #[.mk (.string ⟨#[115, 104, 111, 119]⟩) (.func (.func 23) #[] #[]) 0, .mk (.string ⟨#[115, 104, 111, 114, 116]⟩) (.func (.func 65) #[] #[]) 1, .mk (.string ⟨#[108, 101, 97, 115, 116]⟩) (.func (.func 66) #[] #[]) 2, .mk (.string ⟨#[112, 105, 108, 101, 100]⟩) (.func (.func 67) #[] #[]) 3, .mk (.string ⟨#[112, 105, 108, 101]⟩) (.func (.func 68) #[] #[]) 4, .mk (.string ⟨#[116, 97, 107, 101, 110]⟩) (.func (.func 69) #[] #[]) 5, .mk (.string ⟨#[115, 97, 118, 101, 100]⟩) (.func (.func 70) #[] #[]) 6, .mk (.string ⟨#[119, 111, 114, 100]⟩) (.func (.func 71) #[] #[]) 7, .mk (.string ⟨#[100, 97, 121, 115]⟩) (.func (.func 72) #[] #[]) 8, .mk (.string ⟨#[110, 111, 117, 103, 104, 116, 115]⟩) (.func (.func 73) #[] #[]) 9, .mk (.string ⟨#[115, 105, 103, 110]⟩) (.func (.func 74) #[] #[]) 10] 11 _ _ (fun W => by kernel_rfl) (fun W => by kernel_rfl)
theorem inA12 (w : World) : (Instr.mapUpdate 73 (.map (some w.heap.size)) (.string ⟨#[116, 117, 114, 110, 101, 100]⟩) (.func (.func 76) #[] #[])).run Tryz.prog (w.alloc (.map #[.mk (.string ⟨#[115, 104, 111, 119]⟩) (.func (.func 23) #[] #[]) 0, .mk (.string ⟨#[115, 104, 111, 114, 116]⟩) (.func (.func 65) #[] #[]) 1, .mk (.string ⟨#[108, 101, 97, 115, 116]⟩) (.func (.func 66) #[] #[]) 2, .mk (.string ⟨#[112, 105, 108, 101, 100]⟩) (.func (.func 67) #[] #[]) 3, .mk (.string ⟨#[112, 105, 108, 101]⟩) (.func (.func 68) #[] #[]) 4, .mk (.string ⟨#[116, 97, 107, 101, 110]⟩) (.func (.func 69) #[] #[]) 5, .mk (.string ⟨#[115, 97, 118, 101, 100]⟩) (.func (.func 70) #[] #[]) 6, .mk (.string ⟨#[119, 111, 114, 100]⟩) (.func (.func 71) #[] #[]) 7, .mk (.string ⟨#[100, 97, 121, 115]⟩) (.func (.func 72) #[] #[]) 8, .mk (.string ⟨#[110, 111, 117, 103, 104, 116, 115]⟩) (.func (.func 73) #[] #[]) 9, .mk (.string ⟨#[115, 105, 103, 110]⟩) (.func (.func 74) #[] #[]) 10, .mk (.string ⟨#[115, 116, 114, 111, 107, 101, 115]⟩) (.func (.func 75) #[] #[]) 11] 12)) = .ok () (w.alloc (.map #[.mk (.string ⟨#[115, 104, 111, 119]⟩) (.func (.func 23) #[] #[]) 0, .mk (.string ⟨#[115, 104, 111, 114, 116]⟩) (.func (.func 65) #[] #[]) 1, .mk (.string ⟨#[108, 101, 97, 115, 116]⟩) (.func (.func 66) #[] #[]) 2, .mk (.string ⟨#[112, 105, 108, 101, 100]⟩) (.func (.func 67) #[] #[]) 3, .mk (.string ⟨#[112, 105, 108, 101]⟩) (.func (.func 68) #[] #[]) 4, .mk (.string ⟨#[116, 97, 107, 101, 110]⟩) (.func (.func 69) #[] #[]) 5, .mk (.string ⟨#[115, 97, 118, 101, 100]⟩) (.func (.func 70) #[] #[]) 6, .mk (.string ⟨#[119, 111, 114, 100]⟩) (.func (.func 71) #[] #[]) 7, .mk (.string ⟨#[100, 97, 121, 115]⟩) (.func (.func 72) #[] #[]) 8, .mk (.string ⟨#[110, 111, 117, 103, 104, 116, 115]⟩) (.func (.func 73) #[] #[]) 9, .mk (.string ⟨#[115, 105, 103, 110]⟩) (.func (.func 74) #[] #[]) 10, .mk (.string ⟨#[115, 116, 114, 111, 107, 101, 115]⟩) (.func (.func 75) #[] #[]) 11, .mk (.string ⟨#[116, 117, 114, 110, 101, 100]⟩) (.func (.func 76) #[] #[]) 12] 13)) :=
  ins_new mtA w #[.mk (.string ⟨#[115, 104, 111, 119]⟩) (.func (.func 23) #[] #[]) 0, .mk (.string ⟨#[115, 104, 111, 114, 116]⟩) (.func (.func 65) #[] #[]) 1, .mk (.string ⟨#[108, 101, 97, 115, 116]⟩) (.func (.func 66) #[] #[]) 2, .mk (.string ⟨#[112, 105, 108, 101, 100]⟩) (.func (.func 67) #[] #[]) 3, .mk (.string ⟨#[112, 105, 108, 101]⟩) (.func (.func 68) #[] #[]) 4, .mk (.string ⟨#[116, 97, 107, 101, 110]⟩) (.func (.func 69) #[] #[]) 5, .mk (.string ⟨#[115, 97, 118, 101, 100]⟩) (.func (.func 70) #[] #[]) 6, .mk (.string ⟨#[119, 111, 114, 100]⟩) (.func (.func 71) #[] #[]) 7, .mk (.string ⟨#[100, 97, 121, 115]⟩) (.func (.func 72) #[] #[]) 8, .mk (.string ⟨#[110, 111, 117, 103, 104, 116, 115]⟩) (.func (.func 73) #[] #[]) 9, .mk (.string ⟨#[115, 105, 103, 110]⟩) (.func (.func 74) #[] #[]) 10, .mk (.string ⟨#[115, 116, 114, 111, 107, 101, 115]⟩) (.func (.func 75) #[] #[]) 11] 12 _ _ (fun W => by kernel_rfl) (fun W => by kernel_rfl)
theorem inA13 (w : World) : (Instr.mapUpdate 73 (.map (some w.heap.size)) (.string ⟨#[109, 105, 114, 114, 111, 114]⟩) (.func (.func 77) #[] #[])).run Tryz.prog (w.alloc (.map #[.mk (.string ⟨#[115, 104, 111, 119]⟩) (.func (.func 23) #[] #[]) 0, .mk (.string ⟨#[115, 104, 111, 114, 116]⟩) (.func (.func 65) #[] #[]) 1, .mk (.string ⟨#[108, 101, 97, 115, 116]⟩) (.func (.func 66) #[] #[]) 2, .mk (.string ⟨#[112, 105, 108, 101, 100]⟩) (.func (.func 67) #[] #[]) 3, .mk (.string ⟨#[112, 105, 108, 101]⟩) (.func (.func 68) #[] #[]) 4, .mk (.string ⟨#[116, 97, 107, 101, 110]⟩) (.func (.func 69) #[] #[]) 5, .mk (.string ⟨#[115, 97, 118, 101, 100]⟩) (.func (.func 70) #[] #[]) 6, .mk (.string ⟨#[119, 111, 114, 100]⟩) (.func (.func 71) #[] #[]) 7, .mk (.string ⟨#[100, 97, 121, 115]⟩) (.func (.func 72) #[] #[]) 8, .mk (.string ⟨#[110, 111, 117, 103, 104, 116, 115]⟩) (.func (.func 73) #[] #[]) 9, .mk (.string ⟨#[115, 105, 103, 110]⟩) (.func (.func 74) #[] #[]) 10, .mk (.string ⟨#[115, 116, 114, 111, 107, 101, 115]⟩) (.func (.func 75) #[] #[]) 11, .mk (.string ⟨#[116, 117, 114, 110, 101, 100]⟩) (.func (.func 76) #[] #[]) 12] 13)) = .ok () (w.alloc (.map #[.mk (.string ⟨#[115, 104, 111, 119]⟩) (.func (.func 23) #[] #[]) 0, .mk (.string ⟨#[115, 104, 111, 114, 116]⟩) (.func (.func 65) #[] #[]) 1, .mk (.string ⟨#[108, 101, 97, 115, 116]⟩) (.func (.func 66) #[] #[]) 2, .mk (.string ⟨#[112, 105, 108, 101, 100]⟩) (.func (.func 67) #[] #[]) 3, .mk (.string ⟨#[112, 105, 108, 101]⟩) (.func (.func 68) #[] #[]) 4, .mk (.string ⟨#[116, 97, 107, 101, 110]⟩) (.func (.func 69) #[] #[]) 5, .mk (.string ⟨#[115, 97, 118, 101, 100]⟩) (.func (.func 70) #[] #[]) 6, .mk (.string ⟨#[119, 111, 114, 100]⟩) (.func (.func 71) #[] #[]) 7, .mk (.string ⟨#[100, 97, 121, 115]⟩) (.func (.func 72) #[] #[]) 8, .mk (.string ⟨#[110, 111, 117, 103, 104, 116, 115]⟩) (.func (.func 73) #[] #[]) 9, .mk (.string ⟨#[115, 105, 103, 110]⟩) (.func (.func 74) #[] #[]) 10, .mk (.string ⟨#[115, 116, 114, 111, 107, 101, 115]⟩) (.func (.func 75) #[] #[]) 11, .mk (.string ⟨#[116, 117, 114, 110, 101, 100]⟩) (.func (.func 76) #[] #[]) 12, .mk (.string ⟨#[109, 105, 114, 114, 111, 114]⟩) (.func (.func 77) #[] #[]) 13] 14)) :=
  ins_new mtA w #[.mk (.string ⟨#[115, 104, 111, 119]⟩) (.func (.func 23) #[] #[]) 0, .mk (.string ⟨#[115, 104, 111, 114, 116]⟩) (.func (.func 65) #[] #[]) 1, .mk (.string ⟨#[108, 101, 97, 115, 116]⟩) (.func (.func 66) #[] #[]) 2, .mk (.string ⟨#[112, 105, 108, 101, 100]⟩) (.func (.func 67) #[] #[]) 3, .mk (.string ⟨#[112, 105, 108, 101]⟩) (.func (.func 68) #[] #[]) 4, .mk (.string ⟨#[116, 97, 107, 101, 110]⟩) (.func (.func 69) #[] #[]) 5, .mk (.string ⟨#[115, 97, 118, 101, 100]⟩) (.func (.func 70) #[] #[]) 6, .mk (.string ⟨#[119, 111, 114, 100]⟩) (.func (.func 71) #[] #[]) 7, .mk (.string ⟨#[100, 97, 121, 115]⟩) (.func (.func 72) #[] #[]) 8, .mk (.string ⟨#[110, 111, 117, 103, 104, 116, 115]⟩) (.func (.func 73) #[] #[]) 9, .mk (.string ⟨#[115, 105, 103, 110]⟩) (.func (.func 74) #[] #[]) 10, .mk (.string ⟨#[115, 116, 114, 111, 107, 101, 115]⟩) (.func (.func 75) #[] #[]) 11, .mk (.string ⟨#[116, 117, 114, 110, 101, 100]⟩) (.func (.func 76) #[] #[]) 12] 13 _ _ (fun W => by kernel_rfl) (fun W => by kernel_rfl)
set_option maxHeartbeats 4000000 in
theorem wordsAlone_any (w : World) : Calls Tryz.prog 43 #[] w fun e w' => e = .returned (.map (some w.heap.size)) ∧ w' = w.alloc (.map esA 14) := by
  have hmm := @run_makeMap Tryz.prog
  have h0 := inA0 w
  have h1 := inA1 w
  have h2 := inA2 w
  have h3 := inA3 w
  have h4 := inA4 w
  have h5 := inA5 w
  have h6 := inA6 w
  have h7 := inA7 w
  have h8 := inA8 w
  have h9 := inA9 w
  have h10 := inA10 w
  have h11 := inA11 w
  have h12 := inA12 w
  have h13 := inA13 w
  go_enter Tryz.func43, Tryz.ntmps43
  go_wp2_with fail
  go_ret
  exact ⟨rfl, rfl⟩
theorem lkA_show (w : World) (b : Nat) (hb : w.heap[b]? = some (.map esA 14)) : (Instr.lookup 73 (.map (some b)) (.string ⟨#[115, 104, 111, 119]⟩) true).run Tryz.prog w = .ok (.tuple #[.func (.func 23) #[] #[], .bool true]) w :=
  look_hit mtA w b esA 14 _ _ 0 hb (by kernel_rfl) (by kernel_rfl)
theorem lkA_short (w : World) (b : Nat) (hb : w.heap[b]? = some (.map esA 14)) : (Instr.lookup 73 (.map (some b)) (.string ⟨#[115, 104, 111, 114, 116]⟩) true).run Tryz.prog w = .ok (.tuple #[.func (.func 65) #[] #[], .bool true]) w :=
  look_hit mtA w b esA 14 _ _ 1 hb (by kernel_rfl) (by kernel_rfl)
theorem lkA_least (w : World) (b : Nat) (hb : w.heap[b]? = some (.map esA 14)) : (Instr.lookup 73 (.map (some b)) (.string ⟨#[108, 101, 97, 115, 116]⟩) true).run Tryz.prog w = .ok (.tuple #[.func (.func 66) #[] #[], .bool true]) w :=
  look_hit mtA w b esA 14 _ _ 2 hb (by kernel_rfl) (by kernel_rfl)
theorem lkA_piled (w : World) (b : Nat) (hb : w.heap[b]? = some (.map esA 14)) : (Instr.lookup 73 (.map (some b)) (.string ⟨#[112, 105, 108, 101, 100]⟩) true).run Tryz.prog w = .ok (.tuple #[.func (.func 67) #[] #[], .bool true]) w :=
  look_hit mtA w b esA 14 _ _ 3 hb (by kernel_rfl) (by kernel_rfl)
theorem lkA_pile (w : World) (b : Nat) (hb : w.heap[b]? = some (.map esA 14)) : (Instr.lookup 73 (.map (some b)) (.string ⟨#[112, 105, 108, 101]⟩) true).run Tryz.prog w = .ok (.tuple #[.func (.func 68) #[] #[], .bool true]) w :=
  look_hit mtA w b esA 14 _ _ 4 hb (by kernel_rfl) (by kernel_rfl)
theorem lkA_taken (w : World) (b : Nat) (hb : w.heap[b]? = some (.map esA 14)) : (Instr.lookup 73 (.map (some b)) (.string ⟨#[116, 97, 107, 101, 110]⟩) true).run Tryz.prog w = .ok (.tuple #[.func (.func 69) #[] #[], .bool true]) w :=
  look_hit mtA w b esA 14 _ _ 5 hb (by kernel_rfl) (by kernel_rfl)
theorem lkA_saved (w : World) (b : Nat) (hb : w.heap[b]? = some (.map esA 14)) : (Instr.lookup 73 (.map (some b)) (.string ⟨#[115, 97, 118, 101, 100]⟩) true).run Tryz.prog w = .ok (.tuple #[.func (.func 70) #[] #[], .bool true]) w :=
  look_hit mtA w b esA 14 _ _ 6 hb (by kernel_rfl) (by kernel_rfl)
theorem lkA_word (w : World) (b : Nat) (hb : w.heap[b]? = some (.map esA 14)) : (Instr.lookup 73 (.map (some b)) (.string ⟨#[119, 111, 114, 100]⟩) true).run Tryz.prog w = .ok (.tuple #[.func (.func 71) #[] #[], .bool true]) w :=
  look_hit mtA w b esA 14 _ _ 7 hb (by kernel_rfl) (by kernel_rfl)
theorem lkA_days (w : World) (b : Nat) (hb : w.heap[b]? = some (.map esA 14)) : (Instr.lookup 73 (.map (some b)) (.string ⟨#[100, 97, 121, 115]⟩) true).run Tryz.prog w = .ok (.tuple #[.func (.func 72) #[] #[], .bool true]) w :=
  look_hit mtA w b esA 14 _ _ 8 hb (by kernel_rfl) (by kernel_rfl)
theorem lkA_noughts (w : World) (b : Nat) (hb : w.heap[b]? = some (.map esA 14)) : (Instr.lookup 73 (.map (some b)) (.string ⟨#[110, 111, 117, 103, 104, 116, 115]⟩) true).run Tryz.prog w = .ok (.tuple #[.func (.func 73) #[] #[], .bool true]) w :=
  look_hit mtA w b esA 14 _ _ 9 hb (by kernel_rfl) (by kernel_rfl)
theorem lkA_sign (w : World) (b : Nat) (hb : w.heap[b]? = some (.map esA 14)) : (Instr.lookup 73 (.map (some b)) (.string ⟨#[115, 105, 103, 110]⟩) true).run Tryz.prog w = .ok (.tuple #[.func (.func 74) #[] #[], .bool true]) w :=
  look_hit mtA w b esA 14 _ _ 10 hb (by kernel_rfl) (by kernel_rfl)
theorem lkA_strokes (w : World) (b : Nat) (hb : w.heap[b]? = some (.map esA 14)) : (Instr.lookup 73 (.map (some b)) (.string ⟨#[115, 116, 114, 111, 107, 101, 115]⟩) true).run Tryz.prog w = .ok (.tuple #[.func (.func 75) #[] #[], .bool true]) w :=
  look_hit mtA w b esA 14 _ _ 11 hb (by kernel_rfl) (by kernel_rfl)
theorem lkA_turned (w : World) (b : Nat) (hb : w.heap[b]? = some (.map esA 14)) : (Instr.lookup 73 (.map (some b)) (.string ⟨#[116, 117, 114, 110, 101, 100]⟩) true).run Tryz.prog w = .ok (.tuple #[.func (.func 76) #[] #[], .bool true]) w :=
  look_hit mtA w b esA 14 _ _ 12 hb (by kernel_rfl) (by kernel_rfl)
theorem lkA_mirror (w : World) (b : Nat) (hb : w.heap[b]? = some (.map esA 14)) : (Instr.lookup 73 (.map (some b)) (.string ⟨#[109, 105, 114, 114, 111, 114]⟩) true).run Tryz.prog w = .ok (.tuple #[.func (.func 77) #[] #[], .bool true]) w :=
  look_hit mtA w b esA 14 _ _ 13 hb (by kernel_rfl) (by kernel_rfl)
theorem commandOfA_at (w : World) (b : Nat) (s : ByteArray) (K : FuncId) (hl : (Instr.lookup 73 (.map (some b)) (.string s) true).run Tryz.prog w = .ok (.tuple #[.func (.func K) #[] #[], .bool true]) w) :
    Calls Tryz.prog 42 #[.map (some b), .string s] w fun e w' => e = .returned (.func (.func K) #[] #[]) ∧ w' = w := by
  go_enter Tryz.func42, Tryz.ntmps42
  go_wp2_with fail
  go_ret
  exact ⟨rfl, rfl⟩
end Go.Proofs.YthbdnmnhoifnoaaGreatDoor

/- Plain: the parts of a text between the bytes c; a text cut at its first byte c. -/
namespace Go.Proofs.YthbdnmnhoifnoaaGreatDoor
set_option linter.unusedVariables false
set_option maxRecDepth 100000
set_option linter.unusedSimpArgs false
def pcs (c : UInt8) : List UInt8 → List (List UInt8)
  | [] => [[]]
  | x :: r => if x = c then [] :: pcs c r else (x :: (pcs c r).headD []) :: (pcs c r).tail
theorem pcs_ne (c : UInt8) (s : List UInt8) : ∃ p r, pcs c s = p :: r := by
  cases s with
  | nil => exact ⟨_, _, rfl⟩
  | cons x r => unfold pcs; split <;> exact ⟨_, _, rfl⟩
theorem pcs_miss {c : UInt8} {s : List UInt8} (h : c ∉ s) : pcs c s = [s] := by
  induction s with
  | nil => rfl
  | cons x r ih =>
    have h1 : ¬ x = c := fun e => h (by simp [e])
    have h2 : c ∉ r := fun e => h (by simp [e])
    unfold pcs
    rw [if_neg h1, ih h2]; rfl
theorem pcs_hit {c : UInt8} {x : List UInt8} (r : List UInt8) (h : c ∉ x) : pcs c (x ++ c :: r) = x :: pcs c r := by
  induction x with
  | nil => show pcs c (c :: r) = _; unfold pcs; rw [if_pos rfl]; cases r <;> rfl
  | cons y x ih =>
    have h1 : ¬ y = c := fun e => h (by simp [e])
    have h2 : c ∉ x := fun e => h (by simp [e])
    show pcs c (y :: (x ++ c :: r)) = _
    rw [show pcs c (y :: (x ++ c :: r)) = (y :: (pcs c (x ++ c :: r)).headD []) :: (pcs c (x ++ c :: r)).tail from by rw [pcs, if_neg h1], ih h2]; rfl
theorem pcs_len (c : UInt8) (s : List UInt8) : (pcs c s).length = s.count c + 1 := by
  induction s with
  | nil => rfl
  | cons x r ih =>
    obtain ⟨p, q, e⟩ := pcs_ne c r
    rw [e] at ih
    by_cases h : x = c
    · subst h; rw [pcs, if_pos rfl, e]; simp at ih ⊢; omega
    · rw [pcs, if_neg h, e, List.count_cons_of_ne (by simpa using h)]; simpa using ih
theorem pcs_part (c : UInt8) (s : List UInt8) : ∀ p ∈ pcs c s, p.length ≤ s.length ∧ c ∉ p := by
  induction s with
  | nil => intro p h; simp [pcs] at h; subst h; simp
  | cons x r ih =>
    obtain ⟨p0, q, e⟩ := pcs_ne c r
    intro p h
    by_cases hx : x = c
    · rw [pcs, if_pos hx, List.mem_cons] at h
      rcases h with rfl | h
      · simp
      · have := ih p h; exact ⟨by simp; omega, this.2⟩
    · rw [pcs, if_neg hx, e] at h
      rw [e] at ih
      simp only [List.headD_cons, List.tail_cons, List.mem_cons] at h
      rcases h with rfl | h
      · have := ih p0 (by simp); refine ⟨by simp; omega, ?_⟩
        rw [List.mem_cons]; rintro (h | h)
        · exact hx h.symm
        · exact this.2 h
      · have := ih p (by simp [h]); exact ⟨by simp; omega, this.2⟩
theorem index_none {c : UInt8} {s : List UInt8} (h : c ∉ s) : Lib.index s [c] = -1 := by
  rw [Lib.index_one]
  rcases Int.lt_or_le (Lib.indexByte s c) 0 with hn | hn
  · have := Lib.index_ge s [c]; rw [Lib.index_one] at this; omega
  · obtain ⟨o, ho⟩ := Int.eq_ofNat_of_zero_le hn
    exact absurd (List.mem_of_getElem? (Lib.indexByte_some ho).1) h
theorem index_hit {c : UInt8} {x : List UInt8} (r : List UInt8) (h : c ∉ x) : Lib.index (x ++ c :: r) [c] = (x.length : Nat) := by
  refine Lib.index_first (by simp) ?_ fun j hj => ?_
  · unfold Lib.occAt; rw [List.drop_left]; simp [List.isPrefixOf]
  · unfold Lib.occAt
    rw [List.drop_append_of_le_length (by omega)]
    have hne : x.drop j ≠ [] := by intro e; have := congrArg List.length e; simp at this; omega
    cases e2 : x.drop j with
    | nil => exact absurd e2 hne
    | cons y q =>
      have hy : y ∈ x := List.mem_of_mem_drop (by rw [e2]; simp : y ∈ x.drop j)
      have hn : y ≠ c := fun e => h (e ▸ hy)
      simp [List.isPrefixOf]
      exact fun e => hn e.symm
theorem splitK_all (c : UInt8) : ∀ (k : Nat) (s : List UInt8), s.count c = k → Lib.splitK [c] 0 k s = pcs c s := by
  intro k
  induction k with
  | zero =>
    intro s h
    rw [pcs_miss (List.count_eq_zero.1 h)]; rfl
  | succ k ih =>
    intro s h
    have hm : c ∈ s := List.count_pos_iff.1 (by omega)
    obtain ⟨x, r, rfl, hx⟩ := List.eq_append_cons_of_mem hm
    have e := index_hit r hx
    have hne : (((x.length : Nat) : Int) == -1) = false := by rw [beq_eq_false_iff_ne]; omega
    have hr : r.count c = k := by
      rw [List.count_append, List.count_eq_zero.2 hx, List.count_cons_self] at h; omega
    rw [pcs_hit r hx, ← ih r hr, Lib.splitK, e, hne]
    simp
theorem cut_hit {x : List UInt8} {c : UInt8} (r : List UInt8) (h : c ∉ x) : Lib.cut (x ++ c :: r) [c] = (x, r, true) := by
  unfold Lib.cut
  rw [index_hit r h, if_pos (by omega)]
  simp
theorem cut_miss {x : List UInt8} {c : UInt8} (h : c ∉ x) : Lib.cut x [c] = (x, [], false) := by
  unfold Lib.cut
  rw [index_none h, if_neg (by omega)]
end Go.Proofs.YthbdnmnhoifnoaaGreatDoor
