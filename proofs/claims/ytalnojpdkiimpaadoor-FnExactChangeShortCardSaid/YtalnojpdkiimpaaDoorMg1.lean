/- Several texts of mine, one after another: RM, AM, CM, UA, YA, K, RS, K2, BK, BL, BM, BS, UB, UC, YB, RIp, RIj, RIo, RSo, TV, AL, AW. -/
import Derived.WalkKit
import Derived.WalkSpells
import Derived.WalkLawsBesides
import Derived.Lib.Hide
import Derived.Lib.AppendStr
import Derived.Lib.BufferRead
import Derived.Test.YtalnojpdkiimpaaDoorRows
import Derived.BigQuiet
import Derived.Deep.QuietTactic
import Derived.Deep.DeepFit
import Derived.Laws.BytesArg
import Derived.Deep.RegionLaw
import Derived.IntWalk
import Derived.ProofKit
import Derived.LaidMore
import Derived.OpenShut
import Derived.Stop.Joined
import Derived.MakeChecks
import Derived.WalkSmall
import Derived.ChangeVars
import Derived.Below
/- Roman letters, plain: texts by digits, greedy pieces, the longest. -/
namespace Go.Proofs.YtalnojpdkiimpaaDoor
/-- a text n times -/
def many {α : Type} (s : List α) (n : Nat) : List α := (List.replicate n s).flatten
theorem many_zero {α : Type} (s : List α) : many s 0 = [] := by simp [many]
theorem many_succ {α : Type} (s : List α) (n : Nat) : many s (n + 1) = s ++ many s n := by simp [many, List.replicate_succ]
theorem many_double {α : Type} (s : List α) (n : Nat) : many s (2 * n) = many (s ++ s) n := by
  induction n with
  | zero => simp [many]
  | succ n ih => rw [show 2 * (n + 1) = 2 * n + 1 + 1 by omega, many_succ, many_succ, ih, many_succ, List.append_assoc]
theorem many_odd {α : Type} (s : List α) (n : Nat) (h : n % 2 = 1) : many s n = s ++ many (s ++ s) (n / 2) := by
  conv => lhs; rw [show n = 2 * (n / 2) + 1 by omega]
  rw [many_succ, many_double]
theorem many_even {α : Type} (s : List α) (n : Nat) (h : n % 2 = 0) : many s n = many (s ++ s) (n / 2) := by
  conv => lhs; rw [show n = 2 * (n / 2) by omega]
  rw [many_double]
theorem many_length {α : Type} (s : List α) (n : Nat) : (many s n).length = n * s.length := by
  simp [many]

/-- one digit with three letters -/
def dig {α : Type} (o f t : α) : Nat → List α
  | 0 => [] | 1 => [o] | 2 => [o, o] | 3 => [o, o, o] | 4 => [o, f] | 5 => [f] | 6 => [f, o] | 7 => [f, o, o] | 8 => [f, o, o, o] | _ => [o, t]
/-- the strict text -/
def strict (n : Nat) : List UInt8 := many [77] (n / 1000) ++ dig 67 68 77 (n / 100 % 10) ++ dig 88 76 67 (n / 10 % 10) ++ dig 73 86 88 (n % 10)
/-- the greatest pieces first -/
def take {α : Type} : List (List α × Nat) → Nat → List α
  | [], _ => []
  | (b, v) :: ps, n => many b (n / v) ++ take ps (n % v)
def strictP : List (List UInt8 × Nat) := [([77], 1000), ([67, 77], 900), ([68], 500), ([67, 68], 400), ([67], 100), ([88, 67], 90), ([76], 50), ([88, 76], 40), ([88], 10), ([73, 88], 9), ([86], 5), ([73, 86], 4), ([73], 1)]
def addedP : List (List UInt8 × Nat) := [([77], 1000), ([68], 500), ([67], 100), ([76], 50), ([88], 10), ([86], 5), ([73], 1)]
def piled (n : Nat) : List UInt8 := take addedP n

theorem map_many {α β : Type} (f : α → β) (s : List α) (n : Nat) : (many s n).map f = many (s.map f) n := by simp [many]
theorem map_dig {α β : Type} (f : α → β) (a b c : α) (d : Nat) : (dig a b c d).map f = dig (f a) (f b) (f c) d := by
  unfold dig; split <;> rfl
theorem map_take {α β : Type} (f : α → β) : ∀ (ps : List (List α × Nat)) (n : Nat), (take ps n).map f = take (ps.map fun p => (p.1.map f, p.2)) n
  | [], n => rfl
  | p :: ps, n => by
    have ih := map_take f ps (n % p.2)
    simp only [take, List.map_append, map_many, List.map_cons, ih]
def strictN (n : Nat) : List Nat := dig 67 68 77 (n / 100) ++ dig 88 76 67 (n / 10 % 10) ++ dig 73 86 88 (n % 10)
def strictNP : List (List Nat × Nat) := [([67, 77], 900), ([68], 500), ([67, 68], 400), ([67], 100), ([88, 67], 90), ([76], 50), ([88, 76], 40), ([88], 10), ([73, 88], 9), ([86], 5), ([73, 86], 4), ([73], 1)]
theorem take_strict0 : ∀ a, a < 25 → ∀ b, b < 40 → take strictNP (40 * a + b) = strictN (40 * a + b) := by decide +kernel
theorem take_strict (n : Nat) (_h : n < 4000) : take strictP n = strict n := by
  have h1 := take_strict0 (n % 1000 / 40) (by omega) (n % 1000 % 40) (by omega)
  rw [Nat.div_add_mod] at h1
  have h2 := congrArg (List.map UInt8.ofNat) h1
  rw [map_take] at h2
  have e1 : strictP = ([77], 1000) :: strictNP.map (fun p => (p.1.map UInt8.ofNat, p.2)) := by decide
  have e2 : strict n = many [77] (n / 1000) ++ (strictN (n % 1000)).map UInt8.ofNat := by
    unfold strictN strict
    simp only [List.map_append, map_dig]
    rw [show n % 1000 / 100 = n / 100 % 10 by omega, show n % 1000 / 10 % 10 = n / 10 % 10 by omega, show n % 1000 % 10 = n % 10 by omega]
    simp
  rw [e1, e2, ← h2]
  rfl

/-- the least number up to n with the greatest f -/
def best (f : Nat → Nat) : Nat → Nat
  | 0 => 0
  | k + 1 => if k = 0 then 1 else if f (best f k) < f (k + 1) then k + 1 else best f k
theorem best_one (f : Nat → Nat) : best f 1 = 1 := rfl
theorem best_pos (f : Nat → Nat) (n : Nat) (h : 1 ≤ n) : 1 ≤ best f n ∧ best f n ≤ n := by
  induction n with
  | zero => omega
  | succ k ih =>
    unfold best
    split
    · omega
    · have := ih (by omega)
      split <;> omega
theorem best_step (f : Nat → Nat) (k : Nat) (h : 1 ≤ k) : best f (k + 1) = if f (best f k) < f (k + 1) then k + 1 else best f k := by
  conv => lhs; unfold best
  rw [if_neg (by omega)]
theorem best_max (f : Nat → Nat) (n : Nat) (h : 1 ≤ n) : ∀ k, 1 ≤ k → k ≤ n → f k ≤ f (best f n) ∧ (k < best f n → f k < f (best f n)) := by
  induction n with
  | zero => omega
  | succ m ih =>
    intro k hk hkm
    by_cases hm : m = 0
    · subst hm
      obtain rfl : k = 1 := by omega
      exact ⟨Nat.le_refl _, fun h => by simp [best] at h⟩
    · have hb := best_pos f m (by omega)
      rw [best_step f m (by omega)]
      have ih := ih (by omega)
      by_cases hkm' : k ≤ m
      · have := ih k hk hkm'
        split
        · exact ⟨by omega, fun _ => by omega⟩
        · exact this
      · obtain rfl : k = m + 1 := by omega
        split
        · exact ⟨Nat.le_refl _, fun h => by omega⟩
        · exact ⟨by omega, fun h => by omega⟩
/-- how many letters a strict text has -/
def strictLen (n : Nat) : Nat := (strict n).length
theorem longest_step (j : Nat) (h : 1 ≤ j) : best strictLen j = if strictLen (best strictLen (j - 1)) < strictLen j then j else best strictLen (j - 1) := by
  obtain ⟨k, rfl⟩ : ∃ k, j = k + 1 := ⟨j - 1, by omega⟩
  rw [Nat.add_sub_cancel]
  by_cases hk : k = 0
  · subst hk; decide
  · exact best_step strictLen k (by omega)
theorem strict_len (n : Nat) (h : n ≤ 3999) : (strict n).length ≤ 15 := by
  have hd (a b c : UInt8) (d : Nat) : (dig a b c d).length ≤ 4 := by unfold dig; split <;> simp
  have := hd 67 68 77 (n / 100 % 10)
  have := hd 88 76 67 (n / 10 % 10)
  have := hd 73 86 88 (n % 10)
  unfold strict
  simp only [List.length_append, many_length, List.length_cons, List.length_nil]
  omega
end Go.Proofs.YtalnojpdkiimpaaDoor

/- Letters as numbers, plain: values of letters, letters of numbers, sums of words. No program. -/
namespace Go.Proofs.YtalnojpdkiimpaaDoor
set_option linter.unusedVariables false
set_option maxRecDepth 100000
/-- the value of a byte, 0 if it is no letter -/
def av (c : Int) : Int := if 97 ≤ c ∧ c ≤ 105 then c - 96 else if 106 ≤ c ∧ c ≤ 114 then 10 * (c - 105) else if 115 ≤ c ∧ c ≤ 122 then 100 * (c - 114) else if c = 42 then 900 else 0
theorem av_bd (c : Int) : 0 ≤ av c ∧ av c ≤ 900 := by unfold av; split <;> (try split) <;> (try split) <;> (try split) <;> omega
/-- the letter at a place: 0 to 8 ones, 9 to 17 tens, 18 to 26 hundreds -/
def lt (i : Nat) : UInt8 := if i < 26 then UInt8.ofNat (97 + i) else 42
/-- the value of the letter at a place -/
def vl (i : Nat) : Int := (i % 9 + 1 : Nat) * (10 : Int) ^ (i / 9)
theorem av_lt : ∀ i, i < 27 → av ((lt i).toNat : Int) = vl i := by decide
theorem vl_bd : ∀ i, i < 27 → 1 ≤ vl i ∧ vl i ≤ 900 := by decide
theorem lt_ne : ∀ i, i < 27 → lt i ≠ 39 := by decide
/-- the letter of a digit of a rank -/
def dl (d p : Nat) : List UInt8 := if d = 0 then [] else [lt (9 * p + d - 1)]
/-- the letters of a number -/
def aof (n : Nat) : List UInt8 := (if n / 1000 = 0 then [] else 39 :: dl (n / 1000) 0) ++ (dl (n / 100 % 10) 2 ++ (dl (n / 10 % 10) 1 ++ dl (n % 10) 0))
def asum : List UInt8 → Int
  | [] => 0
  | c :: r => av (c.toNat : Int) + asum r
theorem asum_append (a b : List UInt8) : asum (a ++ b) = asum a + asum b := by
  induction a with
  | nil => simp [asum]
  | cons c r ih => simp only [List.cons_append, asum, ih]; omega
theorem asum_bd (l : List UInt8) : 0 ≤ asum l ∧ asum l ≤ 900 * l.length := by
  induction l with
  | nil => simp [asum]
  | cons c r ih =>
    have := av_bd (c.toNat : Int)
    simp only [asum, List.length_cons]
    omega
/-- all are letters -/
def okA (l : List UInt8) : Bool := l.all fun c => decide (0 < av (c.toNat : Int))
theorem okA_cons (c : UInt8) (r : List UInt8) : okA (c :: r) = (decide (0 < av (c.toNat : Int)) && okA r) := rfl
theorem okA_append (a b : List UInt8) : okA (a ++ b) = (okA a && okA b) := by simp [okA]
/-- what a leading sign of thousands adds to the sum -/
def th : List UInt8 → Int
  | c :: d :: _ => if c = 39 then 999 * av (d.toNat : Int) else 0
  | _ => 0
theorem th_two (c d : UInt8) (r : List UInt8) : th (c :: d :: r) = if c = 39 then 999 * av (d.toNat : Int) else 0 := rfl
theorem th_bd (l : List UInt8) : 0 ≤ th l ∧ th l ≤ 899100 := by
  match l with
  | [] => simp [th]
  | [c] => simp [th]
  | c :: d :: r => have := av_bd (d.toNat : Int); rw [th_two]; split <;> omega
/-- the number that letters tell, if they are those of a number -/
def rdA (l : List UInt8) : Int := th l + asum l
theorem dl_sum (d p : Nat) (hd : d ≤ 9) (hp : p ≤ 2) : asum (dl d p) = d * (10 : Int) ^ p := by
  unfold dl
  split
  · simp [asum, *]
  · simp only [asum, Int.add_zero]
    rw [av_lt _ (by omega)]
    unfold vl
    have h1 : (9 * p + d - 1) % 9 + 1 = d := by omega
    have h2 : (9 * p + d - 1) / 9 = p := by omega
    rw [h1, h2]
theorem dl_ok (d p : Nat) (hd : d ≤ 9) (hp : p ≤ 2) : okA (dl d p) = true := by
  unfold dl
  split
  · rfl
  · rw [okA_cons, av_lt _ (by omega)]
    have := vl_bd (9 * p + d - 1) (by omega)
    simp [okA]; omega
theorem dl_len (d p : Nat) : (dl d p).length ≤ 1 := by unfold dl; split <;> simp
theorem dl_len_eq (d p : Nat) : (dl d p).length = if d = 0 then 0 else 1 := by unfold dl; split <;> simp
theorem th_ok (l : List UInt8) (h : okA l = true) : th l = 0 := by
  match l with
  | [] => rfl
  | [c] => rfl
  | c :: d :: r =>
    rw [th_two]
    split
    · rename_i hc
      subst hc
      rw [okA_cons] at h
      revert h
      simp [av]
    · rfl
/-- the letters without thousands -/
def low (n : Nat) : List UInt8 := dl (n / 100 % 10) 2 ++ (dl (n / 10 % 10) 1 ++ dl (n % 10) 0)
theorem low_ok (n : Nat) : okA (low n) = true := by
  unfold low
  rw [okA_append, okA_append, dl_ok _ _ (by omega) (by omega), dl_ok _ _ (by omega) (by omega), dl_ok _ _ (by omega) (by omega)]
  rfl
theorem low_sum (n : Nat) : asum (low n) = (n % 1000 : Nat) := by
  unfold low
  rw [asum_append, asum_append, dl_sum _ _ (by omega) (by omega), dl_sum _ _ (by omega) (by omega), dl_sum _ _ (by omega) (by omega)]
  simp only [Int.reducePow]
  omega
theorem low_len (n : Nat) : (low n).length ≤ 3 := by
  unfold low
  have h1 := dl_len (n / 100 % 10) 2
  have h2 := dl_len (n / 10 % 10) 1
  have h3 := dl_len (n % 10) 0
  simp only [List.length_append]
  omega
theorem aof_low (n : Nat) (h : n < 1000) : aof n = low n := by
  unfold aof low
  rw [if_pos (by omega)]
  rfl
theorem aof_high (n : Nat) (h : 1000 ≤ n) : aof n = 39 :: lt (n / 1000 - 1) :: low n := by
  unfold aof low dl
  rw [if_neg (by omega), if_neg (by omega), show 9 * 0 + n / 1000 - 1 = n / 1000 - 1 by omega]
  rfl
theorem aof_len (n : Nat) : (aof n).length ≤ 5 := by
  have := low_len n
  by_cases h : n < 1000
  · rw [aof_low n h]; omega
  · rw [aof_high n (by omega)]; simp; omega
theorem rdA_aof (n : Nat) (h : n ≤ 9999) : rdA (aof n) = n := by
  unfold rdA
  by_cases h' : n < 1000
  · rw [aof_low n h', th_ok _ (low_ok n), low_sum]; omega
  · rw [aof_high n (by omega)]
    have ha := av_lt (n / 1000 - 1) (by omega)
    have hv : vl (n / 1000 - 1) = (n / 1000 : Nat) := by
      unfold vl
      rw [show (n / 1000 - 1) % 9 + 1 = n / 1000 by omega, show (n / 1000 - 1) / 9 = 0 by omega]
      simp
    rw [hv] at ha
    simp only [th, asum, ha, low_sum, if_true]
    have : av ((39 : UInt8).toNat : Int) = 0 := by decide
    rw [this]
    omega
/-- what letters of numbers look like -/
theorem aof_shape (n : Nat) (h : n ≤ 9999) : okA (aof n) = true ∨ ∃ c r, aof n = 39 :: c :: r ∧ okA (c :: r) = true := by
  by_cases h' : n < 1000
  · rw [aof_low n h']; exact .inl (low_ok n)
  · rw [aof_high n (by omega)]
    refine .inr ⟨_, _, rfl, ?_⟩
    rw [okA_cons, low_ok, av_lt _ (by omega)]
    have := vl_bd (n / 1000 - 1) (by omega)
    simp; omega
/-- are they the letters of a number? -/
def isA (l : List UInt8) : Bool := decide (1 ≤ rdA l ∧ rdA l ≤ 9999 ∧ aof (rdA l).toNat = l)
theorem isA_aof (n : Nat) (h0 : 1 ≤ n) (h : n ≤ 9999) : isA (aof n) = true := by
  unfold isA
  rw [rdA_aof n h]
  simp; omega
theorem isA_len (l : List UInt8) (h : isA l = true) : l.length ≤ 5 := by
  unfold isA at h
  have h' := of_decide_eq_true h
  rw [← h'.2.2]
  exact aof_len _
theorem isA_eq (n : Nat) (l : List UInt8) (h0 : 1 ≤ n) (h : n ≤ 9999) (e : aof n = l) : rdA l = n ∧ isA l = true := by
  subst e; exact ⟨rdA_aof n h, isA_aof n h0 h⟩
theorem isA_shape (l : List UInt8) (h : isA l = true) : okA l = true ∨ ∃ c r, l = 39 :: c :: r ∧ okA (c :: r) = true := by
  unfold isA at h
  have h' := of_decide_eq_true h
  have := aof_shape (rdA l).toNat (by omega)
  rwa [h'.2.2] at this
theorem isA_of (l : List UInt8) (h : isA l = true) : 1 ≤ rdA l ∧ rdA l ≤ 9999 ∧ aof (rdA l).toNat = l := of_decide_eq_true h
/-- the number of letters of a number under 1000 -/
theorem aof_len_low (n : Nat) (h : n < 1000) : (aof n).length = (if n / 100 % 10 = 0 then 0 else 1) + ((if n / 10 % 10 = 0 then 0 else 1) + (if n % 10 = 0 then 0 else 1)) := by
  rw [aof_low n h]
  unfold low
  simp only [List.length_append, dl_len_eq]
/-- a text of letters has a sum of at least its length -/
theorem asum_pos (l : List UInt8) (h : okA l = true) : (l.length : Int) ≤ asum l := by
  induction l with
  | nil => simp [asum]
  | cons c r ih =>
    rw [okA_cons, Bool.and_eq_true] at h
    have h1 := of_decide_eq_true h.1
    have h2 := ih h.2
    simp only [asum, List.length_cons]
    omega
theorem asum_take_succ (l : List UInt8) (k : Nat) (h : k < l.length) : asum (l.take (k + 1)) = asum (l.take k) + av (l[k].toNat : Int) := by
  rw [List.take_succ_eq_append_getElem h, asum_append]
  simp [asum]
theorem okA_take_succ (l : List UInt8) (k : Nat) (h : k < l.length) : okA (l.take (k + 1)) = (okA (l.take k) && decide (0 < av (l[k].toNat : Int))) := by
  rw [List.take_succ_eq_append_getElem h, okA_append]
  simp [okA]
theorem okA_take (l : List UInt8) (k : Nat) (h : okA l = true) : okA (l.take k) = true := by
  unfold okA at *
  rw [List.all_eq_true] at *
  exact fun x hx => h x (List.mem_of_mem_take hx)
theorem okA_getElem (l : List UInt8) (k : Nat) (hk : k < l.length) (h : okA l = true) : 0 < av (l[k].toNat : Int) := by
  unfold okA at h
  rw [List.all_eq_true] at h
  exact of_decide_eq_true (h _ (List.getElem_mem hk))
end Go.Proofs.YtalnojpdkiimpaaDoor

/- Chapter 4, plain: clay texts, their numbers, readings; days; places. -/
namespace Go.Proofs.YtalnojpdkiimpaaDoor
set_option linter.unusedVariables false
set_option maxRecDepth 100000
/-- a digit's text -/
def cdig (d : Nat) : List UInt8 := if d = 0 then [46] else many [60] (d / 10) ++ many [89] (d % 10)
/-- the clay text -/
def clay (n : Nat) : List UInt8 := if _h : n < 60 then cdig n else clay (n / 60) ++ 32 :: cdig (n % 60)
termination_by n
decreasing_by omega
theorem clay_low (n : Nat) (h : n < 60) : clay n = cdig n := by rw [clay, dif_pos h]
theorem clay_high (n : Nat) (h : ¬ n < 60) : clay n = clay (n / 60) ++ 32 :: cdig (n % 60) := by rw [clay, dif_neg h]
/-- what a sign does to a number -/
def cst (n : Nat) (c : UInt8) : Nat := if c = 60 then n + 10 else if c = 89 then n + 1 else if c = 32 then n * 60 else n
def cval (l : List UInt8) : Nat := l.foldl cst 0
theorem cst_le (n : Nat) (c : UInt8) : n ≤ cst n c := by unfold cst; split <;> (try split) <;> (try split) <;> omega
theorem fold_le (l : List UInt8) : ∀ n, n ≤ l.foldl cst n := by
  induction l with
  | nil => exact fun n => Nat.le_refl n
  | cons c r ih => exact fun n => Nat.le_trans (cst_le n c) (ih (cst n c))
theorem cval_prefix (l : List UInt8) (k : Nat) : cval (l.take k) ≤ cval l := by
  have := fold_le (l.drop k) (cval (l.take k))
  unfold cval at *
  rwa [← List.foldl_append, List.take_append_drop] at this
theorem cval_snoc (l : List UInt8) (k : Nat) (h : k < l.length) : cval (l.take (k + 1)) = cst (cval (l.take k)) l[k] := by
  unfold cval
  rw [List.take_succ_eq_append_getElem h, List.foldl_append]; rfl
theorem fold_tens (k : Nat) : ∀ n, (many [60] k : List UInt8).foldl cst n = n + 10 * k := by
  induction k with
  | zero => intro n; rfl
  | succ k ih => intro n; rw [many_succ, List.foldl_append, ih]; show n + 10 + 10 * k = _; omega
theorem fold_ones (k : Nat) : ∀ n, (many [89] k : List UInt8).foldl cst n = n + k := by
  induction k with
  | zero => intro n; rfl
  | succ k ih => intro n; rw [many_succ, List.foldl_append, ih]; show n + 1 + k = _; omega
theorem fold_cdig (d n : Nat) : (cdig d).foldl cst n = n + d := by
  unfold cdig
  split
  · rename_i h; subst h; rfl
  · rw [List.foldl_append, fold_tens, fold_ones]; omega
theorem clay_val (n : Nat) : cval (clay n) = n := by
  induction n using Nat.strongRecOn with
  | ind n ih =>
    by_cases h : n < 60
    · rw [clay_low n h]; unfold cval; rw [fold_cdig]; omega
    · rw [clay_high n h]
      have e := ih (n / 60) (by omega)
      unfold cval at *
      rw [List.foldl_append, e, List.foldl_cons, fold_cdig]
      show n / 60 * 60 + n % 60 = n
      omega
theorem cdig_len (d : Nat) (h : d < 60) : 1 ≤ (cdig d).length ∧ (cdig d).length ≤ 14 := by
  unfold cdig
  split
  · exact ⟨by decide, by decide⟩
  · rw [List.length_append, many_length, many_length]
    simp only [List.length_cons, List.length_nil]
    omega
theorem clay_len (k : Nat) : ∀ n, n < 60 ^ (k + 1) → 1 ≤ (clay n).length ∧ (clay n).length ≤ 14 + 15 * k := by
  induction k with
  | zero =>
    intro n h
    rw [clay_low n (by omega)]
    exact cdig_len n (by omega)
  | succ k ih =>
    intro n h
    by_cases hn : n < 60
    · rw [clay_low n hn]
      have := cdig_len n hn
      omega
    · rw [clay_high n hn]
      have h1 := ih (n / 60) (by rw [Nat.pow_succ] at h; omega)
      have h2 := cdig_len (n % 60) (by omega)
      simp only [List.length_append, List.length_cons]
      omega
theorem clay_short (n : Nat) (h : n < 12960000) : 1 ≤ (clay n).length ∧ (clay n).length ≤ 59 := clay_len 3 n (by omega)
/-- is it a clay text? -/
def isC (l : List UInt8) : Bool := decide (cval l ≤ 12959999) && decide (clay (cval l) = l)
theorem isC_of (l : List UInt8) (h : isC l = true) : cval l ≤ 12959999 ∧ clay (cval l) = l := by
  unfold isC at h; rw [Bool.and_eq_true, decide_eq_true_eq, decide_eq_true_eq] at h; exact h
theorem isC_clay (n : Nat) (h : n ≤ 12959999) : isC (clay n) = true := by
  unfold isC; rw [clay_val]; simp; exact h
/-- days: their digits -/
theorem days_back (n : Int) (h0 : 0 ≤ n) (h1 : n ≤ 2879999) : 144000 * (n / 144000) + 7200 * (n / 7200 % 20) + 360 * (n / 360 % 20) + 20 * (n / 20 % 18) + n % 20 = n := by omega
theorem days_of (a b c d e : Int) (ha : 0 ≤ a ∧ a ≤ 19) (hb : 0 ≤ b ∧ b ≤ 19) (hc : 0 ≤ c ∧ c ≤ 19) (hd : 0 ≤ d ∧ d ≤ 17) (he : 0 ≤ e ∧ e ≤ 19) :
    let n := 144000 * a + 7200 * b + 360 * c + 20 * d + e
    0 ≤ n ∧ n ≤ 2879999 ∧ n / 144000 = a ∧ n / 7200 % 20 = b ∧ n / 360 % 20 = c ∧ n / 20 % 18 = d ∧ n % 20 = e := by
  intro n
  refine ⟨by omega, by omega, by omega, by omega, by omega, by omega, by omega⟩
/-- places: the product of the first k -/
def prd (p : Nat → Int) : Nat → Int
  | 0 => 1
  | k + 1 => prd p k * p k
/-- the number of the first k digits -/
def dnum (p d : Nat → Int) : Nat → Int
  | 0 => 0
  | k + 1 => dnum p d k * p k + d k
/-- what is left of N when j digits are taken from the end of n places -/
def lft (p : Nat → Int) (n : Nat) (N : Int) : Nat → Int
  | 0 => N
  | j + 1 => lft p n N j / p (n - 1 - j)
/-- the digit at place k -/
def pdg (p : Nat → Int) (n : Nat) (N : Int) (k : Nat) : Int := lft p n N (n - 1 - k) % p k
theorem prd_pos (p : Nat → Int) (n : Nat) (h : ∀ k, k < n → 2 ≤ p k) : ∀ k, k ≤ n → 1 ≤ prd p k := by
  intro k
  induction k with
  | zero => intro _; exact Int.le_refl 1
  | succ k ih =>
    intro hk
    have h1 := ih (by omega); have h2 := h k (by omega)
    simp only [prd]
    have := Int.mul_le_mul h1 (show (1 : Int) ≤ p k by omega) (by omega) (by omega)
    omega
theorem prd_bound (p : Nat → Int) (n : Nat) (h : ∀ k, k < n → 2 ≤ p k ∧ p k ≤ 100) : ∀ k, k ≤ n → prd p k ≤ 100 ^ k := by
  intro k
  induction k with
  | zero => intro _; exact Int.le_refl 1
  | succ k ih =>
    intro hk
    have h0 := prd_pos p n (fun k hk => (h k hk).1) k (by omega)
    have h1 := ih (by omega); have h2 := h k (by omega)
    simp only [prd]
    have := Int.mul_le_mul h1 h2.2 (by omega) (by omega)
    rw [Int.pow_succ]
    exact this
theorem lft_lt (p : Nat → Int) (n : Nat) (N : Int) (h : ∀ k, k < n → 2 ≤ p k) (h0 : 0 ≤ N) (h1 : N < prd p n) : ∀ j, j ≤ n → 0 ≤ lft p n N j ∧ lft p n N j < prd p (n - j) := by
  intro j
  induction j with
  | zero => intro _; exact ⟨h0, h1⟩
  | succ j ih =>
    intro hj
    obtain ⟨a, b⟩ := ih (by omega)
    have hp := h (n - 1 - j) (by omega)
    simp only [lft]
    refine ⟨Int.ediv_nonneg a (by omega), ?_⟩
    rw [show n - j = (n - (j + 1)) + 1 by omega] at b
    simp only [prd] at b
    rw [show n - (j + 1) = n - 1 - j by omega] at b ⊢
    exact Int.ediv_lt_of_lt_mul (by omega) b
theorem lft_zero (p : Nat → Int) (n : Nat) (N : Int) (h : ∀ k, k < n → 2 ≤ p k) (h0 : 0 ≤ N) (h1 : N < prd p n) : lft p n N n = 0 := by
  obtain ⟨a, b⟩ := lft_lt p n N h h0 h1 n (Nat.le_refl n)
  rw [Nat.sub_self] at b
  simp only [prd] at b
  omega
theorem pdg_bd (p : Nat → Int) (n : Nat) (N : Int) (k : Nat) (h : 2 ≤ p k) : 0 ≤ pdg p n N k ∧ pdg p n N k < p k :=
  ⟨Int.emod_nonneg _ (by omega), Int.emod_lt_of_pos _ (by omega)⟩
/-- digits lead back -/
theorem pdg_num (p : Nat → Int) (n : Nat) (N : Int) (h : ∀ k, k < n → 2 ≤ p k) (h0 : 0 ≤ N) (h1 : N < prd p n) : ∀ k, k ≤ n → dnum p (pdg p n N) k = lft p n N (n - k) := by
  intro k
  induction k with
  | zero => intro _; rw [Nat.sub_zero, lft_zero p n N h h0 h1]; rfl
  | succ k ih =>
    intro hk
    have e := ih (by omega)
    simp only [dnum, pdg]
    rw [e, show n - k = (n - 1 - k) + 1 by omega, show n - (k + 1) = n - 1 - k by omega]
    simp only [lft]
    rw [show n - 1 - (n - 1 - k) = k by omega]
    have := Int.mul_ediv_add_emod (lft p n N (n - 1 - k)) (p k)
    rw [Int.mul_comm] at this
    exact this
theorem dnum_congr (p d e : Nat → Int) : ∀ n, (∀ k, k < n → d k = e k) → dnum p d n = dnum p e n
  | 0, _ => rfl
  | n + 1, h => by simp only [dnum]; rw [dnum_congr p d e n (fun k hk => h k (by omega)), h n (by omega)]
theorem dnum_lt (p d : Nat → Int) (n : Nat) (h : ∀ k, k < n → 2 ≤ p k) (hd : ∀ k, k < n → 0 ≤ d k ∧ d k < p k) : ∀ k, k ≤ n → 0 ≤ dnum p d k ∧ dnum p d k < prd p k := by
  intro k
  induction k with
  | zero => intro _; exact ⟨Int.le_refl 0, by simp [dnum, prd]⟩
  | succ k ih =>
    intro hk
    obtain ⟨a, b⟩ := ih (by omega)
    have hp := h k (by omega); have hdk := hd k (by omega)
    simp only [dnum, prd]
    have m1 := Int.mul_nonneg a (show 0 ≤ p k by omega)
    have m2 := Int.mul_le_mul_of_nonneg_right (show dnum p d k + 1 ≤ prd p k by omega) (show 0 ≤ p k by omega)
    rw [Int.add_mul] at m2
    omega
/-- numbers lead back to digits -/
theorem num_lft (p d : Nat → Int) (n : Nat) (h : ∀ k, k < n → 2 ≤ p k) (hd : ∀ k, k < n → 0 ≤ d k ∧ d k < p k) : ∀ j, j ≤ n → lft p n (dnum p d n) j = dnum p d (n - j) := by
  intro j
  induction j with
  | zero => intro _; rfl
  | succ j ih =>
    intro hj
    simp only [lft]
    rw [ih (by omega), show n - j = (n - 1 - j) + 1 by omega, show n - (j + 1) = n - 1 - j by omega]
    simp only [dnum]
    have hp := h (n - 1 - j) (by omega); have hdk := hd (n - 1 - j) (by omega)
    rw [Int.add_comm, Int.add_mul_ediv_right _ _ (by omega), Int.ediv_eq_zero_of_lt hdk.1 hdk.2]
    omega
theorem num_pdg (p d : Nat → Int) (n : Nat) (h : ∀ k, k < n → 2 ≤ p k) (hd : ∀ k, k < n → 0 ≤ d k ∧ d k < p k) (k : Nat) (hk : k < n) : pdg p n (dnum p d n) k = d k := by
  unfold pdg
  rw [num_lft p d n h hd (n - 1 - k) (by omega), show n - (n - 1 - k) = k + 1 by omega]
  simp only [dnum]
  have hdk := hd k hk
  rw [Int.add_comm, Int.add_mul_emod_self_right]
  exact Int.emod_eq_of_lt hdk.1 hdk.2
end Go.Proofs.YtalnojpdkiimpaaDoor

/- Ranks, plain: ranked texts, how they are read, noughts. No program. -/
namespace Go.Proofs.YtalnojpdkiimpaaDoor
set_option linter.unusedVariables false
set_option maxRecDepth 100000
/-- the sign of a digit -/
def dch (d : Nat) : UInt8 := UInt8.ofNat (48 + d)
theorem dch_fact : ∀ d : Fin 10, dch d.val ≠ 113 ∧ dch d.val ≠ 98 ∧ dch d.val ≠ 115 ∧ dch d.val ≠ 119 ∧ dch d.val ≠ 111 ∧ (dch d.val - 48).toNat = d.val ∧ (dch d.val).toNat = 48 + d.val := by decide
/-- a digit of four -/
def dgt (n i : Nat) : Nat := if i = 0 then n / 1000 % 10 else if i = 1 then n / 100 % 10 else if i = 2 then n / 10 % 10 else n % 10
theorem dgt_lt (n i : Nat) : dgt n i < 10 := by unfold dgt; split <;> (try split) <;> (try split) <;> omega
def rsg (i : Nat) : List UInt8 := if i = 0 then [113] else if i = 1 then [98] else if i = 2 then [115] else []
/-- text and gap behind i digits -/
def rkS (n : Nat) : Nat → List UInt8 × Bool
  | 0 => ([], false)
  | i + 1 => if dgt n i = 0 then ((rkS n i).1, (rkS n i).1 != []) else ((rkS n i).1 ++ (if (rkS n i).2 = true then [111] else []) ++ [dch (dgt n i)] ++ rsg i, false)
def rk4 (n : Nat) : List UInt8 := (rkS n 4).1
/-- the ranked text -/
def rkO (n : Nat) : List UInt8 := if n = 0 then [111] else if n < 10000 then rk4 n else rk4 (n / 10000) ++ [119] ++ (if 0 < n % 10000 ∧ n % 10000 < 1000 then [111] else []) ++ rk4 (n % 10000)
/-- how a byte is read: high, low, digit -/
def rdS (st : Nat × Nat × Nat) (c : UInt8) : Nat × Nat × Nat :=
  if c = 113 then (st.1, st.2.1 + 1000 * st.2.2, 0) else if c = 98 then (st.1, st.2.1 + 100 * st.2.2, 0) else if c = 115 then (st.1, st.2.1 + 10 * st.2.2, 0)
  else if c = 119 then (st.1 + 10000 * (st.2.1 + st.2.2), 0, 0) else if c = 111 then (st.1, st.2.1, 0) else (st.1, st.2.1, (c - 48).toNat)
def rdF (l : List UInt8) : Nat × Nat × Nat := l.foldl rdS (0, 0, 0)
def rkN (l : List UInt8) : Nat := (rdF l).1 + (rdF l).2.1 + (rdF l).2.2
theorem rdS_dch (st : Nat × Nat × Nat) (d : Nat) (h : d < 10) : rdS st (dch d) = (st.1, st.2.1, d) := by
  obtain ⟨h1, h2, h3, h4, h5, h6, _⟩ := dch_fact ⟨d, h⟩
  unfold rdS
  rw [if_neg h1, if_neg h2, if_neg h3, if_neg h4, if_neg h5, h6]
theorem rk4_cases (n : Nat) : rk4 n =
    (if n / 1000 % 10 = 0 then [] else [dch (n / 1000 % 10), 113]) ++
    (if n / 100 % 10 = 0 then [] else [dch (n / 100 % 10), 98]) ++
    (if n / 10 % 10 = 0 then [] else (if n / 1000 % 10 ≠ 0 ∧ n / 100 % 10 = 0 then [111] else []) ++ [dch (n / 10 % 10), 115]) ++
    (if n % 10 = 0 then [] else (if (n / 1000 % 10 ≠ 0 ∨ n / 100 % 10 ≠ 0) ∧ n / 10 % 10 = 0 then [111] else []) ++ [dch (n % 10)]) := by
  unfold rk4 rkS rkS rkS rkS rkS
  simp only [dgt, rsg]
  by_cases a : n / 1000 % 10 = 0 <;> by_cases b : n / 100 % 10 = 0 <;> by_cases c : n / 10 % 10 = 0 <;> by_cases d : n % 10 = 0 <;> simp [a, b, c, d]
theorem rd4 (n h : Nat) (hn : n < 10000) : (rk4 n).foldl rdS (h, 0, 0) = (h, n / 10 * 10, n % 10) := by
  have q : ∀ st : Nat × Nat × Nat, rdS st 113 = (st.1, st.2.1 + 1000 * st.2.2, 0) := fun _ => rfl
  have b : ∀ st : Nat × Nat × Nat, rdS st 98 = (st.1, st.2.1 + 100 * st.2.2, 0) := fun _ => rfl
  have s : ∀ st : Nat × Nat × Nat, rdS st 115 = (st.1, st.2.1 + 10 * st.2.2, 0) := fun _ => rfl
  have o : ∀ st : Nat × Nat × Nat, rdS st 111 = (st.1, st.2.1, 0) := fun _ => rfl
  have d1 := fun st => rdS_dch st (n / 1000 % 10) (by omega)
  have d2 := fun st => rdS_dch st (n / 100 % 10) (by omega)
  have d3 := fun st => rdS_dch st (n / 10 % 10) (by omega)
  have d4 := fun st => rdS_dch st (n % 10) (by omega)
  rw [rk4_cases]
  by_cases e1 : n / 1000 % 10 = 0 <;> by_cases e2 : n / 100 % 10 = 0 <;> by_cases e3 : n / 10 % 10 = 0 <;> by_cases e4 : n % 10 = 0 <;> simp [e1, e2, e3, e4, q, b, s, o, d1, d2, d3, d4] <;> omega
theorem rd_back (n : Nat) (hn : n ≤ 99999999) : rkN (rkO n) = n := by
  have w : ∀ st : Nat × Nat × Nat, rdS st 119 = (st.1 + 10000 * (st.2.1 + st.2.2), 0, 0) := fun _ => rfl
  have o : ∀ st : Nat × Nat × Nat, rdS st 111 = (st.1, st.2.1, 0) := fun _ => rfl
  unfold rkN rdF rkO
  split
  · rename_i h; subst h; rfl
  · split
    · rename_i h1 h2
      rw [rd4 n 0 h2]
      show 0 + n / 10 * 10 + n % 10 = n
      omega
    · rename_i h1 h2
      rw [List.foldl_append, List.foldl_append, List.foldl_append, rd4 (n / 10000) 0 (by omega)]
      split
      · simp only [List.foldl_cons, List.foldl_nil, w, o]
        rw [rd4 (n % 10000) _ (by omega)]
        show 0 + 10000 * (n / 10000 / 10 * 10 + n / 10000 % 10) + n % 10000 / 10 * 10 + n % 10000 % 10 = n
        omega
      · simp only [List.foldl_cons, List.foldl_nil, w]
        rw [rd4 (n % 10000) _ (by omega)]
        show 0 + 10000 * (n / 10000 / 10 * 10 + n / 10000 % 10) + n % 10000 / 10 * 10 + n % 10000 % 10 = n
        omega
theorem rk4_len (n : Nat) : (rk4 n).length ≤ 7 := by
  rw [rk4_cases]
  by_cases e1 : n / 1000 % 10 = 0 <;> by_cases e2 : n / 100 % 10 = 0 <;> by_cases e3 : n / 10 % 10 = 0 <;> by_cases e4 : n % 10 = 0 <;> simp [e1, e2, e3, e4]
theorem rk4_zero : rk4 0 = [] := by decide
theorem rkO_len (n : Nat) : 1 ≤ (rkO n).length ∧ (rkO n).length ≤ 16 := by
  unfold rkO
  split
  · simp
  · split
    · rename_i h1 h2
      refine ⟨?_, by have := rk4_len n; omega⟩
      have hne : rk4 n ≠ [] := fun e => by
        have := rd4 n 0 h2
        rw [e] at this
        simp at this
        omega
      exact List.length_pos_iff.2 hne
    · have a := rk4_len (n / 10000)
      have b := rk4_len (n % 10000)
      simp only [List.length_append, List.length_cons, List.length_nil]
      split <;> simp <;> omega
/-- how many noughts -/
def nts (l : List UInt8) : Nat := (l.filter (fun c => c == 111)).length
theorem nts_append (a b : List UInt8) : nts (a ++ b) = nts a + nts b := by unfold nts; rw [List.filter_append, List.length_append]
theorem nts_dch (d : Nat) (h : d < 10) : nts [dch d] = 0 := by
  obtain ⟨_, _, _, _, h5, _, _⟩ := dch_fact ⟨d, h⟩
  unfold nts
  rw [List.filter_cons_of_neg (by simpa using h5)]
  rfl
theorem nts_rk4 (n : Nat) : nts (rk4 n) ≤ 1 := by
  have cons : ∀ (c : UInt8) l, nts (c :: l) = nts [c] + nts l := fun c l => nts_append [c] l
  have d1 := nts_dch (n / 1000 % 10) (by omega)
  have d2 := nts_dch (n / 100 % 10) (by omega)
  have d3 := nts_dch (n / 10 % 10) (by omega)
  have d4 := nts_dch (n % 10) (by omega)
  have q : nts [113] = 0 := rfl
  have b : nts [98] = 0 := rfl
  have s : nts [115] = 0 := rfl
  have o : nts [111] = 1 := rfl
  have z : nts [] = 0 := rfl
  rw [rk4_cases]
  by_cases e1 : n / 1000 % 10 = 0 <;> by_cases e2 : n / 100 % 10 = 0 <;> by_cases e3 : n / 10 % 10 = 0 <;> by_cases e4 : n % 10 = 0 <;>
    simp only [e1, e2, e3, e4, if_true, if_false, nts_append, cons _ [_], not_true_eq_false, not_false_eq_true, ne_eq, and_true, and_false, or_true, or_false, or_self, d1, d2, d3, d4, q, b, s, o, z] <;> omega
theorem nts_most (n : Nat) : nts (rkO n) ≤ 3 ∧ nts (rkO 0) = 1 := by
  refine ⟨?_, rfl⟩
  unfold rkO
  split
  · decide
  · split
    · have := nts_rk4 n; omega
    · have a := nts_rk4 (n / 10000)
      have b := nts_rk4 (n % 10000)
      have w : nts [119] = 0 := rfl
      rw [nts_append, nts_append, nts_append, w]
      split
      · have : nts [111] = 1 := rfl
        omega
      · have : nts [] = 0 := rfl
        omega
theorem nts_great (n : Nat) (h1 : 1000 ≤ n) (h2 : n ≤ 9999) : nts (rkO (n * 10000)) = nts (rkO n) := by
  have e1 : n * 10000 / 10000 = n := by omega
  have e2 : n * 10000 % 10000 = 0 := by omega
  have w : nts [119] = 0 := rfl
  have z : nts [] = 0 := rfl
  unfold rkO
  rw [if_neg (by omega), if_neg (by omega), e1, e2, if_neg (by omega), if_neg (by omega), if_pos (by omega), rk4_zero, nts_append, nts_append, nts_append, w, z]
  omega
/-- does a text tell a number? -/
def rrB (l : List UInt8) : Bool := decide (l.length ≤ 20) && decide (rkN l ≤ 99999999) && decide (rkO (rkN l) = l)
theorem rrB_spec (l : List UInt8) : rrB l = true ↔ l.length ≤ 20 ∧ rkN l ≤ 99999999 ∧ rkO (rkN l) = l := by
  unfold rrB
  rw [Bool.and_eq_true, Bool.and_eq_true, decide_eq_true_eq, decide_eq_true_eq, decide_eq_true_eq, and_assoc]
theorem rrB_rk (n : Nat) (h : n ≤ 99999999) : rrB (rkO n) = true := by
  have := rd_back n h
  exact (rrB_spec _).2 ⟨by have := (rkO_len n).2; omega, by rw [this]; exact h, by rw [this]⟩
/-- one byte more: no great numbers -/
theorem rdS_step (st : Nat × Nat × Nat) (c : UInt8) (B L : Nat) (h1 : st.1 ≤ B) (h2 : st.2.1 ≤ L) (h3 : st.2.2 ≤ 255) : (rdS st c).1 ≤ B + 10000 * (L + 255) ∧ (rdS st c).2.1 ≤ L + 255000 ∧ (rdS st c).2.2 ≤ 255 := by
  have hc : (c - 48).toNat < 256 := (c - 48).toNat_lt
  unfold rdS
  split
  · exact ⟨by show st.1 ≤ _; omega, by show st.2.1 + 1000 * st.2.2 ≤ _; omega, by show 0 ≤ _; omega⟩
  · split
    · exact ⟨by show st.1 ≤ _; omega, by show st.2.1 + 100 * st.2.2 ≤ _; omega, by show 0 ≤ _; omega⟩
    · split
      · exact ⟨by show st.1 ≤ _; omega, by show st.2.1 + 10 * st.2.2 ≤ _; omega, by show 0 ≤ _; omega⟩
      · split
        · exact ⟨by show st.1 + 10000 * (st.2.1 + st.2.2) ≤ _; omega, by show 0 ≤ _; omega, by show 0 ≤ _; omega⟩
        · split
          · exact ⟨by show st.1 ≤ _; omega, by show st.2.1 ≤ _; omega, by show 0 ≤ _; omega⟩
          · exact ⟨by show st.1 ≤ _; omega, by show st.2.1 ≤ _; omega, by show (c - 48).toNat ≤ _; omega⟩
/-- the states while a text is read are no great numbers -/
theorem rdS_bd (l : List UInt8) (hl : l.length ≤ 20) : ∀ k, k ≤ l.length → ∃ B L, ((l.take k).foldl rdS (0, 0, 0)).1 ≤ B ∧ ((l.take k).foldl rdS (0, 0, 0)).2.1 ≤ L ∧ ((l.take k).foldl rdS (0, 0, 0)).2.2 ≤ 255 ∧ L = k * 255000 ∧ (B : Int) ≤ k * 60000000000
  | 0, _ => ⟨0, 0, by simp, by simp, by simp, by simp, by simp⟩
  | k + 1, h => by
    obtain ⟨B, L, h1, h2, h3, h4, h5⟩ := rdS_bd l hl k (by omega)
    rw [List.take_succ_eq_append_getElem (by omega), List.foldl_append]
    generalize (l.take k).foldl rdS (0, 0, 0) = st at *
    obtain ⟨g1, g2, g3⟩ := rdS_step st l[k] B L h1 h2 h3
    have hk : k ≤ 19 := by omega
    exact ⟨B + 10000 * (L + 255), L + 255000, g1, g2, g3, by omega, by omega⟩
end Go.Proofs.YtalnojpdkiimpaaDoor

/- Changes, plain: decimals, numerals of all kinds. No program. -/
namespace Go.Proofs.YtalnojpdkiimpaaDoor
set_option linter.unusedVariables false
set_option maxRecDepth 100000
/-- a number in decimals -/
def dcm (n : Nat) : List UInt8 := if _h : n < 10 then [dch n] else dcm (n / 10) ++ [dch (n % 10)]
termination_by n
decreasing_by omega
theorem dcm_low (n : Nat) (h : n < 10) : dcm n = [dch n] := by rw [dcm, dif_pos h]
theorem dcm_high (n : Nat) (h : ¬ n < 10) : dcm n = dcm (n / 10) ++ [dch (n % 10)] := by rw [dcm, dif_neg h]
def dgC (c : UInt8) : Bool := decide (48 ≤ c.toNat) && decide (c.toNat ≤ 57)
def dcs (n : Nat) (c : UInt8) : Nat := 10 * n + (c.toNat - 48)
def dcN (l : List UInt8) : Nat := l.foldl dcs 0
theorem dch_dg (d : Nat) (h : d < 10) : dgC (dch d) = true ∧ (dch d).toNat - 48 = d := by
  have := (dch_fact ⟨d, h⟩).2.2.2.2.2.2
  simp only at this
  unfold dgC
  rw [this]
  exact ⟨by simp; omega, by omega⟩
theorem dcm_back (n : Nat) : dcN (dcm n) = n ∧ (dcm n).all dgC = true := by
  induction n using Nat.strongRecOn with
  | _ n ih =>
    by_cases h : n < 10
    · rw [dcm_low n h]
      obtain ⟨h1, h2⟩ := dch_dg n h
      exact ⟨by show 10 * 0 + _ = n; rw [h2]; omega, by simp [h1]⟩
    · rw [dcm_high n h]
      obtain ⟨h1, h2⟩ := dch_dg (n % 10) (by omega)
      obtain ⟨i1, i2⟩ := ih (n / 10) (by omega)
      refine ⟨?_, by rw [List.all_append, i2]; simp [h1]⟩
      unfold dcN at *
      rw [List.foldl_append, i1]
      show 10 * (n / 10) + _ = n
      rw [h2]; omega
theorem dcm_len (k : Nat) : ∀ n, n < 10 ^ (k + 1) → 1 ≤ (dcm n).length ∧ (dcm n).length ≤ k + 1 := by
  induction k with
  | zero =>
    intro n h
    rw [dcm_low n (by simpa using h)]
    exact ⟨Nat.le_refl _, Nat.le_refl _⟩
  | succ k ih =>
    intro n h
    by_cases hn : n < 10
    · rw [dcm_low n hn]; exact ⟨Nat.le_refl _, by show 1 ≤ _; omega⟩
    · rw [dcm_high n hn]
      have e : 10 ^ (k + 1 + 1) = 10 ^ (k + 1) * 10 := Nat.pow_succ _ _
      obtain ⟨i1, i2⟩ := ih (n / 10) (by omega)
      rw [List.length_append]
      show 1 ≤ _ + 1 ∧ _ + 1 ≤ _
      omega
theorem ten8 : (10 : Nat) ^ (7 + 1) = 100000000 := by decide
theorem ten9 : (10 : Nat) ^ (8 + 1) = 1000000000 := by decide
theorem dcm_short (n : Nat) (h : n ≤ 99999999) : 1 ≤ (dcm n).length ∧ (dcm n).length ≤ 8 := dcm_len 7 n (by rw [ten8]; omega)
/-- does a text tell a number in decimals? -/
def dcB (l : List UInt8) : Bool := (l.take 9).all dgC && (decide (dcN (l.take 9) ≤ 99999999) && decide (dcm (dcN (l.take 9)) = l))
theorem dcB_of (l : List UInt8) (h : dcB l = true) : dcN (l.take 9) ≤ 99999999 ∧ dcm (dcN (l.take 9)) = l := by
  unfold dcB at h
  rw [Bool.and_eq_true, Bool.and_eq_true, decide_eq_true_eq, decide_eq_true_eq] at h
  exact h.2
theorem dcB_dcm (n : Nat) (h : n ≤ 99999999) : dcB (dcm n) = true ∧ dcN ((dcm n).take 9) = n := by
  have hl := (dcm_short n h).2
  obtain ⟨h1, h2⟩ := dcm_back n
  have e : (dcm n).take 9 = dcm n := List.take_of_length_le (by omega)
  refine ⟨?_, by rw [e, h1]⟩
  unfold dcB
  rw [e, h1, h2, decide_eq_true h, decide_eq_true rfl]
  rfl
/-- the numeral of a kind of a number -/
def chO (K : List UInt8) (n : Int) : Option (List UInt8) :=
  if K = [114] then (if 1 ≤ n ∧ n ≤ 3999 then some (strict n.toNat) else none)
  else if K = [97] then (if 1 ≤ n ∧ n ≤ 9999 then some (aof n.toNat) else none)
  else if K = [99] then (if 0 ≤ n ∧ n ≤ 12959999 then some (clay n.toNat) else none)
  else if K = [107] then (if 0 ≤ n ∧ n ≤ 99999999 then some (rkO n.toNat) else none)
  else if K = [100] then (if 0 ≤ n ∧ n ≤ 99999999 then some (dcm n.toNat) else none)
  else none
theorem dig_pos : ∀ d, d < 10 → 1 ≤ d → (1 ≤ (dig (67 : UInt8) 68 77 d).length ∧ 1 ≤ (dig (88 : UInt8) 76 67 d).length ∧ 1 ≤ (dig (73 : UInt8) 86 88 d).length) := by decide
theorem strict_pos8 (n : Nat) (h1 : 1 ≤ n) (h : n < 4000) : 1 ≤ (strict n).length := by
  unfold strict
  rw [List.length_append, List.length_append, List.length_append, many_length]
  by_cases a : n / 1000 = 0
  · by_cases b : n / 100 % 10 = 0
    · by_cases c : n / 10 % 10 = 0
      · have := (dig_pos (n % 10) (by omega) (by omega)).2.2
        omega
      · have := (dig_pos (n / 10 % 10) (by omega) (by omega)).2.1
        omega
    · have := (dig_pos (n / 100 % 10) (by omega) (by omega)).1
      omega
  · show 1 ≤ n / 1000 * 1 + _ + _ + _
    omega
theorem aof_pos8 (m : Nat) (h1 : 1 ≤ m) (h : m ≤ 9999) : 1 ≤ (aof m).length := by
  rcases Nat.eq_zero_or_pos (aof m).length with h0 | h0
  · exfalso
    have h1 := rdA_aof m (by omega)
    rw [List.eq_nil_of_length_eq_zero h0] at h1
    have : rdA [] = 0 := rfl
    omega
  · exact h0
/-- how long a numeral is -/
theorem chO_len (K : List UInt8) (n : Int) (s : List UInt8) (h : chO K n = some s) : 1 ≤ s.length ∧ s.length ≤ 59 := by
  unfold chO at h
  split at h
  · split at h
    · obtain rfl := Option.some.inj h
      have := strict_pos8 n.toNat (by omega) (by omega)
      have := strict_len n.toNat (by omega)
      omega
    · cases h
  · split at h
    · split at h
      · obtain rfl := Option.some.inj h
        have := aof_pos8 n.toNat (by omega) (by omega)
        have := aof_len n.toNat
        omega
      · cases h
    · split at h
      · split at h
        · obtain rfl := Option.some.inj h
          have := clay_short n.toNat (by omega)
          omega
        · cases h
      · split at h
        · split at h
          · obtain rfl := Option.some.inj h
            have := rkO_len n.toNat
            omega
          · cases h
        · split at h
          · split at h
            · obtain rfl := Option.some.inj h
              have := dcm_short n.toNat (by omega)
              omega
            · cases h
          · cases h
/-- the kinds, in order -/
def kb (i : Nat) : UInt8 := if i = 0 then 114 else if i = 1 then 97 else if i = 2 then 99 else if i = 3 then 107 else 100
end Go.Proofs.YtalnojpdkiimpaaDoor

/- Small lemmas of my own for walks: no program. -/
namespace Go.Proofs.YtalnojpdkiimpaaDoor
open Go.RowKit
/-- a slice of integers that came in: nil, or a row of cap cells zs, each fitting its kind -/
def IsRow (k : IntKind) (w : World) (a : Option Addr) (len cap : Nat) (zs : List Int) : Prop :=
  (a = none ∧ len = 0 ∧ cap = 0 ∧ zs = []) ∨
  ∃ x, a = some x ∧ len ≤ cap ∧ cap ≤ maxLen ∧ zs.length = cap ∧ (∀ i, i < zs.length → w.cell? (x.add i) = some (.int k (zs.getD i 0))) ∧ ∀ n ∈ zs, (Lit.int k n).wf = true
theorem bel_chain {a b c : World} (h : Below a.heap.size a b) (k : Below b.heap.size b c) : Below a.heap.size a c := h.trans (k.mono h.size)
theorem bel_under {B : Nat} {a b c : World} (h : Below B a b) (hB : B ≤ b.heap.size) (k : Below b.heap.size b c) : Below B a c := h.trans (k.mono hB)
theorem bytes_append (a b : List UInt8) : ((⟨a.toArray⟩ : ByteArray) ++ (⟨b.toArray⟩ : ByteArray)) = ⟨(a ++ b).toArray⟩ := by
  apply ByteArray.ext
  simp [ByteArray.data_append]
theorem ret_bytes {a b : ByteArray} (h : a = b) : Ending.returned (.string a) = .returned (.string b) := by rw [h]
theorem ret_string {a b : List UInt8} (h : a = b) : Ending.returned (.string ⟨a.toArray⟩) = .returned (.string ⟨b.toArray⟩) := by rw [h]
theorem ret_int {k : IntKind} {a b : Int} (h : a = b) : Ending.returned (.int k a) = .returned (.int k b) := by rw [h]
theorem ret_int_yes {k : IntKind} {a b : Int} (h : a = b) : Ending.returned (.tuple #[.int k a, .bool true]) = .returned (.tuple #[.int k b, .bool true]) := by rw [h]
theorem ret_bytes_yes {a b : ByteArray} (h : a = b) : Ending.returned (.tuple #[.string a, .bool true]) = .returned (.tuple #[.string b, .bool true]) := by rw [h]
theorem strCells_append (a b : List UInt8) : Lib.strCells ⟨(a ++ b).toArray⟩ = Lib.strCells ⟨a.toArray⟩ ++ Lib.strCells ⟨b.toArray⟩ := by
  simp [Lib.strCells]
/-- a row's own block is not a block of another type -/
theorem own_ne {w : World} {base : Nat} {e T : TypeId} {size n pb : Nat} {v : Value} {xs : List Value} {c : Array Value} {fr : Nat × Nat} (h : w.ownsRow base e size v n xs) (hb : w.heap[pb]? = some (.cells c T fr)) (hT : T ≠ e) : v.ownBlock ≠ some pb := by
  intro hv
  rcases h.2 with ⟨rfl, _⟩ | ⟨g, cap, cur, rfl, _, hg, _⟩
  · simp [Value.ownBlock] at hv
  · simp [Value.ownBlock] at hv
    subst hv
    rw [hg] at hb
    simp at hb
    exact hT hb.2.1.symm
/-- another block stays behind an append -/
theorem grown_block {w w' : World} {base : Nat} {e T : TypeId} {size n pb : Nat} {v : Value} {xs : List Value} {c : Array Value} {fr : Nat × Nat} (hg : w.grownBy w' v.ownBlock) (h : w.ownsRow base e size v n xs) (hb : w.heap[pb]? = some (.cells c T fr)) (hT : T ≠ e) : w'.heap[pb]? = some (.cells c T fr) := by
  have hlt : pb < w.heap.size := by
    rcases Nat.lt_or_ge pb w.heap.size with h' | h'
    · exact h'
    · simp [Array.getElem?_eq_none h'] at hb
  rw [hg.block pb hlt (fun e => own_ne h hb hT e.symm)]
  exact hb
theorem cell_at {w : World} {b j : Nat} {c : Array Value} {T : TypeId} {fr : Nat × Nat} {v : Value} (h : w.heap[b]? = some (.cells c T fr)) (hv : c[j]? = some v) : w.cell? ⟨b, j, none⟩ = some v := by
  simp [World.cell?, h, hv]
/-- string(b) of a row of bytes that the call owns -/
theorem conv_own {P : Program} (w : World) (src dst e : TypeId) (hs : P.underlying src = some (.slice e)) (he : P.underlying e = some (.int .u8)) (hd : P.underlying dst = some .string)
    (base : Nat) (v : Value) (l : List UInt8) (n : Nat) (hown : w.ownsRow base e 1 v n (Lib.strCells ⟨l.toArray⟩)) : (convert src dst v).run P w = .ok (.string ⟨l.toArray⟩) w := by
  have hlen : n = l.length := by
    have := hown.1
    rw [Lib.strCells_length] at this
    have h2 : (⟨l.toArray⟩ : ByteArray).size = l.length := by show l.toArray.size = l.length; simp
    omega
  subst hlen
  rcases hown.2 with ⟨rfl, hz⟩ | ⟨g, cap, cur, rfl, _, hg, _, _, _, htk⟩
  · have : l = [] := List.eq_nil_of_length_eq_zero hz
    subst this
    exact Lib.run_convert_nil_bytes w src dst e _ hs he hd
  · refine run_convert_bytes_back w src dst e _ cap l hs he hd ?_
    intro j hj
    have hc := hown.cells (g := g) rfl j (.int .u8 (l[j].toNat : Int)) (by simp [Lib.strCells, hj])
    exact hc
end Go.Proofs.YtalnojpdkiimpaaDoor

/- The model's chapter 1 (package spec): contracts of its small functions: the texts by digits. -/
namespace Go.Proofs.YtalnojpdkiimpaaDoor
open Go.RowKit
set_option linter.unusedVariables false
set_option maxRecDepth 100000
theorem l6In_any (n a b : Int) (w : World) : Calls Tryd.prog 27 #[.int .i64 n, .int .i64 a, .int .i64 b] w fun e w' => e = .returned (.bool (decide (a ≤ n ∧ n ≤ b))) ∧ w = w' := by
  by_cases h1 : a ≤ n
  · by_cases h2 : n ≤ b
    · go_enter Tryd.func27, Tryd.ntmps27
      go_wp2
      go_ret
      simp [h1, h2]
    · go_enter Tryd.func27, Tryd.ntmps27
      go_wp2
      go_ret
      simp
      omega
  · go_enter Tryd.func27, Tryd.ntmps27
    go_wp2
    go_ret
    simp
    omega
theorem cells_dig (a b c : UInt8) (d : Nat) (h : d ≤ 9) :
    [Value.string ⟨#[]⟩, Value.string ((⟨#[a, b, c]⟩ : ByteArray).extract 0 1), Value.string ((⟨#[a, b, c]⟩ : ByteArray).extract 0 1 ++ (⟨#[a, b, c]⟩ : ByteArray).extract 0 1),
      Value.string ((⟨#[a, b, c]⟩ : ByteArray).extract 0 1 ++ (⟨#[a, b, c]⟩ : ByteArray).extract 0 1 ++ (⟨#[a, b, c]⟩ : ByteArray).extract 0 1),
      Value.string ((⟨#[a, b, c]⟩ : ByteArray).extract 0 2), Value.string ((⟨#[a, b, c]⟩ : ByteArray).extract 1 2),
      Value.string ((⟨#[a, b, c]⟩ : ByteArray).extract 1 2 ++ (⟨#[a, b, c]⟩ : ByteArray).extract 0 1),
      Value.string ((⟨#[a, b, c]⟩ : ByteArray).extract 1 2 ++ (⟨#[a, b, c]⟩ : ByteArray).extract 0 1 ++ (⟨#[a, b, c]⟩ : ByteArray).extract 0 1),
      Value.string ((⟨#[a, b, c]⟩ : ByteArray).extract 1 2 ++ (⟨#[a, b, c]⟩ : ByteArray).extract 0 1 ++ (⟨#[a, b, c]⟩ : ByteArray).extract 0 1 ++ (⟨#[a, b, c]⟩ : ByteArray).extract 0 1),
      Value.string ((⟨#[a, b, c]⟩ : ByteArray).extract 0 1 ++ (⟨#[a, b, c]⟩ : ByteArray).extract 2 3)][d]? = some (Value.string ⟨(dig a b c d).toArray⟩) := by
  rcases (show d = 0 ∨ d = 1 ∨ d = 2 ∨ d = 3 ∨ d = 4 ∨ d = 5 ∨ d = 6 ∨ d = 7 ∨ d = 8 ∨ d = 9 by omega) with rfl | rfl | rfl | rfl | rfl | rfl | rfl | rfl | rfl | rfl <;> rfl
theorem l1Digit_nat (a b c : UInt8) (d : Nat) (w : World) (h1 : d ≤ 9) : Calls Tryd.prog 56 #[.int .i64 d, .string ⟨#[a, b, c]⟩] w fun e w' => e = .returned (.string ⟨(dig a b c d).toArray⟩) ∧ Below w.heap.size w w' := by
  have hc := cells_dig a b c d h1
  go_enter Tryd.func56, Tryd.ntmps56
  go_wp2
  go_ret
  exact ⟨rfl, (Below.refl _ _).alloc (Nat.le_refl _) _⟩
theorem l1Digit_any (a b c : UInt8) (d : Int) (w : World) (h0 : 0 ≤ d) (h1 : d ≤ 9) : Calls Tryd.prog 56 #[.int .i64 d, .string ⟨#[a, b, c]⟩] w fun e w' => e = .returned (.string ⟨(dig a b c d.toNat).toArray⟩) ∧ Below w.heap.size w w' := by
  obtain ⟨k, rfl⟩ := Int.eq_ofNat_of_zero_le h0
  exact l1Digit_nat a b c k w (by omega)
theorem l6Many_nat (l : List UInt8) (n : Nat) (w : World) (hl : l.length ≤ 4) (h1 : n ≤ 100000) : Calls Tryd.prog 55 #[.string ⟨l.toArray⟩, .int .i64 n] w fun e w' => e = .returned (.string ⟨(many l n).toArray⟩) ∧ w = w' := by
  go_enter Tryd.func55, Tryd.ntmps55
  go_wp2
  go_loop [0, 1, 5] (fun s n' o => ∃ (m : Nat) (sl ol : List UInt8), s = .string ⟨sl.toArray⟩ ∧ n' = .int .i64 (m : Nat) ∧ o = .string ⟨ol.toArray⟩ ∧ m ≤ n ∧ ol ++ many sl m = many l n) (fun _ n' _ => (intOf n').toNat)
  case atStart => exact ⟨n, l, [], rfl, rfl, rfl, Nat.le_refl _, rfl⟩
  case round =>
    obtain ⟨m, sl, ol, rfl, rfl, rfl, hm, ho⟩ := hrel
    have hlen := congrArg List.length ho
    rw [List.length_append, many_length, many_length] at hlen
    have hb1 : n * l.length ≤ 400000 := Nat.le_trans (Nat.mul_le_mul h1 hl) (by decide)
    by_cases hz : m = 0
    · subst hz
      rw [many_zero, List.append_nil] at ho
      have Ho := Lib.hid ho; clear ho hlen
      go_wp2
      go_ret
      exact ⟨ret_string Ho.out, rfl⟩
    · have hb2 : sl.length ≤ m * sl.length := Nat.le_mul_of_pos_left _ (by omega)
      have hb3 : ol.length + sl.length ≤ 9223372036854775807 := by omega
      have hb4 : sl.length + sl.length ≤ 9223372036854775807 := by omega
      have Hl := Lib.hid hb1; clear hlen hb1 hb2
      by_cases hodd : m % 2 = 1
      · have he := many_odd sl m hodd
        rw [he, ← List.append_assoc] at ho
        have Ho := Lib.hid ho; clear ho he
        have ht : ((m : Int) % 2 == 1) = true := by rw [beq_iff_eq]; omega
        have Hodd := Lib.hid hodd; clear hodd
        go_wp2
        go_round
        case rel => exact ⟨m / 2, sl ++ sl, ol ++ sl, by rw [bytes_append], by go_num, by rw [bytes_append], by omega, Ho.out⟩
        case measure => simp [intOf]; omega
      · have he := many_even sl m (by omega)
        rw [he] at ho
        have Ho := Lib.hid ho; clear ho he
        have ht : ((m : Int) % 2 == 1) = false := by rw [beq_eq_false_iff_ne]; omega
        have Hodd := Lib.hid hodd; clear hodd
        go_wp2
        go_round
        case rel => exact ⟨m / 2, sl ++ sl, ol, by rw [bytes_append], by go_num, rfl, by omega, Ho.out⟩
        case measure => simp [intOf]; omega
theorem l6Many_any (l : List UInt8) (n : Int) (w : World) (hl : l.length ≤ 4) (h0 : 0 ≤ n) (h1 : n ≤ 100000) : Calls Tryd.prog 55 #[.string ⟨l.toArray⟩, .int .i64 n] w fun e w' => e = .returned (.string ⟨(many l n.toNat).toArray⟩) ∧ w = w' := by
  obtain ⟨k, rfl⟩ := Int.eq_ofNat_of_zero_le h0
  exact l6Many_nat l k w hl (by omega)
theorem dig_len (a b c : UInt8) (d : Nat) : (dig a b c d).length ≤ 4 := by
  unfold dig; split <;> simp
theorem l1Of_nat (n : Nat) (w : World) (h1 : n ≤ 4000) : Calls Tryd.prog 40 #[.int .i64 n] w fun e w' => e = .returned (.string ⟨(strict n).toArray⟩) ∧ Below w.heap.size w w' := by
  obtain ⟨L1, H1, b1⟩ : ∃ L : List UInt8, Hid (many [77] ((n : Int) / 1000).toNat = L) ∧ L.length ≤ 4 := ⟨_, Lib.hid rfl, by rw [many_length]; simp; omega⟩
  obtain ⟨L2, H2, b2⟩ : ∃ L, Hid (dig 67 68 77 ((n : Int) / 100 % 10).toNat = L) ∧ L.length ≤ 4 := ⟨_, Lib.hid rfl, dig_len _ _ _ _⟩
  obtain ⟨L3, H3, b3⟩ : ∃ L, Hid (dig 88 76 67 ((n : Int) / 10 % 10).toNat = L) ∧ L.length ≤ 4 := ⟨_, Lib.hid rfl, dig_len _ _ _ _⟩
  obtain ⟨L4, H4, b4⟩ : ∃ L, Hid (dig 73 86 88 ((n : Int) % 10).toNat = L) ∧ L.length ≤ 4 := ⟨_, Lib.hid rfl, dig_len _ _ _ _⟩
  have Hfin : Hid (strict n = L1 ++ L2 ++ L3 ++ L4) := by
    rw [← H1.out, ← H2.out, ← H3.out, ← H4.out]
    unfold strict
    rw [show ((n : Int) / 1000).toNat = n / 1000 by omega, show ((n : Int) / 100 % 10).toNat = n / 100 % 10 by omega, show ((n : Int) / 10 % 10).toNat = n / 10 % 10 by omega, show ((n : Int) % 10).toNat = n % 10 by omega]
    rfl
  go_enter Tryd.func40, Tryd.ntmps40
  go_wp2_with fail
  refine (l6Many_any [77] _ _ (by decide) (by omega) (by omega)).mono ?_
  rw [H1.out]
  rintro e w1 ⟨rfl, rfl⟩
  go_wp2_with fail
  refine (l1Digit_any 67 68 77 _ _ (by omega) (by omega)).mono ?_
  rw [H2.out]
  rintro e w1 ⟨rfl, g1⟩
  go_wp2_with fail
  refine (l1Digit_any 88 76 67 _ _ (by omega) (by omega)).mono ?_
  rw [H3.out]
  rintro e w2 ⟨rfl, g2⟩
  go_wp2_with fail
  refine (l1Digit_any 73 86 88 _ _ (by omega) (by omega)).mono ?_
  rw [H4.out]
  rintro e w3 ⟨rfl, g3⟩
  go_wp2_with fail
  go_ret
  exact ⟨ret_bytes (by rw [bytes_append, bytes_append, bytes_append, Hfin.out]), (g1.trans (g2.mono g1.size)).trans (g3.mono (Nat.le_trans g1.size g2.size))⟩
end Go.Proofs.YtalnojpdkiimpaaDoor

/- Small lemmas of my own for walks, second part: no program. -/
namespace Go.Proofs.YtalnojpdkiimpaaDoor
open Go.RowKit
theorem lt_of_block' {w : World} {b : Nat} {o : Obj} (h : w.heap[b]? = some o) : b < w.heap.size := by
  rcases Nat.lt_or_ge b w.heap.size with h' | h'
  · exact h'
  · simp [Array.getElem?_eq_none h'] at h
theorem quiet_mine {P : Program} {f : FuncId} {args : Array Value} {w : World} {n : Nat} {v : Value}
    (h : Calls P f args (w.drewN n) fun e w' => e = .returned v ∧ w.drewN n = w') : Calls P f args (w.drewN n) fun e w'' => e = .returned v ∧ ∃ m, w'' = w.drewN m :=
  h.mono fun _ _ ⟨he, hm⟩ => ⟨he, n, hm.symm⟩
theorem bel_drewN {B : Nat} {a w : World} (h : Below B a w) (n : Nat) : Below B a (w.drewN n) := h.trans ⟨rfl, rfl, rfl, Nat.le_refl _, fun _ _ => rfl⟩
end Go.Proofs.YtalnojpdkiimpaaDoor

/- Slices of integers: what a call reads, what it made. -/
namespace Go.Proofs.YtalnojpdkiimpaaDoor
open Go.RowKit
set_option linter.unusedVariables false
set_option maxRecDepth 100000
theorem info_int : (Tryd.prog.info? 3).map (fun i => (i.zero, i.size, i.bytes)) = some (some (.int .i64 0), 1, 8) := by kernel_rfl
/-- cells of integers -/
def intCells (f : Nat → Int) (n : Nat) : List Value := (List.range n).map fun k => .int .i64 (f k)
theorem intCells_at (f : Nat → Int) (n k : Nat) (h : k < n) : (intCells f n)[k]? = some (.int .i64 (f k)) := by simp [intCells, h]
theorem intCells_len (f : Nat → Int) (n : Nat) : (intCells f n).length = n := by simp [intCells]
theorem intCells_congr {f g : Nat → Int} {n : Nat} (h : ∀ k, k < n → f k = g k) : intCells f n = intCells g n :=
  List.map_congr_left fun k hk => by rw [h k (List.mem_range.1 hk)]
/-- a slice reads as n integers -/
def Ls (w : World) (a : Option Addr) (n : Nat) (f : Nat → Int) : Prop :=
  ∀ k, k < n → ∃ b off, a = some ⟨b, off, none⟩ ∧ b < w.heap.size ∧ w.cell? ⟨b, off + k, none⟩ = some (.int .i64 (f k))
theorem Ls.pos {w : World} {a : Option Addr} {n : Nat} {f : Nat → Int} (h : Ls w a n f) (hn : 0 < n) :
    ∃ b off, a = some ⟨b, off, none⟩ ∧ b < w.heap.size ∧ ∀ k, k < n → w.cell? ⟨b, off + k, none⟩ = some (.int .i64 (f k)) := by
  obtain ⟨b, off, rfl, hb, _⟩ := h 0 hn
  refine ⟨b, off, rfl, hb, fun k hk => ?_⟩
  obtain ⟨b', off', e, _, hc⟩ := h k hk
  simp only [Option.some.injEq, Addr.mk.injEq] at e
  rw [e.1, e.2.1]
  exact hc
theorem Ls.below {w w' : World} {a : Option Addr} {n : Nat} {f : Nat → Int} (h : Ls w a n f) (g : Below w.heap.size w w') : Ls w' a n f := fun k hk => by
  obtain ⟨b, off, e, hb, hc⟩ := h k hk
  exact ⟨b, off, e, Nat.lt_of_lt_of_le hb g.size, (g.cell (p := ⟨b, off + k, none⟩) hb).trans hc⟩
theorem Ls.congr {w : World} {a : Option Addr} {n : Nat} {f g : Nat → Int} (h : Ls w a n f) (e : ∀ k, k < n → f k = g k) : Ls w a n g := fun k hk => by
  obtain ⟨b, off, e1, hb, hc⟩ := h k hk
  exact ⟨b, off, e1, hb, by rw [hc, e k hk]⟩
theorem Ls.le {w : World} {a : Option Addr} {n m : Nat} {f : Nat → Int} (h : Ls w a n f) (hm : m ≤ n) : Ls w a m f := fun k hk => h k (by omega)
theorem Ls.none_ (w : World) (a : Option Addr) (f : Nat → Int) : Ls w a 0 f := fun k hk => by omega
/-- the block of a slice that a call made: just these integers -/
def Own (w : World) (b n : Nat) (f : Nat → Int) : Prop := w.heap[b]? = some (.cells (intCells f n).toArray 3 (0, 0))
theorem Own.lt {w : World} {b n : Nat} {f : Nat → Int} (h : Own w b n f) : b < w.heap.size := lt_of_block' h
theorem Own.cell {w : World} {b n : Nat} {f : Nat → Int} (h : Own w b n f) (k : Nat) (hk : k < n) : w.cell? ⟨b, k, none⟩ = some (.int .i64 (f k)) :=
  cell_at h (by rw [List.getElem?_toArray]; exact intCells_at f n k hk)
theorem Own.frozen {w : World} {b n : Nat} {f : Nat → Int} (h : Own w b n f) (k : Nat) : w.frozen? ⟨b, k, none⟩ = false := by
  unfold Own at h
  simp [World.frozen?, h]
theorem Own.congr {w : World} {b n : Nat} {f g : Nat → Int} (h : Own w b n f) (e : ∀ k, k < n → f k = g k) : Own w b n g := by
  unfold Own at h ⊢
  rw [h, intCells_congr e]
theorem Own.ls {w : World} {b n : Nat} {f : Nat → Int} (h : Own w b n f) : Ls w (some ⟨b, 0, none⟩) n f := fun k hk =>
  ⟨b, 0, rfl, h.lt, by rw [Nat.zero_add]; exact h.cell k hk⟩
theorem Own.keep {w w' : World} {b n : Nat} {f : Nat → Int} (h : Own w b n f) (e : w'.heap[b]? = w.heap[b]?) : Own w' b n f := e.trans h
theorem Own.below {w w' : World} {b n : Nat} {f : Nat → Int} (h : Own w b n f) (g : Below w.heap.size w w') : Own w' b n f := h.keep (g.block b h.lt)
theorem Own.set_ {w : World} {b n : Nat} {f : Nat → Int} (h : Own w b n f) (k : Nat) (x : Int) : Own (w.setCell ⟨b, k, none⟩ (.int .i64 x)) b n (fun j => if j = k then x else f j) := by
  unfold Own at h ⊢
  have e : (intCells f n).toArray.setIfInBounds k (.int .i64 x) = (intCells (fun j => if j = k then x else f j) n).toArray := by
    apply Array.ext
    · simp [intCells]
    · intro i h1 h2
      simp only [Array.size_setIfInBounds, List.size_toArray, intCells_len] at h1
      by_cases e : k = i
      · subst e; simp [intCells]
      · rw [Array.getElem_setIfInBounds_ne (by simpa [intCells] using h1) e]
        simp [intCells, Ne.symm e]
  simp only [World.setCell, Array.getElem?_modify, h, if_true, Option.map_some]
  rw [← e]
  rfl
theorem Own.new (w : World) (n : Nat) (f : Nat → Int) : Own (w.alloc (.cells (intCells f n).toArray 3)) w.heap.size n f := heap_alloc_new w _
theorem made_ints (n : Nat) : madeCells (Value.int .i64 0).cells (n * 1) = (intCells (fun _ => 0) n).toArray := by
  apply Array.ext
  · simp [madeCells, intCells]
  · intro i h1 h2
    simp [madeCells, intCells, Value.cells, Nat.mod_one]
/-- nothing turns but in the blocks from lo on and ahead of hi -/
structure Mid (lo hi : Nat) (w w' : World) : Prop where
  os : w'.os = w.os
  tape : w'.tape = w.tape
  output : w'.output = w.output
  size : w'.heap.size = w.heap.size
  block : ∀ k, ¬ (lo ≤ k ∧ k < hi) → w'.heap[k]? = w.heap[k]?
theorem Mid.refl (lo hi : Nat) (w : World) : Mid lo hi w w := ⟨rfl, rfl, rfl, rfl, fun _ _ => rfl⟩
theorem Mid.below {lo hi B : Nat} {w w' : World} (h : Mid lo hi w w') (hB : B ≤ lo) : Below B w w' := ⟨h.os, h.tape, h.output, Nat.le_of_eq h.size.symm, fun k hk => h.block k (by omega)⟩
theorem Mid.setCell {lo hi : Nat} {w w' : World} (h : Mid lo hi w w') {b : Nat} (h1 : lo ≤ b) (h2 : b < hi) (k : Nat) (u : Value) : Mid lo hi w (w'.setCell ⟨b, k, none⟩ u) :=
  ⟨h.os, h.tape, h.output, by simp [World.setCell, h.size], fun j hj => (Below.heap_setCell _ _ _ _ (fun e => hj (by simp at e; omega))).trans (h.block j hj)⟩
theorem Mid.drewN {lo hi : Nat} {w w' : World} (h : Mid lo hi w w') (q : Nat) : Mid lo hi w (w'.drewN q) := ⟨h.os, h.tape, h.output, h.size, h.block⟩
theorem Mid.mono {lo hi lo' hi' : Nat} {w w' : World} (h : Mid lo hi w w') (h1 : lo' ≤ lo) (h2 : hi ≤ hi') : Mid lo' hi' w w' := ⟨h.os, h.tape, h.output, h.size, fun k hk => h.block k (by omega)⟩
theorem Mid.bel {lo hi B : Nat} {w w1 w2 : World} (g : Mid lo hi w1 w2) (h : Below B w w1) (hB : B ≤ lo) : Below B w w2 := h.trans (g.below hB)
/-- a slice that a call made, its block from lo on and ahead of hi (an empty one may lie anywhere) -/
def Res (w : World) (lo hi : Nat) (a : Option Addr) (n : Nat) (f : Nat → Int) : Prop := n = 0 ∨ ∃ b, a = some ⟨b, 0, none⟩ ∧ lo ≤ b ∧ b < hi ∧ Own w b n f
theorem Res.ls {w : World} {lo hi n : Nat} {a : Option Addr} {f : Nat → Int} (h : Res w lo hi a n f) : Ls w a n f := by
  rcases h with rfl | ⟨b, rfl, _, _, h⟩
  · exact Ls.none_ _ _ _
  · exact h.ls
theorem Res.congr {w : World} {lo hi n : Nat} {a : Option Addr} {f g : Nat → Int} (h : Res w lo hi a n f) (e : ∀ k, k < n → f k = g k) : Res w lo hi a n g := by
  rcases h with rfl | ⟨b, rfl, h1, h2, h⟩
  · exact .inl rfl
  · exact .inr ⟨b, rfl, h1, h2, h.congr e⟩
theorem Res.mono {w : World} {lo hi lo' hi' n : Nat} {a : Option Addr} {f : Nat → Int} (h : Res w lo hi a n f) (h1 : lo' ≤ lo) (h2 : hi ≤ hi') : Res w lo' hi' a n f := by
  rcases h with rfl | ⟨b, rfl, g1, g2, h⟩
  · exact .inl rfl
  · exact .inr ⟨b, rfl, by omega, by omega, h⟩
theorem Res.below {w w' : World} {lo hi n : Nat} {a : Option Addr} {f : Nat → Int} (h : Res w lo hi a n f) (g : Below w.heap.size w w') : Res w' lo hi a n f := by
  rcases h with rfl | ⟨b, rfl, h1, h2, h⟩
  · exact .inl rfl
  · exact .inr ⟨b, rfl, h1, h2, h.below g⟩
theorem Res.mid {w w' : World} {lo hi lo' hi' n : Nat} {a : Option Addr} {f : Nat → Int} (h : Res w lo hi a n f) (g : Mid lo' hi' w w') (hd : hi ≤ lo' ∨ hi' ≤ lo) : Res w' lo hi a n f := by
  rcases h with rfl | ⟨b, rfl, h1, h2, h⟩
  · exact .inl rfl
  · exact .inr ⟨b, rfl, h1, h2, h.keep (g.block b (by omega))⟩
theorem Own.res {w : World} {b n : Nat} {f : Nat → Int} (h : Own w b n f) : Res w b (b + 1) (some ⟨b, 0, none⟩) n f := .inr ⟨b, rfl, Nat.le_refl _, by omega, h⟩
theorem Res.none_ (w : World) (lo hi : Nat) (a : Option Addr) (f : Nat → Int) : Res w lo hi a 0 f := .inl rfl
/-- a row that came in reads as a slice -/
theorem IsRow.ls {w : World} {a : Option Addr} {len cap : Nat} {zs : List Int} (h : IsRow .i64 w a len cap zs) : Ls w a len (fun k => zs.getD k 0) := by
  rcases h with ⟨rfl, rfl, rfl, rfl⟩ | ⟨x, rfl, hl, hm, hz, hc, hw⟩
  · exact Ls.none_ _ _ _
  · intro k hk
    obtain ⟨b, off, spot⟩ := x
    have hci := hc k (by omega)
    have hspot : spot = none := by
      have := World.cell?_spot (hc 0 (by omega))
      simpa [Addr.add] using this
    subst hspot
    have e : (⟨b, off, none⟩ : Addr).add k = ⟨b, off + k, none⟩ := by unfold Addr.add; split <;> simp_all
    rw [e] at hci
    exact ⟨b, off, rfl, World.block_lt_of_cell? w _ hci, hci⟩
theorem IsRow.fit {w : World} {a : Option Addr} {len cap : Nat} {zs : List Int} (h : IsRow .i64 w a len cap zs) (k : Nat) (hk : k < len) : -9223372036854775808 ≤ zs.getD k 0 ∧ zs.getD k 0 ≤ 9223372036854775807 := by
  rcases h with ⟨rfl, rfl, rfl, rfl⟩ | ⟨x, rfl, hl, hm, hz, hc, hw⟩
  · omega
  · have hwf := hw (zs.getD k 0) (by rw [List.getD_eq_getElem?_getD, List.getElem?_eq_getElem (by omega)]; exact List.getElem_mem _)
    simp only [Lit.wf, Bool.and_eq_true, decide_eq_true_eq] at hwf
    exact hwf
theorem IsRow.max {w : World} {a : Option Addr} {len cap : Nat} {zs : List Int} (h : IsRow .i64 w a len cap zs) : len ≤ 9223372036854775807 := by
  rcases h with ⟨rfl, rfl, rfl, rfl⟩ | ⟨x, rfl, hl, hm, hz, hc, hw⟩
  · omega
  · unfold maxLen at hm; omega
end Go.Proofs.YtalnojpdkiimpaaDoor

/- The laws' own helpers over slices: toIntS, eqIntS, markIntS, heldIntS, sameInts. -/
namespace Go.Proofs.YtalnojpdkiimpaaDoor
open Go.RowKit
set_option linter.unusedVariables false
set_option maxRecDepth 100000
theorem wpList_make_ints {P : Program} (w : World) {ops : Array Oper} {rest : List Oper} {o : Oper} {a : Act} {Q : Exit → Act → World → Prop}
    (hg : o.guard = none) (l c : Operand) (t : TypeId) (hop : o.op = Op.makeSlice t l c)
    (i : TypeInfo) (ht : P.underlying t = some (.slice 3)) (hi : P.info? 3 = some i) (hz : i.zero = some (.int .i64 0)) (hsize : i.size = 1) (hby : i.bytes = 8)
    (n : Nat) (hn : n ≤ 10000000) (hl : a.eval l = .int .i64 (n : Int)) (hc : a.eval c = .int .i64 (n : Int))
    (hK : ∀ w', Own w' w.heap.size n (fun _ => 0) → Below w.heap.size w w' → w'.heap.size = w.heap.size + 1 → wpList P ops Q rest (a.put o.dst (.slice (some ⟨w.heap.size, 0, none⟩) n n)) w') :
    wpList P ops Q (o :: rest) a w := by
  refine wpList_plain hg fun K hK' => ?_
  have hb' : (i.bytes : Int) * (n : Int) ≤ 281474976710656 := by rw [hby]; omega
  have hrun := run_make (P := P) w t 3 i (.int .i64 0) ht hi hz .i64 .i64 n n (by omega) (Int.le_refl _) hb' (by omega)
  simp only [Int.toNat_natCast, hsize, made_ints] at hrun
  unfold Oper.wp
  simp [execOp, hop, hl, hc, hrun, Result.andThen]
  exact hK' _ _ (hK _ (Own.new w n _) ((Below.refl _ _).alloc (Nat.le_refl _) _) (by simp))
theorem Own.upto {w : World} {b n k : Nat} {f : Nat → Int} (h : Own w b n (fun j => if j < k then f j else 0)) : Own (w.setCell ⟨b, k, none⟩ (.int .i64 (f k))) b n (fun j => if j < k + 1 then f j else 0) :=
  (h.set_ k (f k)).congr fun j hj => by
    by_cases e : j = k
    · subst e; simp
    · rw [if_neg e]
      by_cases h2 : j < k
      · rw [if_pos h2, if_pos (by omega)]
      · rw [if_neg h2, if_neg (by omega)]
end Go.Proofs.YtalnojpdkiimpaaDoor

/- Piles of signs, plain: values, plain piles, carries, sizes. No program. -/
namespace Go.Proofs.YtalnojpdkiimpaaDoor
set_option linter.unusedVariables false
set_option maxRecDepth 100000
/-- f 0 + .. + f (k - 1) -/
def sumF (f : Nat → Int) : Nat → Int
  | 0 => 0
  | k + 1 => sumF f k + f k
theorem sumF_congr {f g : Nat → Int} : ∀ (k : Nat), (∀ j, j < k → f j = g j) → sumF f k = sumF g k
  | 0, _ => rfl
  | k + 1, h => by unfold sumF; rw [sumF_congr k (fun j hj => h j (by omega)), h k (by omega)]
theorem sumF_add (f g : Nat → Int) : ∀ k, sumF (fun j => f j + g j) k = sumF f k + sumF g k
  | 0 => rfl
  | k + 1 => by have := sumF_add f g k; simp only [sumF]; omega
theorem sumF_nonneg {f : Nat → Int} : ∀ (k : Nat), (∀ j, j < k → 0 ≤ f j) → 0 ≤ sumF f k
  | 0, _ => Int.le_refl _
  | k + 1, h => by have := sumF_nonneg k (fun j hj => h j (by omega)); have := h k (by omega); simp only [sumF]; omega
theorem sumF_le {f g : Nat → Int} : ∀ (k : Nat), (∀ j, j < k → f j ≤ g j) → sumF f k ≤ sumF g k
  | 0, _ => Int.le_refl _
  | k + 1, h => by have := sumF_le k (fun j hj => h j (by omega)); have := h k (by omega); simp only [sumF]; omega
theorem sumF_mono {f : Nat → Int} {k n : Nat} (h : ∀ j, j < n → 0 ≤ f j) (hk : k ≤ n) : sumF f k ≤ sumF f n := by
  induction n with
  | zero => obtain rfl : k = 0 := by omega
            exact Int.le_refl _
  | succ n ih =>
    by_cases e : k = n + 1
    · subst e; exact Int.le_refl _
    · have := ih (fun j hj => h j (by omega)) (by omega); have := h n (by omega); simp only [sumF]; omega
theorem sumF_zero {f : Nat → Int} : ∀ (k : Nat), (∀ j, j < k → 0 ≤ f j) → sumF f k = 0 → ∀ j, j < k → f j = 0
  | 0, _, _, j, hj => by omega
  | k + 1, h, h0, j, hj => by
    have h1 := sumF_nonneg k (fun j hj => h j (by omega))
    have h2 := h k (by omega)
    simp only [sumF] at h0
    by_cases e : j = k
    · subst e; omega
    · exact sumF_zero k (fun j hj => h j (by omega)) (by omega) j (by omega)
theorem sumF_none {f : Nat → Int} : ∀ (k : Nat), (∀ j, j < k → f j = 0) → sumF f k = 0
  | 0, _ => rfl
  | k + 1, h => by have := sumF_none k (fun j hj => h j (by omega)); have := h k (by omega); simp only [sumF]; omega

/-- a system of n values -/
structure SysF (v : Nat → Int) (n : Nat) : Prop where
  len : 1 ≤ n
  one : v 0 = 1
  pos : ∀ j, j < n → 1 ≤ v j
  step : ∀ j, j + 1 < n → v j < v (j + 1) ∧ v (j + 1) % v j = 0
/-- as many of value j as make one of the next one -/
def rat (v : Nat → Int) (j : Nat) : Int := v (j + 1) / v j
theorem SysF.rat_eq {v : Nat → Int} {n j : Nat} (h : SysF v n) (hj : j + 1 < n) : v (j + 1) = v j * rat v j := by
  have := Int.mul_ediv_add_emod (v (j + 1)) (v j)
  have := (h.step j hj).2
  unfold rat
  omega
theorem SysF.rat_two {v : Nat → Int} {n j : Nat} (h : SysF v n) (hj : j + 1 < n) : 2 ≤ rat v j := by
  have h1 := h.rat_eq hj
  have h2 := (h.step j hj).1
  have h3 := h.pos j (by omega)
  by_cases h4 : rat v j ≤ 1
  · have := Int.mul_le_mul_of_nonneg_left h4 (by omega : 0 ≤ v j)
    omega
  · omega
theorem SysF.dvd {v : Nat → Int} {n : Nat} (h : SysF v n) {i : Nat} : ∀ {j : Nat}, i ≤ j → j < n → v i ∣ v j
  | 0, hi, _ => by obtain rfl : i = 0 := by omega
                   exact Int.dvd_refl _
  | j + 1, hi, hj => by
    by_cases e : i = j + 1
    · subst e; exact Int.dvd_refl _
    · exact Int.dvd_trans (h.dvd (by omega : i ≤ j) (by omega)) (Int.dvd_of_emod_eq_zero (h.step j hj).2)
/-- the value of a pile's first k numbers -/
def val (v p : Nat → Int) (k : Nat) : Int := sumF (fun j => v j * p j) k
theorem val_add (v p q : Nat → Int) (k : Nat) : val v (fun j => p j + q j) k = val v p k + val v q k := by
  unfold val
  rw [← sumF_add]
  exact sumF_congr k fun j _ => Int.mul_add _ _ _
/-- what is left of a number for the values ahead of j -/
def rest (v : Nat → Int) (n : Nat) (N : Int) (j : Nat) : Int := if j < n then N % v j else N
/-- the plain pile -/
def pl (v : Nat → Int) (n : Nat) (N : Int) (j : Nat) : Int := rest v n N (j + 1) / v j
theorem rest_step {v : Nat → Int} {n : Nat} (h : SysF v n) (N : Int) (j : Nat) (hj : j < n) : rest v n N j = rest v n N (j + 1) % v j := by
  unfold rest
  rw [if_pos hj]
  by_cases h1 : j + 1 < n
  · rw [if_pos h1, Int.emod_emod_of_dvd N (h.dvd (by omega) h1)]
  · rw [if_neg h1]
theorem rest_nonneg {v : Nat → Int} {n : Nat} (h : SysF v n) (N : Int) (h0 : 0 ≤ N) (j : Nat) : 0 ≤ rest v n N j := by
  unfold rest
  split
  · rename_i hj; have := h.pos j hj; exact Int.emod_nonneg _ (by omega)
  · exact h0
theorem rest_le {v : Nat → Int} {n : Nat} (h : SysF v n) (N : Int) (h0 : 0 ≤ N) (j : Nat) : rest v n N j ≤ N := by
  unfold rest
  split
  · rename_i hj
    have := h.pos j hj
    have h1 := Int.mul_ediv_add_emod N (v j)
    have h2 : 0 ≤ v j * (N / v j) := Int.mul_nonneg (by omega) (Int.ediv_nonneg h0 (by omega))
    omega
  · exact Int.le_refl _
theorem pl_nonneg {v : Nat → Int} {n : Nat} (h : SysF v n) (N : Int) (h0 : 0 ≤ N) (j : Nat) (hj : j < n) : 0 ≤ pl v n N j :=
  Int.ediv_nonneg (rest_nonneg h N h0 _) (by have := h.pos j hj; omega)
theorem pl_le {v : Nat → Int} {n : Nat} (h : SysF v n) (N : Int) (h0 : 0 ≤ N) (j : Nat) (hj : j < n) : pl v n N j ≤ N :=
  Int.le_trans (Int.ediv_le_self _ (rest_nonneg h N h0 _)) (rest_le h N h0 _)
/-- a pile is plain -/
def Plain (v p : Nat → Int) (n : Nat) : Prop := ∀ j, j + 1 < n → p j < rat v j
theorem pl_plain {v : Nat → Int} {n : Nat} (h : SysF v n) (N : Int) : Plain v (pl v n N) n := by
  intro j hj
  have h1 := h.pos j (by omega)
  have h2 := h.pos (j + 1) hj
  unfold pl rest
  rw [if_pos hj]
  have h3 := h.rat_eq hj
  have h4 := Int.emod_lt_of_pos N (by omega : 0 < v (j + 1))
  refine Int.ediv_lt_of_lt_mul (by omega) ?_
  rw [Int.mul_comm]
  omega
theorem pl_val {v : Nat → Int} {n : Nat} (h : SysF v n) (N : Int) : ∀ k, k ≤ n → val v (pl v n N) k = rest v n N k
  | 0, _ => by
    have := h.len
    unfold rest
    rw [if_pos (by omega), h.one, Int.emod_one]
    rfl
  | k + 1, hk => by
    have ih := pl_val h N k (by omega)
    have h1 := rest_step h N k (by omega)
    have h2 := Int.mul_ediv_add_emod (rest v n N (k + 1)) (v k)
    unfold val at ih ⊢
    simp only [sumF]
    rw [ih, h1]
    show _ + v k * (rest v n N (k + 1) / v k) = _
    omega
theorem pl_value {v : Nat → Int} {n : Nat} (h : SysF v n) (N : Int) : val v (pl v n N) n = N := by
  rw [pl_val h N n (Nat.le_refl _)]
  unfold rest
  rw [if_neg (by omega)]
/-- what a plain pile's first numbers tell is less than the next value -/
theorem plain_lt {v p : Nat → Int} {n : Nat} (h : SysF v n) (h0 : ∀ j, j < n → 0 ≤ p j) (hp : Plain v p n) : ∀ k, k < n → 0 ≤ val v p k ∧ val v p k < v k
  | 0, _ => by have := h.one; unfold val sumF; omega
  | k + 1, hk => by
    obtain ⟨a, b⟩ := plain_lt h h0 hp k (by omega)
    have h1 := h.rat_eq hk
    have h2 := hp k hk
    have h3 := h0 k (by omega)
    have h4 := h.pos k (by omega)
    have h5 : 0 ≤ v k * p k := Int.mul_nonneg (by omega) h3
    have h6 : v k * (p k + 1) ≤ v k * rat v k := Int.mul_le_mul_of_nonneg_left (by omega) (by omega)
    rw [Int.mul_add, Int.mul_one] at h6
    unfold val at a b ⊢
    simp only [sumF]
    omega
/-- the whole value is what the first numbers tell, and a multiple of the next value -/
theorem val_split {v p : Nat → Int} {n : Nat} (h : SysF v n) (k : Nat) (hk : k < n) : ∀ m, k ≤ m → m ≤ n → ∃ c, val v p m = val v p k + v k * c := by
  intro m hkm
  induction m with
  | zero => intro _; obtain rfl : k = 0 := by omega
            exact ⟨0, by simp⟩
  | succ m ih =>
    intro hm
    by_cases e : k = m + 1
    · subst e; exact ⟨0, by simp⟩
    · obtain ⟨c, hc⟩ := ih (by omega) (by omega)
      obtain ⟨d, hd⟩ := h.dvd (show k ≤ m by omega) (by omega)
      refine ⟨c + d * p m, ?_⟩
      show sumF _ m + v m * p m = _
      have hc' : sumF (fun j => v j * p j) m = val v p k + v k * c := hc
      rw [hc', hd, Int.mul_add, Int.mul_assoc, Int.add_assoc]
/-- there is one plain pile for each number -/
theorem plain_unique {v p : Nat → Int} {n : Nat} (h : SysF v n) (h0 : ∀ j, j < n → 0 ≤ p j) (hp : Plain v p n) (k : Nat) (hk : k < n) : p k = pl v n (val v p n) k := by
  have hr : rest v n (val v p n) (k + 1) = val v p (k + 1) := by
    unfold rest
    by_cases e : k + 1 < n
    · rw [if_pos e]
      obtain ⟨c, hc⟩ := val_split (p := p) h (k + 1) e n (by omega) (Nat.le_refl _)
      have h1 := plain_lt h h0 hp (k + 1) e
      rw [hc, Int.add_mul_emod_self_left]
      exact Int.emod_eq_of_lt h1.1 h1.2
    · rw [if_neg e, show k + 1 = n by omega]
  have h1 := plain_lt h h0 hp k hk
  have h2 := h.pos k hk
  unfold pl
  rw [hr]
  show _ = (sumF (fun j => v j * p j) k + v k * p k) / v k
  rw [Int.add_mul_ediv_left _ _ (by omega : v k ≠ 0)]
  have h3 : sumF (fun j => v j * p j) k / v k = 0 := Int.ediv_eq_zero_of_lt h1.1 h1.2
  omega
/-- how many are exchanged for value j -/
def car (v p : Nat → Int) : Nat → Int
  | 0 => 0
  | j + 1 => (p j + car v p j) / rat v j
/-- the pile when all is exchanged -/
def exq (v p : Nat → Int) (n j : Nat) : Int := if j + 1 < n then (p j + car v p j) % rat v j else p j + car v p j
/-- how many exchanges for the first values -/
def stp (v p : Nat → Int) (k : Nat) : Int := sumF (fun j => car v p (j + 1)) k
theorem car_nonneg {v p : Nat → Int} {n : Nat} (h : SysF v n) (h0 : ∀ j, j < n → 0 ≤ p j) : ∀ j, j < n → 0 ≤ car v p j
  | 0, _ => Int.le_refl _
  | j + 1, hj => by
    have := car_nonneg h h0 j (by omega)
    have := h.rat_two hj
    have := h0 j (by omega)
    exact Int.ediv_nonneg (by omega) (by omega)
theorem car_le {v p : Nat → Int} {n : Nat} {M : Int} (h : SysF v n) (h0 : ∀ j, j < n → 0 ≤ p j) (h1 : ∀ j, j < n → p j ≤ M) (hM : 0 ≤ M) : ∀ j, j < n → car v p j ≤ M
  | 0, _ => hM
  | j + 1, hj => by
    have a := car_le h h0 h1 hM j (by omega)
    have b := h.rat_two hj
    have c := h1 j (by omega)
    have d := h0 j (by omega)
    have e := car_nonneg h h0 j (by omega)
    refine Int.ediv_le_of_le_mul (by omega) ?_
    have : M * 2 ≤ M * rat v j := Int.mul_le_mul_of_nonneg_left b hM
    omega
theorem exq_nonneg {v p : Nat → Int} {n : Nat} (h : SysF v n) (h0 : ∀ j, j < n → 0 ≤ p j) (j : Nat) (hj : j < n) : 0 ≤ exq v p n j := by
  unfold exq
  split
  · rename_i e; have := h.rat_two e; exact Int.emod_nonneg _ (by omega)
  · have := car_nonneg h h0 j hj; have := h0 j hj; omega
theorem exq_plain {v p : Nat → Int} {n : Nat} (h : SysF v n) : Plain v (exq v p n) n := by
  intro j hj
  unfold exq
  rw [if_pos hj]
  have := h.rat_two hj
  exact Int.emod_lt_of_pos _ (by omega)
theorem exq_step {v p : Nat → Int} {n : Nat} (j : Nat) (hj : j + 1 < n) : p j + car v p j = rat v j * car v p (j + 1) + exq v p n j := by
  unfold exq
  rw [if_pos hj]
  show _ = rat v j * ((p j + car v p j) / rat v j) + _
  have := Int.mul_ediv_add_emod (p j + car v p j) (rat v j)
  omega
theorem exq_val {v p : Nat → Int} {n : Nat} (h : SysF v n) : ∀ k, k < n → val v p k = val v (exq v p n) k + v k * car v p k
  | 0, _ => by simp [val, sumF, car]
  | k + 1, hk => by
    have ih := exq_val (p := p) h k (by omega)
    have h1 := exq_step (p := p) (v := v) k hk
    have h2 := h.rat_eq hk
    have h3 : v k * (p k + car v p k) = v k * rat v k * car v p (k + 1) + v k * exq v p n k := by rw [h1, Int.mul_add, Int.mul_assoc]
    rw [← h2, Int.mul_add] at h3
    unfold val at ih ⊢
    simp only [sumF]
    omega
theorem exq_value {v p : Nat → Int} {n : Nat} (h : SysF v n) : val v (exq v p n) n = val v p n := by
  obtain ⟨m, rfl⟩ : ∃ m, n = m + 1 := ⟨n - 1, by have := h.len; omega⟩
  have h1 := exq_val (p := p) h m (by omega)
  have h2 : exq v p (m + 1) m = p m + car v p m := by unfold exq; rw [if_neg (by omega)]
  have h3 : v m * exq v p (m + 1) m = v m * p m + v m * car v p m := by rw [h2, Int.mul_add]
  unfold val at h1 ⊢
  simp only [sumF]
  omega
theorem exq_pl {v p : Nat → Int} {n : Nat} (h : SysF v n) (h0 : ∀ j, j < n → 0 ≤ p j) (k : Nat) (hk : k < n) : exq v p n k = pl v n (val v p n) k := by
  rw [plain_unique h (exq_nonneg h h0) (exq_plain h) k hk, exq_value h]
theorem stp_nonneg {v p : Nat → Int} {n : Nat} (h : SysF v n) (h0 : ∀ j, j < n → 0 ≤ p j) (k : Nat) (hk : k < n) : 0 ≤ stp v p k :=
  sumF_nonneg k fun j hj => car_nonneg h h0 (j + 1) (by omega)
theorem size_step {v p : Nat → Int} {n : Nat} (h : SysF v n) (h0 : ∀ j, j < n → 0 ≤ p j) : ∀ k, k < n → sumF (exq v p n) k + car v p k + stp v p k ≤ sumF p k
  | 0, _ => by simp [sumF, car, stp]
  | k + 1, hk => by
    have ih := size_step h h0 k (by omega)
    have h1 := exq_step (p := p) (v := v) k hk
    have h2 := h.rat_two hk
    have h3 := car_nonneg h h0 (k + 1) hk
    have h4 : car v p (k + 1) * 2 ≤ car v p (k + 1) * rat v k := Int.mul_le_mul_of_nonneg_left h2 h3
    rw [Int.mul_comm (car v p (k + 1)) (rat v k)] at h4
    unfold stp at ih ⊢
    simp only [sumF]
    omega
/-- exchanges save signs: at least one each -/
theorem size_saved {v p : Nat → Int} {n : Nat} (h : SysF v n) (h0 : ∀ j, j < n → 0 ≤ p j) : sumF (pl v n (val v p n)) n + stp v p (n - 1) ≤ sumF p n := by
  rw [← sumF_congr n fun j hj => exq_pl h h0 j hj]
  obtain ⟨m, rfl⟩ : ∃ m, n = m + 1 := ⟨n - 1, by have := h.len; omega⟩
  have h1 := size_step h h0 m (by omega)
  have h2 : exq v p (m + 1) m = p m + car v p m := by unfold exq; rw [if_neg (by omega)]
  rw [Nat.add_sub_cancel]
  simp only [sumF]
  omega
theorem size_plain {v p : Nat → Int} {n : Nat} (h : SysF v n) (h0 : ∀ j, j < n → 0 ≤ p j) : sumF (pl v n (val v p n)) n ≤ sumF p n := by
  have := size_saved h h0
  have := stp_nonneg h h0 (n - 1) (by have := h.len; omega)
  omega
theorem plain_car {v p : Nat → Int} {n : Nat} (h : SysF v n) (h0 : ∀ j, j < n → 0 ≤ p j) (hp : Plain v p n) : ∀ j, j < n → car v p j = 0
  | 0, _ => rfl
  | j + 1, hj => by
    have ih := plain_car h h0 hp j (by omega)
    have h1 := hp j hj
    have h2 := h0 j (by omega)
    show (p j + car v p j) / rat v j = 0
    rw [ih, Int.add_zero]
    exact Int.ediv_eq_zero_of_lt h2 h1
theorem stp_plain {v p : Nat → Int} {n : Nat} (h : SysF v n) (h0 : ∀ j, j < n → 0 ≤ p j) : stp v p (n - 1) = 0 ↔ Plain v p n := by
  have hn := h.len
  constructor
  · intro hz j hj
    have hc := sumF_zero (n - 1) (fun j hj => car_nonneg h h0 (j + 1) (by omega)) hz
    have h1 : (p j + car v p j) / rat v j = 0 := hc j (by omega)
    have h2 := h.rat_two hj
    have h3 := car_nonneg h h0 j (by omega)
    have h4 := h0 j (by omega)
    have h5 := Int.lt_ediv_add_one_mul_self (p j + car v p j) (by omega : 0 < rat v j)
    rw [h1] at h5
    omega
  · intro hp
    exact sumF_none (n - 1) fun j hj => plain_car h h0 hp (j + 1) (by omega)
theorem exq_plain_eq {v p : Nat → Int} {n : Nat} (h : SysF v n) (h0 : ∀ j, j < n → 0 ≤ p j) : (∀ j, j < n → p j = exq v p n j) ↔ Plain v p n := by
  constructor
  · intro he j hj
    rw [he j (by omega)]
    exact exq_plain h j hj
  · intro hp j hj
    rw [plain_unique h h0 hp j hj, ← exq_pl h h0 j hj]
/-- one sign of value i -/
def unit (i j : Nat) : Int := if j = i then 1 else 0
theorem unit_sum (f : Nat → Int) (i : Nat) : ∀ k, sumF (fun j => f j * unit i j) k = if i < k then f i else 0
  | 0 => rfl
  | k + 1 => by
    have ih := unit_sum f i k
    simp only [sumF]
    rw [ih]
    unfold unit
    by_cases e : k = i
    · subst e; simp
    · rw [if_neg e]
      by_cases h : i < k
      · rw [if_pos h, if_pos (by omega)]; simp
      · rw [if_neg h, if_neg (by omega)]; simp
theorem unit_pl {v : Nat → Int} {n : Nat} (h : SysF v n) (i : Nat) (hi : i < n) (j : Nat) (hj : j < n) : pl v n (v i) j = unit i j := by
  have h1 : val v (unit i) n = v i := by unfold val; rw [unit_sum, if_pos hi]
  have h2 := plain_unique (p := unit i) h (fun j _ => by unfold unit; split <;> omega) (fun j hj => by have := h.rat_two hj; unfold unit; split <;> omega) j hj
  rw [h1] at h2
  exact h2.symm
theorem unit_size (i n : Nat) (hi : i < n) : sumF (unit i) n = 1 := by
  have := unit_sum (fun _ => 1) i n
  rw [if_pos hi] at this
  rw [← this]
  exact sumF_congr n fun j _ => by simp
theorem zero_pl {v : Nat → Int} {n : Nat} (h : SysF v n) (j : Nat) (hj : j < n) : pl v n 0 j = 0 := by
  have h1 := pl_nonneg h 0 (Int.le_refl _) j hj
  have h2 := pl_le h 0 (Int.le_refl _) j hj
  omega
/-- sizes are at most values -/
theorem size_val {v p : Nat → Int} {n : Nat} (h : SysF v n) (h0 : ∀ j, j < n → 0 ≤ p j) : sumF p n ≤ val v p n :=
  sumF_le n fun j hj => by
    have h1 := h.pos j hj
    have := Int.mul_le_mul_of_nonneg_right h1 (h0 j hj)
    omega
theorem size_zero {v p : Nat → Int} {n : Nat} (h : SysF v n) (h0 : ∀ j, j < n → 0 ≤ p j) : sumF p n = 0 ↔ val v p n = 0 := by
  constructor
  · intro hz
    exact sumF_none n fun j hj => by show v j * p j = 0; rw [sumF_zero n h0 hz j hj, Int.mul_zero]
  · intro hz
    have := size_val h h0
    have := sumF_nonneg n h0
    omega
theorem val_le {v p : Nat → Int} {n : Nat} {V M : Int} (h0 : ∀ j, j < n → 0 ≤ p j) (h1 : ∀ j, j < n → p j ≤ M) (g0 : ∀ j, j < n → 0 ≤ v j) (g1 : ∀ j, j < n → v j ≤ V) (hV : 0 ≤ V) : ∀ k, k ≤ n → val v p k ≤ k * (V * M)
  | 0, _ => by simp [val, sumF]
  | k + 1, hk => by
    have ih := val_le h0 h1 g0 g1 hV k (by omega)
    have a : v k * p k ≤ V * M := Int.le_trans (Int.mul_le_mul_of_nonneg_right (g1 k (by omega)) (h0 k (by omega))) (Int.mul_le_mul_of_nonneg_left (h1 k (by omega)) hV)
    unfold val at ih ⊢
    simp only [sumF]
    have : ((k + 1 : Nat) : Int) * (V * M) = k * (V * M) + V * M := by rw [Int.natCast_add, Int.add_mul]; simp
    omega
end Go.Proofs.YtalnojpdkiimpaaDoor

/- The model's chapter 2 (package spec): PileIn. -/
namespace Go.Proofs.YtalnojpdkiimpaaDoor
open Go.RowKit
set_option linter.unusedVariables false
set_option maxRecDepth 100000
/-- what PileIn has looked at when it comes to number k -/
def Chk (f : Nat → Int) (k : Nat) : Prop := (0 < k → f 0 = 1) ∧ (∀ j, j < k → 1 ≤ f j ∧ f j ≤ 1000000) ∧ ∀ j, j + 1 < k → f j < f (j + 1) ∧ f (j + 1) % f j = 0
theorem Chk.mono {f : Nat → Int} {k n : Nat} (h : Chk f n) (hk : k ≤ n) : Chk f k := ⟨fun h0 => h.1 (by omega), fun j hj => h.2.1 j (by omega), fun j hj => h.2.2 j (by omega)⟩
/-- a list is a system -/
def sysB (f : Nat → Int) (n : Nat) : Bool :=
  decide (1 ≤ n ∧ n ≤ 6 ∧ f 0 = 1 ∧ (∀ j, j < n → 1 ≤ f j ∧ f j ≤ 1000000) ∧ ∀ j, j < n - 1 → f j < f (j + 1) ∧ f (j + 1) % f j = 0)
theorem sysB_chk (f : Nat → Int) (n : Nat) : sysB f n = true ↔ Chk f n ∧ 1 ≤ n ∧ n ≤ 6 := by
  unfold sysB
  rw [decide_eq_true_eq]
  constructor
  · rintro ⟨h1, h2, h3, h4, h5⟩
    exact ⟨⟨fun _ => h3, h4, fun j hj => h5 j (by omega)⟩, h1, h2⟩
  · rintro ⟨⟨h3, h4, h5⟩, h1, h2⟩
    exact ⟨h1, h2, h3 (by omega), h4, fun j hj => h5 j (by omega)⟩
theorem sysB_sys {f : Nat → Int} {n : Nat} (h : sysB f n = true) : SysF f n ∧ n ≤ 6 ∧ ∀ j, j < n → f j ≤ 1000000 := by
  obtain ⟨⟨h3, h4, h5⟩, h1, h2⟩ := (sysB_chk f n).1 h
  exact ⟨⟨h1, h3 (by omega), fun j hj => (h4 j hj).1, h5⟩, h2, fun j hj => (h4 j hj).2⟩
theorem sysB_not {f : Nat → Int} {n k : Nat} (hk : k ≤ n) (h : ¬ Chk f k) : sysB f n = false := by
  rw [Bool.eq_false_iff]
  intro h'
  exact h (((sysB_chk f n).1 h').1.mono hk)
theorem sysB_congr {f g : Nat → Int} {n : Nat} (h : ∀ j, j < n → f j = g j) : sysB f n = sysB g n := by
  rw [Bool.eq_iff_iff, sysB_chk, sysB_chk]
  have key : ∀ {f g : Nat → Int}, (∀ j, j < n → f j = g j) → Chk f n → Chk g n := by
    intro f g h c
    refine ⟨fun h0 => by rw [← h 0 h0]; exact c.1 h0, fun j hj => by rw [← h j hj]; exact c.2.1 j hj, fun j hj => by rw [← h j (by omega), ← h (j + 1) hj]; exact c.2.2 j hj⟩
  constructor
  · rintro ⟨c, r⟩; exact ⟨key h c, r⟩
  · rintro ⟨c, r⟩; exact ⟨key (fun j hj => (h j hj).symm) c, r⟩
theorem ret_bool {a b : Bool} (h : a = b) : Ending.returned (.bool a) = .returned (.bool b) := by rw [h]
theorem in_any (n a b : Int) (w : World) : Calls Tryd.prog 27 #[.int .i64 n, .int .i64 a, .int .i64 b] w fun e w' => e = .returned (.bool (decide (a ≤ n ∧ n ≤ b))) ∧ w = w' := by
  by_cases h1 : a ≤ n
  · by_cases h2 : n ≤ b
    · go_enter Tryd.func27, Tryd.ntmps27
      go_wp2
      go_ret
      simp [h1, h2]
    · go_enter Tryd.func27, Tryd.ntmps27
      go_wp2
      go_ret
      simp
      omega
  · go_enter Tryd.func27, Tryd.ntmps27
    go_wp2
    go_ret
    simp
    omega
end Go.Proofs.YtalnojpdkiimpaaDoor

/- The model's chapter 6 (package spec): l6Dec of a digit, l6rFour. -/
namespace Go.Proofs.YtalnojpdkiimpaaDoor
open Go.RowKit
set_option linter.unusedVariables false
set_option maxRecDepth 100000
theorem byte_text {w : World} {b : Nat} {d : Nat} (hd : d < 10) (h : w.heap[b]? = some (.cells #[.int .u8 (48 + (d : Int))] 5 (0, 0))) :
    Sem.run Tryd.prog (convert 22 9 (.slice (some ⟨b, 0, none⟩) 1 1)) w = .ok (.string ⟨#[dch d]⟩) w := by
  have := run_convert_bytes_arg (P := Tryd.prog) w 22 5 Tryd.underlying22 Tryd.underlying5 b 0 1 1 [48 + (d : Int)] rfl (fun i hi => by
    obtain rfl : i = 0 := by omega
    exact cell_at h rfl) 9 Tryd.underlying9
  rw [this]
  have e : strOfNums [48 + (d : Int)] = ⟨#[dch d]⟩ := by
    unfold strOfNums dch
    rw [List.map_singleton, show (48 + (d : Int)).toNat = 48 + d by omega]
  rw [e]
set_option maxRecDepth 100000 in
theorem sl6Dec_any (d : Nat) (w : World) (hd : d < 10) : Calls Tryd.prog 28 #[.int .i64 d] w fun e w' => e = .returned (.string ⟨#[dch d]⟩) ∧ Below w.heap.size w w' := by
  have hcv := byte_text (w := w.alloc (.cells #[.int .u8 (48 + (d : Int))] 5)) hd (heap_alloc_new w _)
  have t0 : decide ((d : Int) < -9223372036854775807) = false := decide_eq_false (by omega)
  have h10 : (d : Int) < 10 := by omega
  go_enter Tryd.func28, Tryd.ntmps28
  go_wp2_with fail
  go_ret
  exact ⟨rfl, (Below.refl _ _).alloc (Nat.le_refl _) _⟩
/-- the steps of the ranks -/
def rkT (i : Nat) : Nat := if i = 0 then 1000 else if i = 1 then 100 else if i = 2 then 10 else 1
theorem rkT_dgt (n i : Nat) (h : i < 4) : n / rkT i % 10 = dgt n i ∧ 1 ≤ rkT i ∧ rkT i ≤ 1000 := by
  rcases (show i = 0 ∨ i = 1 ∨ i = 2 ∨ i = 3 by omega) with rfl | rfl | rfl | rfl <;> simp [rkT, dgt]
theorem rkS_len (n : Nat) : ∀ k, (rkS n k).1.length ≤ 3 * k
  | 0 => by simp [rkS]
  | k + 1 => by
    have := rkS_len n k
    unfold rkS
    split
    · show (rkS n k).1.length ≤ _; omega
    · simp only [List.length_append, List.length_cons, List.length_nil]
      have : (rsg k).length ≤ 1 := by unfold rsg; split <;> (try split) <;> (try split) <;> simp
      split <;> simp <;> omega
/-- the world behind both tables -/
def rkW (w : World) : World := (w.alloc (.cells #[.string ⟨#[113]⟩, .string ⟨#[98]⟩, .string ⟨#[115]⟩, .string ⟨#[]⟩] 9)).alloc (.cells #[.int .i64 1000, .int .i64 100, .int .i64 10, .int .i64 1] 3)
theorem rkW_at (w : World) (k : Nat) (h : k < 4) : (rkW w).cell? ⟨w.heap.size, k, none⟩ = some (.string ⟨(rsg k).toArray⟩) ∧ (rkW w).cell? ⟨w.heap.size + 1, k, none⟩ = some (.int .i64 (rkT k : Nat)) := by
  have h1 : (rkW w).heap[w.heap.size]? = some (.cells #[.string ⟨#[113]⟩, .string ⟨#[98]⟩, .string ⟨#[115]⟩, .string ⟨#[]⟩] 9 (0, 0)) := (Below.heap_alloc _ _ _ (by simp)).trans (heap_alloc_new w _)
  have h2 : (rkW w).heap[w.heap.size + 1]? = some (.cells #[.int .i64 1000, .int .i64 100, .int .i64 10, .int .i64 1] 3 (0, 0)) := by
    have := heap_alloc_new (w.alloc (.cells #[.string ⟨#[113]⟩, .string ⟨#[98]⟩, .string ⟨#[115]⟩, .string ⟨#[]⟩] 9)) (.cells #[.int .i64 1000, .int .i64 100, .int .i64 10, .int .i64 1] 3)
    rwa [World.size_alloc] at this
  rcases (show k = 0 ∨ k = 1 ∨ k = 2 ∨ k = 3 by omega) with rfl | rfl | rfl | rfl <;> exact ⟨cell_at h1 rfl, cell_at h2 rfl⟩
theorem cat_bytes (a b : List UInt8) : (⟨a.toArray⟩ : ByteArray) ++ ⟨b.toArray⟩ = ⟨(a ++ b).toArray⟩ := by
  apply ByteArray.ext
  rw [ByteArray.data_append]
  simp
set_option maxRecDepth 100000 in
set_option maxHeartbeats 1000000 in
theorem sl6rFour_any (n : Nat) (w : World) (hn : n ≤ 9999) : Calls Tryd.prog 59 #[.int .i64 n] w fun e w' => e = .returned (.string ⟨(rk4 n).toArray⟩) ∧ Below w.heap.size w w' := by
  have HW : Hid (Below w.heap.size w (rkW w) ∧ (rkW w).heap.size = w.heap.size + 2) := Lib.hid ⟨((Below.refl _ _).alloc (Nat.le_refl _) _).alloc (by simp) _, by simp [rkW]⟩
  have HC := Lib.hid (rkW_at w)
  have HR : Hid (rk4 n = (rkS n 4).1) := Lib.hid rfl
  go_enter Tryd.func59, Tryd.ntmps59
  go_wp2_with fail
  go_loopw [5, 6, 7] (fun o g i wr => ∃ k : Nat, k ≤ 4 ∧ i = .int .i64 k ∧ o = .string ⟨(rkS n k).1.toArray⟩ ∧ g = .bool (rkS n k).2 ∧ Below (w.heap.size + 2) (rkW w) wr) (fun _ _ i _ => 4 - (intOf i).toNat)
  case atStart => exact ⟨0, by omega, rfl, rfl, rfl, Below.refl _ _⟩
  case round =>
    obtain ⟨k, hk, rfl, rfl, rfl, hbel⟩ := hrel
    have HB := Lib.hid hbel; clear hbel
    have hlen := rkS_len n k
    by_cases hlt : k < 4
    · obtain ⟨c1, c2⟩ := HC.out k hlt
      have hc1 : wr.cell? ⟨w.heap.size, k, none⟩ = some (.string ⟨(rsg k).toArray⟩) := (HB.out.cell (p := ⟨w.heap.size, k, none⟩) (by show w.heap.size < _; omega)).trans c1
      have hc2 : wr.cell? ⟨w.heap.size + 1, k, none⟩ = some (.int .i64 (rkT k : Nat)) := (HB.out.cell (p := ⟨w.heap.size + 1, k, none⟩) (by show w.heap.size + 1 < _; omega)).trans c2
      obtain ⟨d1, d2, d3⟩ := rkT_dgt n k hlt
      have hd := dgt_lt n k
      have HS : Hid (rkS n (k + 1) = if dgt n k = 0 then ((rkS n k).1, (rkS n k).1 != []) else ((rkS n k).1 ++ (if (rkS n k).2 = true then [111] else []) ++ [dch (dgt n k)] ++ rsg k, false)) := Lib.hid rfl
      have hdd : (n : Int) / (rkT k : Nat) % 10 = (dgt n k : Nat) := by rw [← d1]; omega
      have hsg : (rsg k).length ≤ 1 := by unfold rsg; split <;> (try split) <;> (try split) <;> simp
      have D := Lib.hid (fun w => sl6Dec_any (dgt n k) w hd)
      clear c1 c2 d1
      generalize (rkS n k).1 = L at *
      generalize (rkS n k).2 = G at *
      generalize rsg k = sg at *
      generalize rkT k = s at *
      generalize dgt n k = d at *
      have hq0 : (0:Int) ≤ (n : Int) / (s : Nat) := Int.ediv_nonneg (by omega) (by omega)
      have hq1 : (n : Int) / (s : Nat) ≤ n := Int.ediv_le_self _ (by omega)
      have hwr64 : wrap64 ((n : Int) / (s : Nat)) = (n : Int) / (s : Nat) := by unfold wrap64; omega
      have htm : ((n : Int) / (s : Nat)).tmod 10 = d := by rw [Int.tmod_eq_emod_of_nonneg hq0, hdd]
      by_cases h0 : d = 0
      · subst h0
        go_wp2_with fail
        go_roundw
        case rel => exact ⟨k + 1, by omega, by go_num, by rw [HS.out, if_pos rfl], by rw [HS.out, if_pos rfl]; cases L <;> rfl, HB.out⟩
        case measure => simp [intOf]; omega
      · rw [if_neg h0] at HS
        have l1 : ¬ 9223372036854775807 < L.length + 1 := by omega
        have l2 : ¬ 9223372036854775807 < L.length + 1 + 1 := by omega
        have l3 : ¬ 9223372036854775807 < L.length + 1 + sg.length := by omega
        have l4 : ¬ 9223372036854775807 < L.length + 1 + 1 + sg.length := by omega
        go_wp2_with fail
        all_goals
          go_region_law (
            go_simp
            go_at_call 28
            refine (D.out wr.drew).mono ?_
            rintro e w5 ⟨rfl, hb5⟩
            have hc5 : w5.cell? ⟨w.heap.size, k, none⟩ = some (.string ⟨sg.toArray⟩) := (hb5.cell (p := ⟨w.heap.size, k, none⟩) (by have := HB.out.size; have := HW.out.2; show w.heap.size < _; simp; omega)).trans hc1
            have H5 : Hid (Below (w.heap.size + 2) (rkW w) w5) := Lib.hid (HB.out.trans (((Below.refl _ wr).drew).trans (hb5.mono (by have := HB.out.size; have := HW.out.2; simp; omega)))))
          all_goals
            go_wp2_with fail
            go_roundw
            case rel => exact ⟨k + 1, by omega, by go_num, by rw [HS.out]; clear HS HC HB H5; simp [cat_bytes]; simp [*], by rw [HS.out], H5.out⟩
            case measure => simp [intOf]; omega
    · obtain rfl : k = 4 := by omega
      go_wp2_with fail
      go_ret
      exact ⟨by rw [HR.out]; rfl, HW.out.1.trans (HB.out.mono (by omega))⟩
end Go.Proofs.YtalnojpdkiimpaaDoor

/- The model's chapter 6 (package spec): l6rOf, RankOf, RankRead. -/
namespace Go.Proofs.YtalnojpdkiimpaaDoor
open Go.RowKit
set_option linter.unusedVariables false
set_option maxRecDepth 100000
set_option maxRecDepth 100000 in
set_option maxHeartbeats 1000000 in
theorem sl6rOf_any (n : Nat) (w : World) (hn : n ≤ 99999999) : Calls Tryd.prog 43 #[.int .i64 n] w fun e w' => e = .returned (.string ⟨(rkO n).toArray⟩) ∧ Below w.heap.size w w' := by
  by_cases h0 : n = 0
  · subst h0
    go_enter Tryd.func43, Tryd.ntmps43
    go_wp2_with fail
    go_ret
    exact ⟨rfl, Below.refl _ _⟩
  · by_cases h1 : n < 10000
    · have HR : Hid (rkO n = rk4 n) := Lib.hid (by unfold rkO; rw [if_neg h0, if_pos h1])
      have C := Lib.hid (sl6rFour_any n w (by omega))
      have hz : ((n : Int) == 0) = false := by rw [beq_eq_false_iff_ne]; omega
      have hz' : ((n : Int) < 10000) := by omega
      go_enter Tryd.func43, Tryd.ntmps43
      go_wp2_with fail
      refine C.out.mono ?_
      rintro e w1 ⟨rfl, g1⟩
      have G1 := Lib.hid g1; clear g1 C
      go_wp2_with fail
      go_ret
      exact ⟨by rw [HR.out]; rfl, G1.out⟩
    · have HR : Hid (rkO n = rk4 (n / 10000) ++ [119] ++ (if 0 < n % 10000 ∧ n % 10000 < 1000 then [111] else []) ++ rk4 (n % 10000)) := Lib.hid (by unfold rkO; rw [if_neg h0, if_neg h1])
      have C := Lib.hid (fun w => sl6rFour_any (n / 10000) w (by omega))
      have D := Lib.hid (fun w => sl6rFour_any (n % 10000) w (by omega))
      have hz : ((n : Int) == 0) = false := by rw [beq_eq_false_iff_ne]; omega
      have hz' : ¬ ((n : Int) < 10000) := by omega
      have l1 := rk4_len (n / 10000)
      have l2 := rk4_len (n % 10000)
      have e1 : (n : Int) / 10000 = ((n / 10000 : Nat) : Int) := by omega
      have e2 : (n : Int).tmod 10000 = ((n % 10000 : Nat) : Int) := by rw [Int.tmod_eq_emod_of_nonneg (by omega)]; omega
      have e3 : (n : Int) % 10000 = ((n % 10000 : Nat) : Int) := by omega
      have hw : wrap64 ((n : Int) / 10000) = (n / 10000 : Nat) := by rw [e1]; unfold wrap64; omega
      have hb1 : n / 10000 ≤ 9999 := by omega
      have hb2 : n % 10000 ≤ 9999 := by omega
      generalize n / 10000 = u at *
      generalize n % 10000 = v at *
      generalize rk4 u = U at *
      generalize rk4 v = V at *
      go_enter Tryd.func43, Tryd.ntmps43
      go_wp2_with fail
      refine (C.out w).mono ?_
      rintro e w1 ⟨rfl, g1⟩
      have G1 := Lib.hid g1; clear g1 C
      have a1 : ¬ 9223372036854775807 < U.length + 1 := by omega
      have a2 : ¬ 9223372036854775807 < U.length + 1 + 1 := by omega
      have a3 : ¬ 9223372036854775807 < U.length + 1 + V.length := by omega
      have a4 : ¬ 9223372036854775807 < U.length + 1 + 1 + V.length := by omega
      by_cases hv : 0 < v ∧ v < 1000
      · rw [if_pos hv] at HR
        have v1 : (0 : Int) < (v : Int) := by omega
        have v2 : (v : Int) < 1000 := by omega
        go_wp2_with fail
        refine (D.out w1).mono ?_
        rintro e w2 ⟨rfl, g2⟩
        have G2 := Lib.hid g2; clear g2 D
        go_wp2_with fail
        go_ret
        exact ⟨by rw [HR.out]; simp [cat_bytes], G1.out.trans (G2.out.mono G1.out.size)⟩
      · rw [if_neg hv] at HR
        by_cases hv0 : v = 0
        · have v1 : ¬ (0 : Int) < (v : Int) := by omega
          clear hv0 hv
          go_wp2_with fail
          refine (D.out w1).mono ?_
          rintro e w2 ⟨rfl, g2⟩
          have G2 := Lib.hid g2; clear g2 D
          go_wp2_with fail
          go_ret
          exact ⟨by rw [HR.out]; simp [cat_bytes], G1.out.trans (G2.out.mono G1.out.size)⟩
        · have v1 : (0 : Int) < (v : Int) := by omega
          have v2 : ¬ (v : Int) < 1000 := by omega
          clear hv0 hv
          go_wp2_with fail
          refine (D.out w1).mono ?_
          rintro e w2 ⟨rfl, g2⟩
          have G2 := Lib.hid g2; clear g2 D
          go_wp2_with fail
          go_ret
          exact ⟨by rw [HR.out]; simp [cat_bytes], G1.out.trans (G2.out.mono G1.out.size)⟩
theorem rret {a b : Value} (h : a = b) : Ending.returned a = .returned b := by rw [h]
theorem rbytes_at (l : List UInt8) (k : Nat) (hk : k < l.length) (c : UInt8) (h : l[k] = c) : ∀ hix, ((((⟨l.toArray⟩ : ByteArray)[k]'hix).toNat : Int)) = (c.toNat : Int) := by
  intro hix
  have e : (⟨l.toArray⟩ : ByteArray)[k]'hix = c := h
  rw [e]
theorem rbyte_ne (c : UInt8) (n : Nat) (hn : n < 256) (h : c ≠ UInt8.ofNat n) : ((c.toNat : Int) == (n : Int)) = false := by
  rw [beq_eq_false_iff_ne]
  intro e
  apply h
  apply UInt8.toNat_inj.1
  rw [UInt8.toNat_ofNat']
  omega
/-- RankOf's answer -/
def rkR (n : Int) : Value := if 0 ≤ n ∧ n ≤ 99999999 then .tuple #[.string ⟨(rkO n.toNat).toArray⟩, .bool true] else .tuple #[.string ⟨#[]⟩, .bool false]
theorem sRankOf_any (n : Int) (w : World) : Calls Tryd.prog 26 #[.int .i64 n] w fun e w' => e = .returned (rkR n) ∧ Below w.heap.size w w' := by
  have C := Lib.hid (in_any n 0 99999999 w)
  by_cases h : 0 ≤ n ∧ n ≤ 99999999
  · obtain ⟨u, rfl⟩ := Int.eq_ofNat_of_zero_le h.1
    have Hf : Hid (rkR (u : Int) = .tuple #[.string ⟨(rkO u).toArray⟩, .bool true]) := Lib.hid (by unfold rkR; rw [if_pos h]; rfl)
    have O := Lib.hid (sl6rOf_any u w (by omega))
    rw [show decide (0 ≤ (u : Int) ∧ (u : Int) ≤ 99999999) = true from decide_eq_true h] at C
    clear h
    go_enter Tryd.func26, Tryd.ntmps26
    go_wp2_with fail
    refine C.out.mono ?_
    rintro e w1 ⟨rfl, rfl⟩
    go_wp2_with fail
    refine O.out.mono ?_
    rintro e w1 ⟨rfl, g1⟩
    have G1 := Lib.hid g1; clear g1
    go_wp2_with fail
    go_ret2
    exact ⟨rret Hf.out.symm, G1.out⟩
  · have Hf : Hid (rkR n = .tuple #[.string ⟨#[]⟩, .bool false]) := Lib.hid (by unfold rkR; rw [if_neg h])
    rw [show decide (0 ≤ n ∧ n ≤ 99999999) = false from decide_eq_false h] at C
    clear h
    go_enter Tryd.func26, Tryd.ntmps26
    go_wp2_with fail
    refine C.out.mono ?_
    rintro e w1 ⟨rfl, rfl⟩
    go_wp2_with fail
    go_ret2
    exact ⟨rret Hf.out.symm, Below.refl _ _⟩
/-- RankRead's answer -/
def rrR (l : List UInt8) : Value := if rrB l = true then .tuple #[.int .i64 (rkN l : Nat), .bool true] else .tuple #[.int .i64 0, .bool false]
theorem rrR_no {l : List UInt8} (h : ¬ (l.length ≤ 20 ∧ rkN l ≤ 99999999 ∧ rkO (rkN l) = l)) : rrR l = .tuple #[.int .i64 0, .bool false] := by
  unfold rrR
  rw [if_neg (fun hix => h ((rrB_spec l).1 hix))]
/-- the state behind k bytes -/
def rdK (l : List UInt8) (k : Nat) : Nat × Nat × Nat := (l.take k).foldl rdS (0, 0, 0)
theorem rdK_succ (l : List UInt8) (k : Nat) (h : k < l.length) : rdK l (k + 1) = rdS (rdK l k) l[k] := by
  unfold rdK
  rw [List.take_succ_eq_append_getElem h, List.foldl_append]
  rfl
theorem rdK_bd (l : List UInt8) (hl : l.length ≤ 20) (k : Nat) (h : k ≤ l.length) : (rdK l k).1 ≤ 1200000000000 ∧ (rdK l k).2.1 ≤ 5100000 ∧ (rdK l k).2.2 ≤ 255 := by
  obtain ⟨B, L, h1, h2, h3, h4, h5⟩ := rdS_bd l hl k h
  unfold rdK
  exact ⟨by omega, by omega, h3⟩
theorem sub48 (c : UInt8) : IntKind.u8.wrap ((c.toNat : Int) - 48) = ((c - 48).toNat : Int) := by
  rw [IntKind.wrap_u8, UInt8.toNat_sub]
  have := c.toNat_lt
  have e : (48 : UInt8).toNat = 48 := rfl
  rw [e]
  omega
theorem rdS_q (st : Nat × Nat × Nat) : rdS st 113 = (st.1, st.2.1 + 1000 * st.2.2, 0) := rfl
theorem rdS_b (st : Nat × Nat × Nat) : rdS st 98 = (st.1, st.2.1 + 100 * st.2.2, 0) := rfl
theorem rdS_s (st : Nat × Nat × Nat) : rdS st 115 = (st.1, st.2.1 + 10 * st.2.2, 0) := rfl
theorem rdS_w (st : Nat × Nat × Nat) : rdS st 119 = (st.1 + 10000 * (st.2.1 + st.2.2), 0, 0) := rfl
theorem rdS_o (st : Nat × Nat × Nat) : rdS st 111 = (st.1, st.2.1, 0) := rfl
theorem rdS_e (st : Nat × Nat × Nat) (c : UInt8) (h1 : c ≠ 113) (h2 : c ≠ 98) (h3 : c ≠ 115) (h4 : c ≠ 119) (h5 : c ≠ 111) : rdS st c = (st.1, st.2.1, (c - 48).toNat) := by
  unfold rdS
  rw [if_neg h1, if_neg h2, if_neg h3, if_neg h4, if_neg h5]
end Go.Proofs.YtalnojpdkiimpaaDoor

/- The model's chapter 8 (package spec): l6Dec, l8Decimal. -/
namespace Go.Proofs.YtalnojpdkiimpaaDoor
open Go.RowKit
set_option linter.unusedVariables false
set_option maxRecDepth 100000
set_option maxHeartbeats 4000000 in
theorem sl6DecN_any (n : Nat) : ∀ w : World, n ≤ 999999999 → Calls Tryd.prog 28 #[.int .i64 n] w fun e w' => e = .returned (.string ⟨(dcm n).toArray⟩) ∧ Below w.heap.size w w' := by
  induction n using Nat.strongRecOn with
  | _ n ih =>
    intro w hn
    by_cases h : n < 10
    · rw [dcm_low n h]
      exact sl6Dec_any n w h
    · have HD : Hid (dcm n = dcm (n / 10) ++ [dch (n % 10)]) := Lib.hid (dcm_high n h)
      have C := Lib.hid (fun W => ih (n / 10) (by omega) W (by omega))
      have hl : (dcm (n / 10)).length ≤ 9 := (dcm_len 8 (n / 10) (by rw [ten9]; omega)).2
      have t0 : decide ((n : Int) < -9223372036854775807) = false := decide_eq_false (by omega)
      have h10 : ¬ (n : Int) < 10 := by omega
      have h00 : ¬ (n : Int) < 0 := by omega
      have e1 : (n : Int) / 10 = ((n / 10 : Nat) : Int) := by omega
      have e2 : (n : Int).tmod 10 = ((n % 10 : Nat) : Int) := by rw [Int.tmod_eq_emod_of_nonneg (by omega)]; omega
      have e3 : (n : Int) % 10 = ((n % 10 : Nat) : Int) := by omega
      have hw : wrap64 ((n : Int) / 10) = (n / 10 : Nat) := by rw [e1]; unfold wrap64; omega
      have hd : n % 10 < 10 := by omega
      have hm : n / 10 ≤ 99999999 := by omega
      clear ih h
      generalize n / 10 = m at *
      generalize n % 10 = d at *
      generalize dcm m = M at *
      have HE : Hid ((⟨M.toArray⟩ : ByteArray) ++ ⟨#[dch d]⟩ = ⟨(dcm n).toArray⟩) := Lib.hid (by rw [HD.out]; exact cat_bytes M [dch d])
      have BT : ∀ W : World, Sem.run Tryd.prog (convert 22 9 (.slice (some ⟨W.heap.size, 0, none⟩) 1 1)) (W.alloc (.cells #[.int .u8 (48 + (d : Int))] 5)) = .ok (.string ⟨#[dch d]⟩) (W.alloc (.cells #[.int .u8 (48 + (d : Int))] 5)) := fun W => byte_text hd (heap_alloc_new W _)
      have HBT : Hid (∀ W : World, W.heap[w.heap.size]? = some (.cells #[.int .u8 (48 + (d : Int))] 5 (0, 0)) → Sem.run Tryd.prog (convert 22 9 (.slice (some ⟨w.heap.size, 0, none⟩) 1 1)) W = .ok (.string ⟨#[dch d]⟩) W) := Lib.hid fun W hb => byte_text hd hb
      have hcv0 := HBT.out (w.alloc (.cells #[.int .u8 (48 + (d : Int))] 5)).drew (heap_alloc_new w _)
      have hu : IntKind.u8.wrap (48 + (d : Int)) = 48 + (d : Int) := by rw [IntKind.wrap_u8]; omega
      have hw1 : IntKind.i64.wrap (m : Int) = m := IntWalk.i64_in _ (by omega)
      have hw2 : IntKind.i64.wrap (48 + (d : Int)) = 48 + (d : Int) := IntWalk.i64_in _ (by omega)
      have l1 : ¬ 9223372036854775807 < M.length + 1 := by omega
      go_enter Tryd.func28, Tryd.ntmps28
      go_wp2_with fail
      go_region_law (first
        | (go_simp
           go_at_call 28
           with_reducible refine (C.out w.drew).mono ?_
           rintro e w5 ⟨rfl, g5⟩
           have G5 : Hid (Below w.heap.size w w5) := Lib.hid (((Below.refl _ w).drew).trans g5))
        | (go_simp
           go_at_call 28
           with_reducible refine (C.out (w.alloc (.cells #[.int .u8 (48 + (d : Int))] 5)).drew).mono ?_
           rintro e w5 ⟨rfl, g5⟩
           have hcv := HBT.out w5 ((g5.block w.heap.size (by simp [World.drew])).trans (heap_alloc_new w _))
           have G5 : Hid (Below w.heap.size w w5) := Lib.hid ((((Below.refl _ w).alloc (Nat.le_refl _) _).drew).trans (g5.mono (by simp [World.drew])))))
      all_goals
        go_wp2_with fail
        go_ret
        first
          | exact ⟨rret (congrArg Value.string (HE.out)), G5.out⟩
          | exact ⟨rret (congrArg Value.string (HE.out)), G5.out.alloc G5.out.size _⟩
/-- a text's number, if it is one -/
def dcR (l : List UInt8) : Value := if dcB l = true then .tuple #[.int .i64 (dcN (l.take 9) : Nat), .bool true] else .tuple #[.int .i64 0, .bool false]
theorem dcN_succ (l : List UInt8) (k : Nat) (h : k < l.length) : dcN (l.take (k + 1)) = 10 * dcN (l.take k) + (l[k].toNat - 48) := by
  unfold dcN
  rw [List.take_succ_eq_append_getElem h, List.foldl_append]
  rfl
theorem dcN_bd (l : List UInt8) : ∀ k, k ≤ l.length → (l.take k).all dgC = true → dcN (l.take k) < 10 ^ k
  | 0, _, _ => by simp [dcN]
  | k + 1, h, ha => by
    rw [List.take_succ_eq_append_getElem (by omega), List.all_append, Bool.and_eq_true] at ha
    have ih := dcN_bd l k (by omega) ha.1
    have hd : dgC l[k] = true := by simpa using ha.2
    unfold dgC at hd
    rw [Bool.and_eq_true, decide_eq_true_eq, decide_eq_true_eq] at hd
    rw [dcN_succ l k (by omega), Nat.pow_succ]
    omega
theorem dcB_no (l : List UInt8) (k : Nat) (hk : k < l.length) (h9 : k < 9) (h : dgC l[k] = false) : dcB l = false := by
  unfold dcB
  have : (l.take 9).all dgC = false := by
    rw [List.all_eq_false]
    exact ⟨l[k], by rw [List.mem_take_iff_getElem]; exact ⟨k, by omega, rfl⟩, by rw [h]; simp⟩
  rw [this]
  rfl
end Go.Proofs.YtalnojpdkiimpaaDoor

/- Contracts of the program's chapter 1: the texts by pieces. -/
namespace Go.Proofs.YtalnojpdkiimpaaDoor
open Go.RowKit
set_option linter.unusedVariables false
set_option maxRecDepth 100000
theorem hasRoman_any (n : Int) (w : World) : Calls Tryd.prog 45 #[.int .i64 n] w fun e w' => e = .returned (.bool (decide (1 ≤ n ∧ n ≤ 3999))) ∧ w = w' := by
  by_cases h1 : 1 ≤ n
  · by_cases h2 : n ≤ 3999
    · go_enter Tryd.func45, Tryd.ntmps45
      go_wp2
      go_ret
      simp [h1, h2]
    · go_enter Tryd.func45, Tryd.ntmps45
      go_wp2
      go_ret
      simp
      omega
  · go_enter Tryd.func45, Tryd.ntmps45
    go_wp2
    go_ret
    simp
    omega
/-- pieces as they lie in memory -/
def pieceCells (ps : List (List UInt8 × Nat)) : List Value := ps.flatMap fun p => [.string ⟨p.1.toArray⟩, .int .i64 (p.2 : Nat)]
def Pieces (w : World) (b : Nat) (ps : List (List UInt8 × Nat)) : Prop := ∃ T, w.heap[b]? = some (.cells (pieceCells ps).toArray T (0, 0))
theorem pieceCells_at : ∀ (ps : List (List UInt8 × Nat)) (i : Nat), i < ps.length → (pieceCells ps)[i * 2]? = some (.string ⟨(ps.getD i ([], 0)).1.toArray⟩) ∧ (pieceCells ps)[i * 2 + 1]? = some (.int .i64 ((ps.getD i ([], 0)).2 : Nat))
  | [], i, h => by simp at h
  | p :: ps, 0, _ => by simp [pieceCells]
  | p :: ps, i + 1, h => by
    have ih := pieceCells_at ps i (by simpa using h)
    have e : pieceCells (p :: ps) = .string ⟨p.1.toArray⟩ :: .int .i64 (p.2 : Nat) :: pieceCells ps := by simp [pieceCells]
    rw [e, show (i + 1) * 2 = i * 2 + 1 + 1 by omega]
    simpa using ih
theorem strictPieces_any (w : World) : Calls Tryd.prog 47 #[] w fun e w' => e = .returned (.slice (some ⟨w.heap.size, 0, none⟩) 13 13) ∧ Pieces w' w.heap.size strictP ∧ Below w.heap.size w w' := by
  go_enter Tryd.func47, Tryd.ntmps47
  go_wp2
  go_ret
  exact ⟨rfl, ⟨_, heap_alloc_new _ _⟩, (Below.refl _ _).alloc (Nat.le_refl _) _⟩
end Go.Proofs.YtalnojpdkiimpaaDoor

/- The program's joinPieces. -/
namespace Go.Proofs.YtalnojpdkiimpaaDoor
open Go.RowKit
set_option linter.unusedVariables false
set_option maxRecDepth 100000
theorem info_u8 : (Tryd.prog.info? 5).map (fun i => (i.zero, i.size, i.bytes)) = some (some (.int .u8 0), 1, 1) := by kernel_rfl
theorem many_take_step (v : Nat) (b : List UInt8) (m : Nat) (h : v ≤ m) (hv : 1 ≤ v) : many b (m / v) = b ++ many b ((m - v) / v) := by
  rw [Nat.div_eq_sub_div (by omega) h, many_succ]
set_option maxHeartbeats 400000 in
theorem joinPieces_any (ps : List (List UInt8 × Nat)) (b : Nat) (n : Nat) (w : World) (hn : n ≤ 100000) (hp : Pieces w b ps) (hl : ps.length ≤ 100) (hv : ∀ p ∈ ps, 1 ≤ p.2 ∧ p.2 ≤ 10000 ∧ p.1.length ≤ 2) :
    Calls Tryd.prog 46 #[.int .i64 n, .slice (some ⟨b, 0, none⟩) ps.length ps.length] w fun e w' => e = .returned (.string ⟨(take ps n).toArray⟩) ∧ Below w.heap.size w w' := by
  obtain ⟨i0, hi, hz0, hz1, hz2⟩ := info_parts info_u8
  have hblt : b < w.heap.size := by
    obtain ⟨T, h⟩ := hp
    rcases Nat.lt_or_ge b w.heap.size with h' | h'
    · exact h'
    · simp [Array.getElem?_eq_none h'] at h
  go_enter Tryd.func46, Tryd.ntmps46
  go_wp2
  go_loopw [0, 5, 10] (fun n' v i wr => ∃ (m k : Nat) (txt : List UInt8), n' = .int .i64 m ∧ i = .int .i64 k ∧ k ≤ ps.length ∧ wr.ownsRow w.heap.size 5 1 v txt.length (Lib.strCells ⟨txt.toArray⟩) ∧ Below w.heap.size w wr ∧ txt ++ take (ps.drop k) m = take ps n ∧ txt.length + 2 * m ≤ 2 * n)
    (fun _ _ i _ => ps.length - (intOf i).toNat)
  case atStart => exact ⟨n, 0, [], rfl, rfl, Nat.zero_le _, World.ownsRow_nil _ _ _ _, Below.refl _ _, rfl, by simp⟩
  case round =>
    obtain ⟨m, k, txt, rfl, rfl, hk, hown, hbel, htxt, hlen⟩ := hrel
    have Htxt := Lib.hid htxt; clear htxt
    by_cases hlt : k < ps.length
    · have hcs : wr.cell? ⟨b, k * 2, none⟩ = some (.string ⟨(ps.getD k ([], 0)).1.toArray⟩) ∧ wr.cell? ⟨b, k * 2 + 1, none⟩ = some (.int .i64 ((ps.getD k ([], 0)).2 : Nat)) := by
        obtain ⟨T, h⟩ := hp
        have h' := (hbel.block b hblt).trans h
        have hc := pieceCells_at ps k hlt
        exact ⟨cell_at h' (by simpa using hc.1), cell_at h' (by simpa using hc.2)⟩
      have hvk := hv (ps.getD k ([], 0)) (by rw [List.getD_eq_getElem?_getD, List.getElem?_eq_getElem hlt]; exact List.getElem_mem hlt)
      have Hdrop : Hid (ps.drop k = ps.getD k ([], 0) :: ps.drop (k + 1)) := by
        show ps.drop k = _
        rw [List.getD_eq_getElem?_getD, List.getElem?_eq_getElem hlt]
        exact List.drop_eq_getElem_cons hlt
      generalize ps.getD k ([], 0) = pk at *
      obtain ⟨bk, vk⟩ := pk
      obtain ⟨hc1, hc2⟩ := hcs
      obtain ⟨v1, v2, v3⟩ := hvk
      simp only at hc1 hc2 v1 v2 v3
      have hfit : wr.heap.size < 0 + wr.heap.size + 1 := by omega
      have hp0 := heap_alloc_new wr (.cells #[Value.string ⟨bk.toArray⟩, Value.int .i64 (vk : Nat)] 78)
      have Hp0 := Lib.hid hp0; clear hp0
      obtain ⟨wo, rfl⟩ : ∃ wo : World, wo = wr := ⟨_, rfl⟩
      go_wp2_with fail
      go_loopw [0, 5] (fun n' v w2 => ∃ (m : Nat) (txt : List UInt8), n' = .int .i64 m ∧ w2.ownsRow w.heap.size 5 1 v txt.length (Lib.strCells ⟨txt.toArray⟩) ∧ Below w.heap.size w w2 ∧ w2.heap[wo.heap.size]? = some (.cells #[Value.string ⟨bk.toArray⟩, Value.int .i64 (vk : Nat)] 78 (0, 0)) ∧ txt ++ (many bk (m / vk) ++ take (ps.drop (k + 1)) (m % vk)) = take ps n ∧ txt.length + 2 * m ≤ 2 * n)
        (fun n' _ _ => (intOf n').toNat)
      case atStart => exact ⟨m, txt, rfl, hown.alloc _, hbel.alloc hbel.size _, Hp0.out, by have := Htxt.out; rw [Hdrop.out] at this; exact this, hlen⟩
      case round =>
        clear hown hc1 hc2 Htxt hlen
        obtain ⟨m, txt, rfl, hown, hbel, hpb, htxt, hlen⟩ := hrel
        have Htxt := Lib.hid htxt; clear htxt
        have hc1 := cell_at hpb (j := 0) rfl
        have hc2 := cell_at hpb (j := 1) rfl
        by_cases hge : vk ≤ m
        · have hsz : (⟨bk.toArray⟩ : ByteArray).size = bk.length := by show bk.toArray.size = bk.length; simp
          have Hsz := Lib.hid hsz; clear hsz
          go_wp2_with (at_builtin; refine Lib.wpList_append_own_string _ rfl _ _ 22 9 rfl w.heap.size 5 i0 Tryd.underlying22 Tryd.underlying9 hi hz0 hz1 hz2 _ _ _ rfl hown ⟨bk.toArray⟩ rfl ?_ ?_ ?_ ?_)
          · rw [Hsz.out]; unfold maxLen; omega
          · rw [Hsz.out]; omega
          · exact hbel.size
          · intro v' w' hown' hgrow _
            have R1 := hbel.grown hgrow hbel.size (fun k hk => (hown.lt k hk).1)
            have R2 := grown_block hgrow hown hpb (by decide)
            have R3 : w'.ownsRow w.heap.size 5 1 v' (txt ++ bk).length (Lib.strCells ⟨(txt ++ bk).toArray⟩) := by
              rw [strCells_append, List.length_append]; exact hown'
            have Hst : Hid (txt ++ bk ++ (many bk ((m - vk) / vk) ++ take (ps.drop (k + 1)) ((m - vk) % vk)) = take ps n) := by
              show _ = _
              rw [← Htxt.out, many_take_step vk bk m hge v1, Nat.mod_eq_sub_mod hge]
              simp
            have hc1' := cell_at R2 (j := 0) rfl
            have hc2' := cell_at R2 (j := 1) rfl
            clear hown hown' hgrow hc1 hc2 Htxt hpb hbel
            go_wp2
            go_roundw
            case rel => exact ⟨m - vk, txt ++ bk, by go_num, R3, R1, R2, Hst.out, by simp; omega⟩
            case measure => simp [intOf]; omega
        · have hm0 : m / vk = 0 := Nat.div_eq_of_lt (by omega)
          have hm1 : m % vk = m := Nat.mod_eq_of_lt (by omega)
          have Hst : Hid (txt ++ take (ps.drop (k + 1)) m = take ps n) := by
            show _ = _
            have := Htxt.out
            rw [hm0, hm1, many_zero, List.nil_append] at this
            exact this
          clear hm0 hm1 Htxt
          go_wp2
          go_roundw
          case rel => exact ⟨m, k + 1, txt, rfl, by go_num, by omega, hown, hbel, Hst.out, hlen⟩
          case measure => simp [intOf]; omega
    · have hke : k = ps.length := by omega
      subst hke
      have hcv := conv_own (P := Tryd.prog) wr 22 9 5 Tryd.underlying22 Tryd.underlying5 Tryd.underlying9 _ _ _ _ hown
      have Hst : Hid (txt = take ps n) := by
        show _ = _
        have := Htxt.out
        rw [List.drop_length, take, List.append_nil] at this
        exact this
      clear Htxt
      go_wp2
      go_ret
      exact ⟨ret_string Hst.out, hbel⟩
end Go.Proofs.YtalnojpdkiimpaaDoor

/- The program's RomanOf, RomanPiled, RomanLongest. -/
namespace Go.Proofs.YtalnojpdkiimpaaDoor
open Go.RowKit
set_option linter.unusedVariables false
set_option maxRecDepth 100000
theorem strictP_ok : ∀ p ∈ strictP, 1 ≤ p.2 ∧ p.2 ≤ 10000 ∧ p.1.length ≤ 2 := by decide
theorem addedP_ok : ∀ p ∈ addedP, 1 ≤ p.2 ∧ p.2 ≤ 10000 ∧ p.1.length ≤ 2 := by decide
theorem joinStrict_any (b : Nat) (n : Int) (w : World) (h0 : 0 ≤ n) (hn : n ≤ 3999) (hp : Pieces w b strictP) :
    Calls Tryd.prog 46 #[.int .i64 n, .slice (some ⟨b, 0, none⟩) 13 13] w fun e w' => e = .returned (.string ⟨(strict n.toNat).toArray⟩) ∧ Below w.heap.size w w' := by
  obtain ⟨k, rfl⟩ := Int.eq_ofNat_of_zero_le h0
  rw [Int.toNat_natCast, ← take_strict k (by omega)]
  exact joinPieces_any strictP b k w (by omega) hp (by decide) strictP_ok
theorem joinAdded_any (b : Nat) (n : Int) (w : World) (h0 : 0 ≤ n) (hn : n ≤ 3999) (hp : Pieces w b addedP) :
    Calls Tryd.prog 46 #[.int .i64 n, .slice (some ⟨b, 0, none⟩) 7 7] w fun e w' => e = .returned (.string ⟨(piled n.toNat).toArray⟩) ∧ Below w.heap.size w w' := by
  obtain ⟨k, rfl⟩ := Int.eq_ofNat_of_zero_le h0
  exact joinPieces_any addedP b k w (by omega) hp (by decide) addedP_ok
/-- RomanOf's answer -/
def romanOfR (n : Int) : Value := if 1 ≤ n ∧ n ≤ 3999 then .tuple #[.string ⟨(strict n.toNat).toArray⟩, .bool true] else .tuple #[.string ⟨#[]⟩, .bool false]
def romanPiledR (n : Int) : Value := if 1 ≤ n ∧ n ≤ 3999 then .tuple #[.string ⟨(piled n.toNat).toArray⟩, .bool true] else .tuple #[.string ⟨#[]⟩, .bool false]
def romanLongestR (n : Int) : Value := if 1 ≤ n ∧ n ≤ 3999 then .tuple #[.int .i64 (best strictLen n.toNat : Nat), .bool true] else .tuple #[.int .i64 0, .bool false]
theorem iRomanOf_yes (n : Int) (w : World) (h1 : 1 ≤ n) (h2 : n ≤ 3999) : Calls Tryd.prog 31 #[.int .i64 n] w fun e w' => e = .returned (.tuple #[.string ⟨(strict n.toNat).toArray⟩, .bool true]) ∧ Below w.heap.size w w' := by
  go_enter Tryd.func31, Tryd.ntmps31
  go_wp2_with fail
  refine (hasRoman_any _ _).mono ?_
  rintro e w1 ⟨rfl, rfl⟩
  rw [show (decide (1 ≤ n ∧ n ≤ 3999)) = true from decide_eq_true ⟨h1, h2⟩]
  go_wp2_with fail
  refine (strictPieces_any _).mono ?_
  rintro e w1 ⟨rfl, hp, g1⟩
  go_wp2_with fail
  refine (joinStrict_any _ _ _ (by omega) h2 hp).mono ?_
  rintro e w2 ⟨rfl, g2⟩
  go_wp2_with fail
  go_ret2
  exact ⟨rfl, bel_chain g1 g2⟩
theorem iRomanOf_no (n : Int) (w : World) (h : ¬ (1 ≤ n ∧ n ≤ 3999)) : Calls Tryd.prog 31 #[.int .i64 n] w fun e w' => e = .returned (.tuple #[.string ⟨#[]⟩, .bool false]) ∧ Below w.heap.size w w' := by
  have H := Lib.hid h; clear h
  go_enter Tryd.func31, Tryd.ntmps31
  go_wp2_with fail
  refine (hasRoman_any _ _).mono ?_
  rintro e w1 ⟨rfl, rfl⟩
  rw [show (decide (1 ≤ n ∧ n ≤ 3999)) = false from decide_eq_false H.out]
  go_wp2_with fail
  go_ret2
  exact ⟨rfl, Below.refl _ _⟩
theorem iRomanOf_any (n : Int) (w : World) : Calls Tryd.prog 31 #[.int .i64 n] w fun e w' => e = .returned (romanOfR n) ∧ Below w.heap.size w w' := by
  unfold romanOfR
  by_cases h : 1 ≤ n ∧ n ≤ 3999
  · rw [if_pos h]; exact iRomanOf_yes n w h.1 h.2
  · rw [if_neg h]; exact iRomanOf_no n w h
end Go.Proofs.YtalnojpdkiimpaaDoor

/- The model's RomanOf. -/
namespace Go.Proofs.YtalnojpdkiimpaaDoor
open Go.RowKit
set_option linter.unusedVariables false
set_option maxRecDepth 100000
theorem l1Of_any (n : Int) (w : World) (h0 : 0 ≤ n) (h1 : n ≤ 4000) : Calls Tryd.prog 40 #[.int .i64 n] w fun e w' => e = .returned (.string ⟨(strict n.toNat).toArray⟩) ∧ Below w.heap.size w w' := by
  obtain ⟨k, rfl⟩ := Int.eq_ofNat_of_zero_le h0
  exact l1Of_nat k w (by omega)
theorem sRomanOf_any (n : Int) (w : World) : Calls Tryd.prog 23 #[.int .i64 n] w fun e w' => e = .returned (romanOfR n) ∧ Below w.heap.size w w' := by
  unfold romanOfR
  by_cases h : 1 ≤ n ∧ n ≤ 3999
  · rw [if_pos h]
    obtain ⟨h1, h2⟩ := h
    go_enter Tryd.func23, Tryd.ntmps23
    go_wp2_with fail
    refine (l6In_any _ _ _ _).mono ?_
    rintro e w1 ⟨rfl, rfl⟩
    rw [show (decide (1 ≤ n ∧ n ≤ 3999)) = true from decide_eq_true ⟨h1, h2⟩]
    go_wp2_with fail
    refine (l1Of_any _ _ (by omega) (by omega)).mono ?_
    rintro e w1 ⟨rfl, g1⟩
    go_wp2_with fail
    go_ret2
    exact ⟨rfl, g1⟩
  · rw [if_neg h]
    have H := Lib.hid h; clear h
    go_enter Tryd.func23, Tryd.ntmps23
    go_wp2_with fail
    refine (l6In_any _ _ _ _).mono ?_
    rintro e w1 ⟨rfl, rfl⟩
    rw [show (decide (1 ≤ n ∧ n ≤ 3999)) = false from decide_eq_false H.out]
    go_wp2_with fail
    go_ret2
    exact ⟨rfl, Below.refl _ _⟩
end Go.Proofs.YtalnojpdkiimpaaDoor

/- Several package-level tables at once: what a row's list of variables lays, and that it reads again behind the call. Nothing of one program. -/
namespace Go.Proofs.YtalnojpdkiimpaaDoor
open Go.ChangeShapes Go.WideShapes Go.ChangeAt Go.WideMaps Go.WideElems Go.RowKit
set_option linter.unusedVariables false
set_option maxRecDepth 100000
/-- a variable reads as a datum -/
def LaidItem (P : Program) (W : World) (n : String) (d : DataW Unit) : Prop := ∃ g t cs fuel p, P.globalNamed n = some g ∧ (P.globals[g]?).map (·.type) = some t ∧ W.var? P n = some cs ∧ DataW.trod (fun _ => ()) P W 0 (fun _ => true) false fuel t cs.toList = some (d, p)
theorem laid_mem {P : Program} {W : World} {n : String} {d : DataW Unit} : ∀ {L : List (String × DataW Unit)} {ps : List MemPlace}, DataW.LaidVars P W L ps → (n, d) ∈ L → LaidItem P W n d
  | [], _, _, hm => by cases hm
  | (n', d') :: L, ps, h, hm => by
    obtain ⟨g, t, cs, fuel, p, q, h1, h2, h3, h4, h5, _⟩ := h
    rcases List.mem_cons.1 hm with e | hm
    · simp only [Prod.mk.injEq] at e
      obtain ⟨rfl, rfl⟩ := e
      exact ⟨g, t, cs, fuel, p, h1, h2, h3, h4⟩
    · exact laid_mem h5 hm
theorem laid_item {P : Program} {W : World} {L : List (String × DataW Unit)} {n : String} {d : DataW Unit} (h : laidMetH P L W) (hp : (L.all fun x => x.2.handleName?.isNone) = true) (hm : (n, d) ∈ L) : LaidItem P W n d := by
  rw [MakeChecks.laidMetH_plain _ _ _ hp] at h
  obtain ⟨ps, h, _⟩ := h
  exact laid_mem h hm
/-- a variable's cells, and how they read in whatever world -/
def TabAt (P : Program) (W : World) (n : String) : Prop := ∃ g t cs, P.globalNamed n = some g ∧ (P.globals[g]?).map (·.type) = some t ∧ W.var? P n = some cs ∧ g < W.heap.size ∧
  ∀ (H : Type) (enc : TypeId × Value → H), ∃ d : DataW H, ∀ (W' : World) (sp : Nat → Bool), DataW.trod enc P W' 0 sp true 3 t cs.toList = some (d, [])
theorem tabs_keep {H : Type} {enc : TypeId × Value → H} {P : Program} {W : World} : ∀ {ns : List String} {gs : List (DataW H)} {q : List MemPlace}, (∀ n, n ∈ ns → TabAt P W n) → DataW.TrodVars enc P W (fun _ => true) ns gs q →
    ∃ pv, ∀ (sp : Nat → Bool) {W' : World}, Below W.heap.size W W' → DataW.TrodVars enc P W' sp ns gs pv
  | [], gs, q, _, h => by
    obtain ⟨rfl, rfl⟩ := trodVars_none h
    exact ⟨[], fun sp W' _ => rfl⟩
  | n :: ns, [], q, _, h => by cases h
  | n :: ns, d :: ds, q, hT, h => by
    obtain ⟨g, t, cs, fuel, p, q', h1, h2, h3, h4, h5, _⟩ := h
    obtain ⟨pv, hk⟩ := tabs_keep (fun n hn => hT n (List.mem_cons_of_mem _ hn)) h5
    obtain ⟨g', t', cs', k1, k2, k3, k4, k5⟩ := hT n (List.mem_cons_self ..)
    obtain rfl := Option.some.inj (k1.symm.trans h1)
    obtain rfl := Option.some.inj (k2.symm.trans h2)
    obtain rfl := Option.some.inj (k3.symm.trans h3)
    obtain ⟨d', hd'⟩ := k5 H enc
    obtain ⟨rfl, rfl⟩ := DataW.Trod.unique (v := .agg cs') ⟨fuel, h4⟩ ⟨3, hd' W _⟩
    exact ⟨MemPlace.row ⟨g', 0, none⟩ cs'.size ++ [] ++ pv, fun sp W' bel => ⟨g', t', cs', 3, [], pv, k1, k2, var?_below bel k1 k4 k3, hd' W' sp, hk sp bel, rfl⟩⟩
/-- how many data there are -/
theorem trodVars_len {H : Type} {enc : TypeId × Value → H} {P : Program} {W : World} {sp : Nat → Bool} : ∀ {ns : List String} {gs : List (DataW H)} {q : List MemPlace}, DataW.TrodVars enc P W sp ns gs q → gs.length = ns.length
  | [], gs, q, h => by obtain ⟨rfl, _⟩ := trodVars_none h; rfl
  | n :: ns, [], q, h => by cases h
  | n :: ns, d :: ds, q, h => by
    obtain ⟨g, t, cs, fuel, p, q', h1, h2, h3, h4, h5, _⟩ := h
    show _ + 1 = _ + 1
    rw [trodVars_len h5]
end Go.Proofs.YtalnojpdkiimpaaDoor

/- The package-level table alphaRankValues: what the condition gives the walks, and that it reads again behind the call. -/
namespace Go.Proofs.YtalnojpdkiimpaaDoor
open Go.ChangeShapes Go.WideShapes Go.ChangeAt Go.WideMaps Go.WideElems Go.RowKit
set_option linter.unusedVariables false
set_option maxRecDepth 100000
/-- the values of the ranks -/
def rkv (j : Nat) : Int := [1, 10, 100].getD j 0
/-- the table lies in its variable's block -/
def AT (w : World) : Prop := 0 < w.heap.size ∧ ∀ j, j < 3 → w.cell? ⟨0, j, none⟩ = some (.int .i64 (rkv j))
def atLaid : List (String × DataW Unit) := [("loop.example/peoplesnumerals/impl.alphaRankValues", Rows.laid_loop_example_peoplesnumerals_impl_alphaRankValues)]
def laidStepsA : Nat := 400
theorem gAT : Tryd.prog.globalNamed "loop.example/peoplesnumerals/impl.alphaRankValues" = some 0 := by kernel_rfl
theorem tAT : (Tryd.prog.globals[0]?).map (·.type) = some 68 := by kernel_rfl
theorem cAT : Tryd.prog.cellsOf 68 = 3 := by kernel_rfl
theorem cIntA : Tryd.prog.cellsOf 3 = 1 := by kernel_rfl
def cells3 : Array Value := #[.int .i64 1, .int .i64 10, .int .i64 100]
theorem door_metA (os : Os) (args : Array Value) : laidMetH Tryd.prog atLaid ((World.doorLaid Tryd.prog laidStepsA os).forCall (fun _ _ => 0) ⟨#[], args, []⟩).memory :=
  laidMetH_of_parts3 (fuel := 8) (laidMet_of_run' 8 (by kernel_rfl) (by kernel_rfl)) (by kernel_rfl) (by kernel_rfl)
theorem int_of_trodA {H : Type} {enc : TypeId × Value → H} {P : Program} {w : World} {base : Nat} {sp : Nat → Bool} {held : Bool} {fuel : Nat} {t : TypeId} {k : IntKind} {c : Value} {y : DataW H × List MemPlace}
    (ht : P.underlying t = some (.int k)) (h : DataW.trod enc P w base sp held fuel t [c] = some y) : ∃ n, c = .int k n ∧ y = (.lit (.int k n), []) := by
  cases fuel with
  | zero => simp [DataW.trod] at h
  | succ fuel =>
    cases c <;> simp [DataW.trod, ht] at h
    rename_i k' n
    obtain ⟨⟨rfl, _⟩, rfl⟩ := h
    exact ⟨n, rfl, rfl⟩
theorem cells_of_itemA {W : World} (h : LaidItem Tryd.prog W "loop.example/peoplesnumerals/impl.alphaRankValues" Rows.laid_loop_example_peoplesnumerals_impl_alphaRankValues) : W.var? Tryd.prog "loop.example/peoplesnumerals/impl.alphaRankValues" = some cells3 := by
  obtain ⟨g, t, cs, fuel, p, hg, ht, hvar, hd⟩ := h
  obtain rfl := Option.some.inj (gAT.symm.trans hg)
  obtain rfl := Option.some.inj (tAT.symm.trans ht)
  rw [hvar]
  congr 1
  obtain ⟨l⟩ := cs
  cases fuel with
  | zero => simp [DataW.trod] at hd
  | succ fuel =>
    simp only [DataW.trod, Tryd.underlying68, cAT, cIntA] at hd
    split at hd
    · rename_i hl
      obtain ⟨c0, c1, c2, rfl⟩ : ∃ c0 c1 c2, l = [c0, c1, c2] := by
        match l, hl with
        | [a, b, c], _ => exact ⟨a, b, c, rfl⟩
      have e : List.range 3 = [0, 1, 2] := rfl
      rw [e] at hd
      simp only [Option.map_eq_some_iff, List.mapM_cons, List.mapM_nil, Option.bind_eq_bind, Option.bind_eq_some_iff, Option.pure_def, Option.some.injEq] at hd
      obtain ⟨xs, ⟨y0, h0, _, ⟨y1, h1, _, ⟨y2, h2, _, rfl, rfl⟩, rfl⟩, rfl⟩, hx⟩ := hd
      obtain ⟨n0, rfl, rfl⟩ := int_of_trodA Tryd.underlying3 h0
      obtain ⟨n1, rfl, rfl⟩ := int_of_trodA Tryd.underlying3 h1
      obtain ⟨n2, rfl, rfl⟩ := int_of_trodA Tryd.underlying3 h2
      simp [Rows.laid_loop_example_peoplesnumerals_impl_alphaRankValues] at hx
      obtain ⟨⟨rfl, rfl, rfl⟩, _⟩ := hx
      rfl
    · cases hd
theorem cells_of_laidA {W : World} (h : laidMetH Tryd.prog atLaid W) : W.var? Tryd.prog "loop.example/peoplesnumerals/impl.alphaRankValues" = some cells3 := by
  rw [MakeChecks.laidMetH_plain _ _ _ (by kernel_rfl)] at h
  obtain ⟨ps, ⟨g, t, cs, fuel, p, q, hg, ht, hvar, hd, _, _⟩, _⟩ := h
  exact cells_of_itemA ⟨g, t, cs, fuel, p, hg, ht, hvar, hd⟩
theorem at_var {W : World} (hv : W.var? Tryd.prog "loop.example/peoplesnumerals/impl.alphaRankValues" = some cells3) : AT W := by
  have hc : ∀ j, W.cell? ⟨0, j, none⟩ = cells3[j]? := fun j => World.var?_cell gAT hv j
  refine ⟨World.block_lt_of_cell? W ⟨0, 0, none⟩ (u := .int .i64 1) (hc 0), fun j hj => ?_⟩
  rw [hc j]
  rcases (show j = 0 ∨ j = 1 ∨ j = 2 by omega) with rfl | rfl | rfl <;> rfl
theorem at_of_laid {W : World} (h : laidMetH Tryd.prog atLaid W) : AT W := at_var (cells_of_laidA h)
abbrev tableA {H : Type} : DataW H := .agg [.lit (.int .i64 1), .lit (.int .i64 10), .lit (.int .i64 100)]
theorem reads_tableA {H : Type} (enc : TypeId × Value → H) (W : World) (sp : Nat → Bool) : DataW.trod enc Tryd.prog W 0 sp true 3 68 cells3.toList = some (tableA, []) := by kernel_rfl
theorem tab_at {W : World} (h : LaidItem Tryd.prog W "loop.example/peoplesnumerals/impl.alphaRankValues" Rows.laid_loop_example_peoplesnumerals_impl_alphaRankValues) : AT W ∧ TabAt Tryd.prog W "loop.example/peoplesnumerals/impl.alphaRankValues" := by
  have hv := cells_of_itemA h
  have hf := at_var hv
  exact ⟨hf, _, _, _, gAT, tAT, hv, hf.1, fun H enc => ⟨tableA, fun W' sp => reads_tableA enc W' sp⟩⟩
theorem laid_openA {H : Type} {enc : TypeId × Value → H} {W : World} {gs : List (DataW H)} {q : List MemPlace} (hL : laidMetH Tryd.prog atLaid W)
    (hV : DataW.TrodVars enc Tryd.prog W (fun _ => true) ["loop.example/peoplesnumerals/impl.alphaRankValues"] gs q) :
    AT W ∧ ∃ d, gs = [d] ∧ ∃ pv, ∀ (sp : Nat → Bool) {W' : World}, Below W.heap.size W W' → DataW.TrodVars enc Tryd.prog W' sp ["loop.example/peoplesnumerals/impl.alphaRankValues"] [d] pv := by
  have hlv := at_of_laid hL
  obtain ⟨g, t, cs, fuel, d, p', rfl, hg, ht, hvar, hd, rfl⟩ := trodVars_one hV
  obtain rfl := Option.some.inj (gAT.symm.trans hg)
  obtain rfl := Option.some.inj (tAT.symm.trans ht)
  obtain rfl : cs = cells3 := Option.some.inj (hvar.symm.trans (cells_of_laidA hL))
  obtain ⟨rfl, rfl⟩ := DataW.Trod.unique (v := .agg cells3) ⟨fuel, hd⟩ ⟨3, reads_tableA enc W _⟩
  refine ⟨hlv, _, rfl, MemPlace.row ⟨0, 0, none⟩ cells3.size ++ [] ++ [], fun sp W' bel => ?_⟩
  exact ⟨0, 68, cells3, 3, [], [], gAT, tAT, var?_below bel gAT hlv.1 hvar, reads_tableA enc W' sp, rfl, rfl⟩
theorem AT.below {B : Nat} {w w' : World} (h : AT w) (hb : Below B w w') (hB : 0 < B) : AT w' :=
  ⟨Nat.lt_of_lt_of_le h.1 hb.size, fun j hj => (hb.cell (p := ⟨0, j, none⟩) hB).trans (h.2 j hj)⟩
theorem AT.step {w w' : World} (h : AT w) (hb : Below w.heap.size w w') : AT w' := h.below hb h.1
theorem AT.alloc {w : World} (h : AT w) (o : Obj) : AT (w.alloc o) := h.step ((Below.refl _ _).alloc (Nat.le_refl _) o)
theorem AT.grown {w w' : World} {r : Nat} (h : AT w) (hg : w.grownBy w' (some r)) (hr : 0 < r) : AT w' :=
  ⟨Nat.lt_of_lt_of_le h.1 hg.size, fun j hj => hg.cell (h.2 j hj) (by simp; omega)⟩
end Go.Proofs.YtalnojpdkiimpaaDoor

/- Words with a sum, plain: the fewest letters, the first word of the shortest, the search over letters in their order. No program. -/
namespace Go.Proofs.YtalnojpdkiimpaaDoor
set_option linter.unusedVariables false
set_option maxRecDepth 100000
/-- the letters as texts are compared: the sign for 900 first -/
def L27 : List Nat := 26 :: List.range 26
theorem mem27 (i : Nat) : i ∈ L27 ↔ i < 27 := by
  unfold L27
  simp only [List.mem_cons, List.mem_range]
  omega
theorem nodup27 : L27.Nodup := by decide
theorem len27 : L27.length = 27 := by decide
/-- the value of the letter at a place -/
def vn (i : Nat) : Nat := (i % 9 + 1) * 10 ^ (i / 9)
theorem vl_vn (i : Nat) : vl i = (vn i : Nat) := by
  unfold vl vn
  rw [Int.natCast_mul, Int.natCast_pow]
  rfl
theorem vn_bd (i : Nat) (h : i < 27) : 1 ≤ vn i ∧ vn i ≤ 900 := by
  have := vl_bd i h
  rw [vl_vn] at this
  omega
/-- the best of some letters for the sum x, t telling the fewest of all lesser ones -/
def bestF (t : List Nat) (x : Nat) : List Nat → Nat → Nat
  | [], b => b
  | i :: is, b => bestF t x is (if vn i ≤ x then min b (1 + t.getD (x - vn i) 0) else b)
theorem bestF_append (t : List Nat) (x : Nat) (a c : List Nat) (b : Nat) : bestF t x (a ++ c) b = bestF t x c (bestF t x a b) := by
  induction a generalizing b with
  | nil => rfl
  | cons i is ih => simp only [List.cons_append, bestF]; rw [ih]
theorem bestF_le (t : List Nat) (x : Nat) (is : List Nat) (b : Nat) : bestF t x is b ≤ b ∧ ∀ i ∈ is, vn i ≤ x → bestF t x is b ≤ 1 + t.getD (x - vn i) 0 := by
  induction is generalizing b with
  | nil => exact ⟨Nat.le_refl _, fun i hi => by simp at hi⟩
  | cons j js ih =>
    simp only [bestF]
    obtain ⟨h1, h2⟩ := ih (if vn j ≤ x then min b (1 + t.getD (x - vn j) 0) else b)
    have h3 : (if vn j ≤ x then min b (1 + t.getD (x - vn j) 0) else b) ≤ b := by split <;> omega
    refine ⟨Nat.le_trans h1 h3, fun i hi hv => ?_⟩
    rcases List.mem_cons.1 hi with rfl | hi
    · rw [if_pos hv] at h1 ⊢
      omega
    · exact h2 i hi hv
theorem bestF_ex (t : List Nat) (x : Nat) (is : List Nat) (b : Nat) : bestF t x is b = b ∨ ∃ i ∈ is, vn i ≤ x ∧ bestF t x is b = 1 + t.getD (x - vn i) 0 := by
  induction is generalizing b with
  | nil => exact .inl rfl
  | cons j js ih =>
    simp only [bestF]
    rcases ih (if vn j ≤ x then min b (1 + t.getD (x - vn j) 0) else b) with h | ⟨i, hi, hv, he⟩
    · by_cases hv : vn j ≤ x
      · rw [if_pos hv] at h ⊢
        by_cases hb : b ≤ 1 + t.getD (x - vn j) 0
        · exact .inl (by omega)
        · exact .inr ⟨j, by simp, hv, by omega⟩
      · rw [if_neg hv] at h ⊢
        exact .inl h
    · exact .inr ⟨i, by simp [hi], hv, he⟩
/-- the fewest letters of all sums up to n -/
def fewT : Nat → List Nat
  | 0 => [0]
  | n + 1 => fewT n ++ [bestF (fewT n) (n + 1) L27 (n + 1)]
theorem fewT_len (n : Nat) : (fewT n).length = n + 1 := by
  induction n with
  | zero => rfl
  | succ n ih => simp [fewT, ih]
/-- the fewest letters with a sum -/
def few (n : Nat) : Nat := (fewT n).getD n 0
theorem fewT_at (n x : Nat) (h : x ≤ n) : (fewT n).getD x 0 = few x := by
  induction n with
  | zero => obtain rfl : x = 0 := by omega
            rfl
  | succ n ih =>
    by_cases hx : x ≤ n
    · rw [← ih hx]
      simp only [fewT, List.getD_eq_getElem?_getD]
      rw [List.getElem?_append_left (by rw [fewT_len]; omega)]
    · obtain rfl : x = n + 1 := by omega
      rfl
theorem few_zero : few 0 = 0 := rfl
theorem few_succ (n : Nat) : few (n + 1) = bestF (fewT n) (n + 1) L27 (n + 1) := by
  unfold few
  simp only [fewT, List.getD_eq_getElem?_getD]
  rw [List.getElem?_append_right (by rw [fewT_len]; omega), fewT_len]
  simp
theorem few_step (x i : Nat) (hi : i < 27) (hv : vn i ≤ x) : few x ≤ 1 + few (x - vn i) := by
  have h1 := (vn_bd i hi).1
  obtain ⟨n, rfl⟩ : ∃ n, x = n + 1 := ⟨x - 1, by omega⟩
  rw [few_succ, ← fewT_at n (n + 1 - vn i) (by omega)]
  exact (bestF_le _ _ _ _).2 i ((mem27 i).2 hi) hv
theorem few_le (x : Nat) : few x ≤ x := by
  cases x with
  | zero => exact Nat.le_refl _
  | succ n => rw [few_succ]; exact (bestF_le _ _ _ _).1
theorem few_ex (x : Nat) (h : 1 ≤ x) : ∃ i, i < 27 ∧ vn i ≤ x ∧ few x = 1 + few (x - vn i) := by
  obtain ⟨n, rfl⟩ : ∃ n, x = n + 1 := ⟨x - 1, by omega⟩
  rcases bestF_ex (fewT n) (n + 1) L27 (n + 1) with h | ⟨i, hi, hv, he⟩
  · rw [← few_succ] at h
    have h0 : vn 0 = 1 := rfl
    have h1 := few_step (n + 1) 0 (by omega) (by omega)
    have h2 := few_le n
    rw [h0, Nat.add_sub_cancel] at h1
    exact ⟨0, by omega, by omega, by rw [h0, Nat.add_sub_cancel]; omega⟩
  · have hi' := (mem27 i).1 hi
    have h1 := (vn_bd i hi').1
    rw [← few_succ, fewT_at n (n + 1 - vn i) (by omega)] at he
    exact ⟨i, hi', hv, he⟩
theorem few_pos (x : Nat) (h : 1 ≤ x) : 1 ≤ few x := by
  obtain ⟨i, _, _, he⟩ := few_ex x h
  omega
/-- the sum of a word, told by places of letters -/
def wsum : List Nat → Nat
  | [] => 0
  | i :: r => vn i + wsum r
theorem few_word (w : List Nat) (h : ∀ i ∈ w, i < 27) : few (wsum w) ≤ w.length := by
  induction w with
  | nil => exact Nat.le_refl _
  | cons i r ih =>
    have h1 := few_step (wsum (i :: r)) i (h i (by simp)) (by simp [wsum])
    have h2 := ih (fun j hj => h j (by simp [hj]))
    simp only [wsum] at h1 ⊢
    rw [Nat.add_sub_cancel_left] at h1
    simp only [List.length_cons]
    omega
/-- may this letter be the first one of a shortest word? -/
def adm (n i : Nat) : Bool := decide (vn i ≤ n) && decide (few (n - vn i) + 1 = few n)
theorem adm_iff (n i : Nat) : adm n i = true ↔ vn i ≤ n ∧ few (n - vn i) + 1 = few n := by
  unfold adm; rw [Bool.and_eq_true, decide_eq_true_eq, decide_eq_true_eq]
/-- the first word, as texts, of the shortest with a sum, c the number of its letters -/
def gr : Nat → Nat → List Nat
  | 0, _ => []
  | c + 1, n => match L27.find? (adm n) with
    | some i => i :: gr c (n - vn i)
    | none => []
theorem gr_step (c n : Nat) (h : few n = c + 1) : ∃ i, i < 27 ∧ L27.find? (adm n) = some i ∧ vn i ≤ n ∧ few (n - vn i) = c ∧ gr (c + 1) n = i :: gr c (n - vn i) := by
  have hn : 1 ≤ n := by
    rcases Nat.eq_zero_or_pos n with rfl | h'
    · rw [few_zero] at h; omega
    · exact h'
  obtain ⟨j, hj, hv, he⟩ := few_ex n hn
  cases hf : L27.find? (adm n) with
  | none =>
    have := List.find?_eq_none.1 hf j ((mem27 j).2 hj)
    exact absurd ((adm_iff n j).2 ⟨hv, by omega⟩) this
  | some i =>
    have h1 := (adm_iff n i).1 (List.find?_some hf)
    have h2 := (mem27 i).1 (List.mem_of_find?_eq_some hf)
    exact ⟨i, h2, rfl, h1.1, by omega, by simp only [gr, hf]⟩
theorem gr_word (c : Nat) : ∀ n, few n = c → (∀ i ∈ gr c n, i < 27) ∧ wsum (gr c n) = n ∧ (gr c n).length = c := by
  induction c with
  | zero =>
    intro n h
    have : n = 0 := by
      rcases Nat.eq_zero_or_pos n with h' | h'
      · exact h'
      · have := few_pos n h'; omega
    subst this
    exact ⟨fun i hi => by simp [gr] at hi, rfl, rfl⟩
  | succ c ih =>
    intro n h
    obtain ⟨i, hi, _, hv, hf, e⟩ := gr_step c n h
    obtain ⟨h1, h2, h3⟩ := ih _ hf
    rw [e]
    refine ⟨fun j hj => ?_, ?_, by simp [h3]⟩
    · rcases List.mem_cons.1 hj with rfl | hj
      · exact hi
      · exact h1 j hj
    · simp only [wsum, h2]; omega
/-- the search: letters in their order, each word's letters in this order, too -/
def tryS (f : List Nat → Int → Option (List Nat)) : List Nat → Int → Option (List Nat)
  | [], _ => none
  | x :: xs, s => match f (x :: xs) (s - vl x) with
    | some w => some (x :: w)
    | none => tryS f xs s
def dfs : Nat → List Nat → Int → Option (List Nat)
  | 0, _, s => if s < 0 ∨ 0 < s then none else some []
  | c + 1, ls, s => if s < (c : Int) + 1 ∨ ((c : Int) + 1) * 900 < s then none else tryS (dfs c) ls s
theorem tryS_some (f : List Nat → Int → Option (List Nat)) (ls : List Nat) (s : Int) (w : List Nat) (h : tryS f ls s = some w) :
    ∃ a x b v, ls = a ++ x :: b ∧ w = x :: v ∧ f (x :: b) (s - vl x) = some v := by
  induction ls with
  | nil => simp [tryS] at h
  | cons y ys ih =>
    simp only [tryS] at h
    split at h
    · rename_i v hv
      exact ⟨[], y, ys, v, rfl, (Option.some.inj h).symm, hv⟩
    · obtain ⟨a, x, b, v, e, hw, hf⟩ := ih h
      exact ⟨y :: a, x, b, v, by rw [e]; rfl, hw, hf⟩
theorem dfs_some (c : Nat) : ∀ (ls : List Nat) (s : Int) (w : List Nat), (∀ i ∈ ls, i < 27) → dfs c ls s = some w → (∀ i ∈ w, i < 27) ∧ (wsum w : Int) = s ∧ w.length = c := by
  induction c with
  | zero =>
    intro ls s w _ h
    simp only [dfs] at h
    split at h
    · cases h
    · cases h
      exact ⟨fun i hi => by simp at hi, by simp [wsum]; omega, rfl⟩
  | succ c ih =>
    intro ls s w hls h
    simp only [dfs] at h
    split at h
    · cases h
    · obtain ⟨a, x, b, v, e, rfl, hf⟩ := tryS_some _ _ _ _ h
      have hx : x < 27 := hls x (by rw [e]; simp)
      obtain ⟨h1, h2, h3⟩ := ih (x :: b) _ v (fun i hi => hls i (by rw [e]; simp at hi ⊢; rcases hi with h | h <;> simp [h])) hf
      refine ⟨fun j hj => ?_, ?_, by simp [h3]⟩
      · rcases List.mem_cons.1 hj with rfl | hj
        · exact hx
        · exact h1 j hj
      · rw [vl_vn] at h2
        simp only [wsum]
        omega
theorem dfs_none (c n : Nat) (ls : List Nat) (hls : ∀ i ∈ ls, i < 27) (h : c < few n) : dfs c ls n = none := by
  cases hd : dfs c ls n with
  | none => rfl
  | some w =>
    obtain ⟨h1, h2, h3⟩ := dfs_some c ls n w hls hd
    have := few_word w h1
    rw [show wsum w = n by omega] at this
    omega
theorem dfs_neg (c : Nat) (s : Int) (ls : List Nat) (hls : ∀ i ∈ ls, i < 27) (h : s < 0) : dfs c ls s = none := by
  cases hd : dfs c ls s with
  | none => rfl
  | some w =>
    obtain ⟨h1, h2, h3⟩ := dfs_some c ls s w hls hd
    omega
theorem tryS_skip (f : List Nat → Int → Option (List Nat)) (s : Int) (a : List Nat) (x : Nat) (b w : List Nat)
    (hno : ∀ a1 y a2, a = a1 ++ y :: a2 → f (y :: (a2 ++ x :: b)) (s - vl y) = none) (hx : f (x :: b) (s - vl x) = some w) : tryS f (a ++ x :: b) s = some (x :: w) := by
  induction a with
  | nil => simp only [List.nil_append, tryS, hx]
  | cons y ys ih =>
    simp only [List.cons_append, tryS]
    rw [hno [] y ys rfl]
    exact ih (fun a1 z a2 e => hno (y :: a1) z a2 (by rw [e]; rfl))
theorem dfs_few (c : Nat) : ∀ (n : Nat) (pre ls : List Nat), L27 = pre ++ ls → few n = c → (∀ i, i < 27 → adm n i = true → i ∈ ls) → dfs c ls n = some (gr c n) := by
  induction c with
  | zero =>
    intro n pre ls _ h _
    have : n = 0 := by
      rcases Nat.eq_zero_or_pos n with h' | h'
      · exact h'
      · have := few_pos n h'; omega
    subst this
    rfl
  | succ c ih =>
    intro n pre ls hL h hadm
    obtain ⟨x, hx, hfind, hv, hf, e⟩ := gr_step c n h
    have hls : ∀ i ∈ ls, i < 27 := fun i hi => (mem27 i).1 (by rw [hL]; simp [hi])
    have hnd : (pre ++ ls).Nodup := hL ▸ nodup27
    have hpre : pre.find? (adm n) = none := by
      rw [List.find?_eq_none]
      intro y hy hya
      have h1 := hadm y ((mem27 y).1 (by rw [hL]; simp [hy])) hya
      exact (List.nodup_append.1 hnd).2.2 y hy y h1 rfl
    rw [hL, List.find?_append, hpre, Option.none_or] at hfind
    obtain ⟨hxa, a, b, hab, hna⟩ := List.find?_eq_some_iff_append.1 hfind
    obtain ⟨w1, w2, w3⟩ := gr_word (c + 1) n h
    have hlo : ∀ w : List Nat, (∀ i ∈ w, i < 27) → w.length ≤ wsum w ∧ wsum w ≤ 900 * w.length := by
      intro w hw
      induction w with
      | nil => simp [wsum]
      | cons i r ihr =>
        have h1 := vn_bd i (hw i (by simp))
        have h2 := ihr (fun j hj => hw j (by simp [hj]))
        simp only [wsum, List.length_cons]
        omega
    have hb := hlo _ w1
    rw [w2, w3] at hb
    simp only [dfs]
    rw [if_neg (by omega), e, hab]
    refine tryS_skip _ _ a x b _ ?_ ?_
    · intro a1 y a2 hay
      have hym : y ∈ ls := by rw [hab, hay]; simp
      have hy27 := hls y hym
      have hyn : adm n y = false := by
        have := hna y (by rw [hay]; simp)
        simpa using this
      have hsub : ∀ i ∈ y :: (a2 ++ x :: b), i < 27 := fun i hi => hls i (by rw [hab, hay]; simp at hi ⊢; rcases hi with h | h | h | h <;> simp [h])
      rw [vl_vn]
      by_cases hvy : vn y ≤ n
      · have h1 := few_step n y hy27 hvy
        have h2 : few (n - vn y) + 1 ≠ few n := fun e' => by
          have := (adm_iff n y).2 ⟨hvy, e'⟩
          rw [this] at hyn; cases hyn
        rw [show ((n : Int) - (vn y : Nat)) = ((n - vn y : Nat) : Int) by omega]
        exact dfs_none c _ _ hsub (by omega)
      · exact dfs_neg c _ _ hsub (by omega)
    · rw [vl_vn, show ((n : Int) - (vn x : Nat)) = ((n - vn x : Nat) : Int) by omega]
      refine ih (n - vn x) (pre ++ a) (x :: b) (by rw [hL, hab, List.append_assoc]) hf ?_
      intro y hy hya
      obtain ⟨y1, y2⟩ := (adm_iff _ _).1 hya
      have z1 := few_step (n - vn y) x hx (by omega)
      have z2 := few_step n y hy (by omega)
      rw [show n - vn y - vn x = n - vn x - vn y by omega] at z1
      have h1 : adm n y = true := (adm_iff n y).2 ⟨by omega, by omega⟩
      have h2 := hadm y hy h1
      rw [hab] at h2
      rcases List.mem_append.1 h2 with h3 | h3
      · have := hna y h3
        rw [h1] at this
        simp at this
      · exact h3
theorem few_digits (n : Nat) (h : n < 1000) : few n ≤ (aof n).length := by
  rw [aof_len_low n h]
  have s1 : ∀ m, m < 10 → few m ≤ if m = 0 then 0 else 1 := by
    intro m hm
    split
    · rename_i h0; subst h0; exact Nat.le_refl _
    · have hv : vn (m - 1) = m := by unfold vn; rw [show (m - 1) % 9 + 1 = m by omega, show (m - 1) / 9 = 0 by omega]; simp
      have := few_step m (m - 1) (by omega) (by omega)
      rw [hv, Nat.sub_self, few_zero] at this
      exact this
  have s2 : ∀ m, m < 100 → few m ≤ (if m / 10 = 0 then 0 else 1) + if m % 10 = 0 then 0 else 1 := by
    intro m hm
    split
    · have := s1 m (by omega)
      rw [show m % 10 = m by omega]
      omega
    · have hv : vn (8 + m / 10) = m / 10 * 10 := by unfold vn; rw [show (8 + m / 10) % 9 + 1 = m / 10 by omega, show (8 + m / 10) / 9 = 1 by omega]
      have h1 := few_step m (8 + m / 10) (by omega) (by omega)
      rw [hv, show m - m / 10 * 10 = m % 10 by omega] at h1
      have h2 := s1 (m % 10) (by omega)
      omega
  by_cases hz : n / 100 = 0
  · have := s2 n (by omega)
    rw [if_pos (by omega), show n / 10 % 10 = n / 10 by omega]
    omega
  · have hv : vn (17 + n / 100) = n / 100 * 100 := by unfold vn; rw [show (17 + n / 100) % 9 + 1 = n / 100 by omega, show (17 + n / 100) / 9 = 2 by omega]
    have h1 := few_step n (17 + n / 100) (by omega) (by omega)
    rw [hv, show n - n / 100 * 100 = n % 100 by omega] at h1
    have h2 := s2 (n % 100) (by omega)
    rw [show n % 100 / 10 = n / 10 % 10 by omega, show n % 100 % 10 = n % 10 by omega] at h2
    rw [if_neg (by omega)]
    omega
theorem few_five (n : Nat) (h : n ≤ 2000) : few n ≤ 5 := by
  have h3 : ∀ m, m < 1000 → few m ≤ 3 := fun m hm => by
    have h1 := few_digits m hm
    rw [aof_len_low m hm] at h1
    refine Nat.le_trans h1 ?_
    split <;> split <;> split <;> omega
  have hv : vn 26 = 900 := rfl
  by_cases h1 : n < 1000
  · have := h3 n h1; omega
  · have k1 := few_step n 26 (by omega) (by omega)
    rw [hv] at k1
    by_cases h2 : n < 1900
    · have := h3 (n - 900) (by omega); omega
    · have k2 := few_step (n - 900) 26 (by omega) (by omega)
      rw [hv] at k2
      have := h3 (n - 900 - 900) (by omega)
      omega
/-- the text of a word -/
def wtext (w : List Nat) : List UInt8 := w.map lt
theorem wtext_sum (w : List Nat) (h : ∀ i ∈ w, i < 27) : asum (wtext w) = (wsum w : Nat) ∧ okA (wtext w) = true := by
  induction w with
  | nil => exact ⟨rfl, rfl⟩
  | cons i r ih =>
    obtain ⟨h1, h2⟩ := ih (fun j hj => h j (by simp [hj]))
    have hi := h i (by simp)
    have hb := vl_bd i hi
    unfold wtext at *
    simp only [List.map_cons, asum, okA_cons, wsum]
    rw [av_lt i hi, h1, h2]
    refine ⟨by rw [vl_vn]; omega, by simp; omega⟩
/-- the first word of the shortest -/
def least (n : Nat) : List UInt8 := wtext (gr (few n) n)
theorem least_facts (n : Nat) : asum (least n) = n ∧ okA (least n) = true ∧ (least n).length = few n := by
  obtain ⟨h1, h2, h3⟩ := gr_word (few n) n rfl
  obtain ⟨h4, h5⟩ := wtext_sum _ h1
  refine ⟨by unfold least; rw [h4, h2], h5, by unfold least wtext; rw [List.length_map, h3]⟩
end Go.Proofs.YtalnojpdkiimpaaDoor
