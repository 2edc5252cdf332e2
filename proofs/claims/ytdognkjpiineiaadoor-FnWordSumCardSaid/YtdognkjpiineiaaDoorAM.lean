/- Letters as numbers, plain: values of letters, letters of numbers, sums of words. No program. -/
namespace Go.Proofs.YtdognkjpiineiaaDoor
set_option linter.unusedVariables false
set_option maxRecDepth 100000
/-- the value of a byte, 0 if it is no letter -/
def av (c : Int) : Int := if 97 ≤ c ∧ c ≤ 105 then c - 96 else if 106 ≤ c ∧ c ≤ 114 then 10 * (c - 105) else if 115 ≤ c ∧ c ≤ 122 then 100 * (c - 114) else if c = 42 then 900 else 0
theorem av_bd (c : Int) : 0 ≤ av c ∧ av c ≤ 900 := by unfold av; split <;> (try split) <;> (try split) <;> (try split) <;> omega
/-- the letter at a place: 0 to 8 ones, 9 to 17 tens, 18 to 26 hundreds -/
def lt (i : Nat) : UInt8 := if i < 26 then UInt8.ofNat (97 + i) else 42
/-- the value of the letter at a place -/
def vl (i : Nat) : Int := (i % 9 + 1 : Nat) * (10 : Int) ^ (i / 9)
theorem av_lt : ∀ i, i < 27 → av ((lt i).toNat : Int) = vl i := by decide
theorem vl_bd : ∀ i, i < 27 → 1 ≤ vl i ∧ vl i ≤ 900 := by decide
theorem lt_ne : ∀ i, i < 27 → lt i ≠ 39 := by decide
/-- the letter of a digit of a rank -/
def dl (d p : Nat) : List UInt8 := if d = 0 then [] else [lt (9 * p + d - 1)]
/-- the letters of a number -/
def aof (n : Nat) : List UInt8 := (if n / 1000 = 0 then [] else 39 :: dl (n / 1000) 0) ++ (dl (n / 100 % 10) 2 ++ (dl (n / 10 % 10) 1 ++ dl (n % 10) 0))
def asum : List UInt8 → Int
  | [] => 0
  | c :: r => av (c.toNat : Int) + asum r
theorem asum_append (a b : List UInt8) : asum (a ++ b) = asum a + asum b := by
  induction a with
  | nil => simp [asum]
  | cons c r ih => simp only [List.cons_append, asum, ih]; omega
theorem asum_bd (l : List UInt8) : 0 ≤ asum l ∧ asum l ≤ 900 * l.length := by
  induction l with
  | nil => simp [asum]
  | cons c r ih =>
    have := av_bd (c.toNat : Int)
    simp only [asum, List.length_cons]
    omega
/-- all are letters -/
def okA (l : List UInt8) : Bool := l.all fun c => decide (0 < av (c.toNat : Int))
theorem okA_cons (c : UInt8) (r : List UInt8) : okA (c :: r) = (decide (0 < av (c.toNat : Int)) && okA r) := rfl
theorem okA_append (a b : List UInt8) : okA (a ++ b) = (okA a && okA b) := by simp [okA]
/-- what a leading sign of thousands adds to the sum -/
def th : List UInt8 → Int
  | c :: d :: _ => if c = 39 then 999 * av (d.toNat : Int) else 0
  | _ => 0
theorem th_two (c d : UInt8) (r : List UInt8) : th (c :: d :: r) = if c = 39 then 999 * av (d.toNat : Int) else 0 := rfl
theorem th_bd (l : List UInt8) : 0 ≤ th l ∧ th l ≤ 899100 := by
  match l with
  | [] => simp [th]
  | [c] => simp [th]
  | c :: d :: r => have := av_bd (d.toNat : Int); rw [th_two]; split <;> omega
/-- the number that letters tell, if they are those of a number -/
def rdA (l : List UInt8) : Int := th l + asum l
theorem dl_sum (d p : Nat) (hd : d ≤ 9) (hp : p ≤ 2) : asum (dl d p) = d * (10 : Int) ^ p := by
  unfold dl
  split
  · simp [asum, *]
  · simp only [asum, Int.add_zero]
    rw [av_lt _ (by omega)]
    unfold vl
    have h1 : (9 * p + d - 1) % 9 + 1 = d := by omega
    have h2 : (9 * p + d - 1) / 9 = p := by omega
    rw [h1, h2]
theorem dl_ok (d p : Nat) (hd : d ≤ 9) (hp : p ≤ 2) : okA (dl d p) = true := by
  unfold dl
  split
  · rfl
  · rw [okA_cons, av_lt _ (by omega)]
    have := vl_bd (9 * p + d - 1) (by omega)
    simp [okA]; omega
theorem dl_len (d p : Nat) : (dl d p).length ≤ 1 := by unfold dl; split <;> simp
theorem dl_len_eq (d p : Nat) : (dl d p).length = if d = 0 then 0 else 1 := by unfold dl; split <;> simp
theorem th_ok (l : List UInt8) (h : okA l = true) : th l = 0 := by
  match l with
  | [] => rfl
  | [c] => rfl
  | c :: d :: r =>
    rw [th_two]
    split
    · rename_i hc
      subst hc
      rw [okA_cons] at h
      revert h
      simp [av]
    · rfl
/-- the letters without thousands -/
def low (n : Nat) : List UInt8 := dl (n / 100 % 10) 2 ++ (dl (n / 10 % 10) 1 ++ dl (n % 10) 0)
theorem low_ok (n : Nat) : okA (low n) = true := by
  unfold low
  rw [okA_append, okA_append, dl_ok _ _ (by omega) (by omega), dl_ok _ _ (by omega) (by omega), dl_ok _ _ (by omega) (by omega)]
  rfl
theorem low_sum (n : Nat) : asum (low n) = (n % 1000 : Nat) := by
  unfold low
  rw [asum_append, asum_append, dl_sum _ _ (by omega) (by omega), dl_sum _ _ (by omega) (by omega), dl_sum _ _ (by omega) (by omega)]
  simp only [Int.reducePow]
  omega
theorem low_len (n : Nat) : (low n).length ≤ 3 := by
  unfold low
  have h1 := dl_len (n / 100 % 10) 2
  have h2 := dl_len (n / 10 % 10) 1
  have h3 := dl_len (n % 10) 0
  simp only [List.length_append]
  omega
theorem aof_low (n : Nat) (h : n < 1000) : aof n = low n := by
  unfold aof low
  rw [if_pos (by omega)]
  rfl
theorem aof_high (n : Nat) (h : 1000 ≤ n) : aof n = 39 :: lt (n / 1000 - 1) :: low n := by
  unfold aof low dl
  rw [if_neg (by omega), if_neg (by omega), show 9 * 0 + n / 1000 - 1 = n / 1000 - 1 by omega]
  rfl
theorem aof_len (n : Nat) : (aof n).length ≤ 5 := by
  have := low_len n
  by_cases h : n < 1000
  · rw [aof_low n h]; omega
  · rw [aof_high n (by omega)]; simp; omega
theorem rdA_aof (n : Nat) (h : n ≤ 9999) : rdA (aof n) = n := by
  unfold rdA
  by_cases h' : n < 1000
  · rw [aof_low n h', th_ok _ (low_ok n), low_sum]; omega
  · rw [aof_high n (by omega)]
    have ha := av_lt (n / 1000 - 1) (by omega)
    have hv : vl (n / 1000 - 1) = (n / 1000 : Nat) := by
      unfold vl
      rw [show (n / 1000 - 1) % 9 + 1 = n / 1000 by omega, show (n / 1000 - 1) / 9 = 0 by omega]
      simp
    rw [hv] at ha
    simp only [th, asum, ha, low_sum, if_true]
    have : av ((39 : UInt8).toNat : Int) = 0 := by decide
    rw [this]
    omega
/-- what letters of numbers look like -/
theorem aof_shape (n : Nat) (h : n ≤ 9999) : okA (aof n) = true ∨ ∃ c r, aof n = 39 :: c :: r ∧ okA (c :: r) = true := by
  by_cases h' : n < 1000
  · rw [aof_low n h']; exact .inl (low_ok n)
  · rw [aof_high n (by omega)]
    refine .inr ⟨_, _, rfl, ?_⟩
    rw [okA_cons, low_ok, av_lt _ (by omega)]
    have := vl_bd (n / 1000 - 1) (by omega)
    simp; omega
/-- are they the letters of a number? -/
def isA (l : List UInt8) : Bool := decide (1 ≤ rdA l ∧ rdA l ≤ 9999 ∧ aof (rdA l).toNat = l)
theorem isA_aof (n : Nat) (h0 : 1 ≤ n) (h : n ≤ 9999) : isA (aof n) = true := by
  unfold isA
  rw [rdA_aof n h]
  simp; omega
theorem isA_len (l : List UInt8) (h : isA l = true) : l.length ≤ 5 := by
  unfold isA at h
  have h' := of_decide_eq_true h
  rw [← h'.2.2]
  exact aof_len _
theorem isA_eq (n : Nat) (l : List UInt8) (h0 : 1 ≤ n) (h : n ≤ 9999) (e : aof n = l) : rdA l = n ∧ isA l = true := by
  subst e; exact ⟨rdA_aof n h, isA_aof n h0 h⟩
theorem isA_shape (l : List UInt8) (h : isA l = true) : okA l = true ∨ ∃ c r, l = 39 :: c :: r ∧ okA (c :: r) = true := by
  unfold isA at h
  have h' := of_decide_eq_true h
  have := aof_shape (rdA l).toNat (by omega)
  rwa [h'.2.2] at this
theorem isA_of (l : List UInt8) (h : isA l = true) : 1 ≤ rdA l ∧ rdA l ≤ 9999 ∧ aof (rdA l).toNat = l := of_decide_eq_true h
/-- the number of letters of a number under 1000 -/
theorem aof_len_low (n : Nat) (h : n < 1000) : (aof n).length = (if n / 100 % 10 = 0 then 0 else 1) + ((if n / 10 % 10 = 0 then 0 else 1) + (if n % 10 = 0 then 0 else 1)) := by
  rw [aof_low n h]
  unfold low
  simp only [List.length_append, dl_len_eq]
/-- a text of letters has a sum of at least its length -/
theorem asum_pos (l : List UInt8) (h : okA l = true) : (l.length : Int) ≤ asum l := by
  induction l with
  | nil => simp [asum]
  | cons c r ih =>
    rw [okA_cons, Bool.and_eq_true] at h
    have h1 := of_decide_eq_true h.1
    have h2 := ih h.2
    simp only [asum, List.length_cons]
    omega
theorem asum_take_succ (l : List UInt8) (k : Nat) (h : k < l.length) : asum (l.take (k + 1)) = asum (l.take k) + av (l[k].toNat : Int) := by
  rw [List.take_succ_eq_append_getElem h, asum_append]
  simp [asum]
theorem okA_take_succ (l : List UInt8) (k : Nat) (h : k < l.length) : okA (l.take (k + 1)) = (okA (l.take k) && decide (0 < av (l[k].toNat : Int))) := by
  rw [List.take_succ_eq_append_getElem h, okA_append]
  simp [okA]
theorem okA_take (l : List UInt8) (k : Nat) (h : okA l = true) : okA (l.take k) = true := by
  unfold okA at *
  rw [List.all_eq_true] at *
  exact fun x hx => h x (List.mem_of_mem_take hx)
theorem okA_getElem (l : List UInt8) (k : Nat) (hk : k < l.length) (h : okA l = true) : 0 < av (l[k].toNat : Int) := by
  unfold okA at h
  rw [List.all_eq_true] at h
  exact of_decide_eq_true (h _ (List.getElem_mem hk))
end Go.Proofs.YtdognkjpiineiaaDoor
