/- Words with a sum, plain: the fewest letters, the first word of the shortest, the search over letters in their order. No program. -/
import Derived.Test.YtdognkjpiineiaaDoorAM
namespace Go.Proofs.YtdognkjpiineiaaDoor
set_option linter.unusedVariables false
set_option maxRecDepth 100000
/-- the letters as texts are compared: the sign for 900 first -/
def L27 : List Nat := 26 :: List.range 26
theorem mem27 (i : Nat) : i ∈ L27 ↔ i < 27 := by
  unfold L27
  simp only [List.mem_cons, List.mem_range]
  omega
theorem nodup27 : L27.Nodup := by decide
theorem len27 : L27.length = 27 := by decide
/-- the value of the letter at a place -/
def vn (i : Nat) : Nat := (i % 9 + 1) * 10 ^ (i / 9)
theorem vl_vn (i : Nat) : vl i = (vn i : Nat) := by
  unfold vl vn
  rw [Int.natCast_mul, Int.natCast_pow]
  rfl
theorem vn_bd (i : Nat) (h : i < 27) : 1 ≤ vn i ∧ vn i ≤ 900 := by
  have := vl_bd i h
  rw [vl_vn] at this
  omega
/-- the best of some letters for the sum x, t telling the fewest of all lesser ones -/
def bestF (t : List Nat) (x : Nat) : List Nat → Nat → Nat
  | [], b => b
  | i :: is, b => bestF t x is (if vn i ≤ x then min b (1 + t.getD (x - vn i) 0) else b)
theorem bestF_append (t : List Nat) (x : Nat) (a c : List Nat) (b : Nat) : bestF t x (a ++ c) b = bestF t x c (bestF t x a b) := by
  induction a generalizing b with
  | nil => rfl
  | cons i is ih => simp only [List.cons_append, bestF]; rw [ih]
theorem bestF_le (t : List Nat) (x : Nat) (is : List Nat) (b : Nat) : bestF t x is b ≤ b ∧ ∀ i ∈ is, vn i ≤ x → bestF t x is b ≤ 1 + t.getD (x - vn i) 0 := by
  induction is generalizing b with
  | nil => exact ⟨Nat.le_refl _, fun i hi => by simp at hi⟩
  | cons j js ih =>
    simp only [bestF]
    obtain ⟨h1, h2⟩ := ih (if vn j ≤ x then min b (1 + t.getD (x - vn j) 0) else b)
    have h3 : (if vn j ≤ x then min b (1 + t.getD (x - vn j) 0) else b) ≤ b := by split <;> omega
    refine ⟨Nat.le_trans h1 h3, fun i hi hv => ?_⟩
    rcases List.mem_cons.1 hi with rfl | hi
    · rw [if_pos hv] at h1 ⊢
      omega
    · exact h2 i hi hv
theorem bestF_ex (t : List Nat) (x : Nat) (is : List Nat) (b : Nat) : bestF t x is b = b ∨ ∃ i ∈ is, vn i ≤ x ∧ bestF t x is b = 1 + t.getD (x - vn i) 0 := by
  induction is generalizing b with
  | nil => exact .inl rfl
  | cons j js ih =>
    simp only [bestF]
    rcases ih (if vn j ≤ x then min b (1 + t.getD (x - vn j) 0) else b) with h | ⟨i, hi, hv, he⟩
    · by_cases hv : vn j ≤ x
      · rw [if_pos hv] at h ⊢
        by_cases hb : b ≤ 1 + t.getD (x - vn j) 0
        · exact .inl (by omega)
        · exact .inr ⟨j, by simp, hv, by omega⟩
      · rw [if_neg hv] at h ⊢
        exact .inl h
    · exact .inr ⟨i, by simp [hi], hv, he⟩
/-- the fewest letters of all sums up to n -/
def fewT : Nat → List Nat
  | 0 => [0]
  | n + 1 => fewT n ++ [bestF (fewT n) (n + 1) L27 (n + 1)]
theorem fewT_len (n : Nat) : (fewT n).length = n + 1 := by
  induction n with
  | zero => rfl
  | succ n ih => simp [fewT, ih]
/-- the fewest letters with a sum -/
def few (n : Nat) : Nat := (fewT n).getD n 0
theorem fewT_at (n x : Nat) (h : x ≤ n) : (fewT n).getD x 0 = few x := by
  induction n with
  | zero => obtain rfl : x = 0 := by omega
            rfl
  | succ n ih =>
    by_cases hx : x ≤ n
    · rw [← ih hx]
      simp only [fewT, List.getD_eq_getElem?_getD]
      rw [List.getElem?_append_left (by rw [fewT_len]; omega)]
    · obtain rfl : x = n + 1 := by omega
      rfl
theorem few_zero : few 0 = 0 := rfl
theorem few_succ (n : Nat) : few (n + 1) = bestF (fewT n) (n + 1) L27 (n + 1) := by
  unfold few
  simp only [fewT, List.getD_eq_getElem?_getD]
  rw [List.getElem?_append_right (by rw [fewT_len]; omega), fewT_len]
  simp
theorem few_step (x i : Nat) (hi : i < 27) (hv : vn i ≤ x) : few x ≤ 1 + few (x - vn i) := by
  have h1 := (vn_bd i hi).1
  obtain ⟨n, rfl⟩ : ∃ n, x = n + 1 := ⟨x - 1, by omega⟩
  rw [few_succ, ← fewT_at n (n + 1 - vn i) (by omega)]
  exact (bestF_le _ _ _ _).2 i ((mem27 i).2 hi) hv
theorem few_le (x : Nat) : few x ≤ x := by
  cases x with
  | zero => exact Nat.le_refl _
  | succ n => rw [few_succ]; exact (bestF_le _ _ _ _).1
theorem few_ex (x : Nat) (h : 1 ≤ x) : ∃ i, i < 27 ∧ vn i ≤ x ∧ few x = 1 + few (x - vn i) := by
  obtain ⟨n, rfl⟩ : ∃ n, x = n + 1 := ⟨x - 1, by omega⟩
  rcases bestF_ex (fewT n) (n + 1) L27 (n + 1) with h | ⟨i, hi, hv, he⟩
  · rw [← few_succ] at h
    have h0 : vn 0 = 1 := rfl
    have h1 := few_step (n + 1) 0 (by omega) (by omega)
    have h2 := few_le n
    rw [h0, Nat.add_sub_cancel] at h1
    exact ⟨0, by omega, by omega, by rw [h0, Nat.add_sub_cancel]; omega⟩
  · have hi' := (mem27 i).1 hi
    have h1 := (vn_bd i hi').1
    rw [← few_succ, fewT_at n (n + 1 - vn i) (by omega)] at he
    exact ⟨i, hi', hv, he⟩
theorem few_pos (x : Nat) (h : 1 ≤ x) : 1 ≤ few x := by
  obtain ⟨i, _, _, he⟩ := few_ex x h
  omega
/-- the sum of a word, told by places of letters -/
def wsum : List Nat → Nat
  | [] => 0
  | i :: r => vn i + wsum r
theorem few_word (w : List Nat) (h : ∀ i ∈ w, i < 27) : few (wsum w) ≤ w.length := by
  induction w with
  | nil => exact Nat.le_refl _
  | cons i r ih =>
    have h1 := few_step (wsum (i :: r)) i (h i (by simp)) (by simp [wsum])
    have h2 := ih (fun j hj => h j (by simp [hj]))
    simp only [wsum] at h1 ⊢
    rw [Nat.add_sub_cancel_left] at h1
    simp only [List.length_cons]
    omega
/-- may this letter be the first one of a shortest word? -/
def adm (n i : Nat) : Bool := decide (vn i ≤ n) && decide (few (n - vn i) + 1 = few n)
theorem adm_iff (n i : Nat) : adm n i = true ↔ vn i ≤ n ∧ few (n - vn i) + 1 = few n := by
  unfold adm; rw [Bool.and_eq_true, decide_eq_true_eq, decide_eq_true_eq]
/-- the first word, as texts, of the shortest with a sum, c the number of its letters -/
def gr : Nat → Nat → List Nat
  | 0, _ => []
  | c + 1, n => match L27.find? (adm n) with
    | some i => i :: gr c (n - vn i)
    | none => []
theorem gr_step (c n : Nat) (h : few n = c + 1) : ∃ i, i < 27 ∧ L27.find? (adm n) = some i ∧ vn i ≤ n ∧ few (n - vn i) = c ∧ gr (c + 1) n = i :: gr c (n - vn i) := by
  have hn : 1 ≤ n := by
    rcases Nat.eq_zero_or_pos n with rfl | h'
    · rw [few_zero] at h; omega
    · exact h'
  obtain ⟨j, hj, hv, he⟩ := few_ex n hn
  cases hf : L27.find? (adm n) with
  | none =>
    have := List.find?_eq_none.1 hf j ((mem27 j).2 hj)
    exact absurd ((adm_iff n j).2 ⟨hv, by omega⟩) this
  | some i =>
    have h1 := (adm_iff n i).1 (List.find?_some hf)
    have h2 := (mem27 i).1 (List.mem_of_find?_eq_some hf)
    exact ⟨i, h2, rfl, h1.1, by omega, by simp only [gr, hf]⟩
theorem gr_word (c : Nat) : ∀ n, few n = c → (∀ i ∈ gr c n, i < 27) ∧ wsum (gr c n) = n ∧ (gr c n).length = c := by
  induction c with
  | zero =>
    intro n h
    have : n = 0 := by
      rcases Nat.eq_zero_or_pos n with h' | h'
      · exact h'
      · have := few_pos n h'; omega
    subst this
    exact ⟨fun i hi => by simp [gr] at hi, rfl, rfl⟩
  | succ c ih =>
    intro n h
    obtain ⟨i, hi, _, hv, hf, e⟩ := gr_step c n h
    obtain ⟨h1, h2, h3⟩ := ih _ hf
    rw [e]
    refine ⟨fun j hj => ?_, ?_, by simp [h3]⟩
    · rcases List.mem_cons.1 hj with rfl | hj
      · exact hi
      · exact h1 j hj
    · simp only [wsum, h2]; omega
/-- the search: letters in their order, each word's letters in this order, too -/
def tryS (f : List Nat → Int → Option (List Nat)) : List Nat → Int → Option (List Nat)
  | [], _ => none
  | x :: xs, s => match f (x :: xs) (s - vl x) with
    | some w => some (x :: w)
    | none => tryS f xs s
def dfs : Nat → List Nat → Int → Option (List Nat)
  | 0, _, s => if s < 0 ∨ 0 < s then none else some []
  | c + 1, ls, s => if s < (c : Int) + 1 ∨ ((c : Int) + 1) * 900 < s then none else tryS (dfs c) ls s
theorem tryS_some (f : List Nat → Int → Option (List Nat)) (ls : List Nat) (s : Int) (w : List Nat) (h : tryS f ls s = some w) :
    ∃ a x b v, ls = a ++ x :: b ∧ w = x :: v ∧ f (x :: b) (s - vl x) = some v := by
  induction ls with
  | nil => simp [tryS] at h
  | cons y ys ih =>
    simp only [tryS] at h
    split at h
    · rename_i v hv
      exact ⟨[], y, ys, v, rfl, (Option.some.inj h).symm, hv⟩
    · obtain ⟨a, x, b, v, e, hw, hf⟩ := ih h
      exact ⟨y :: a, x, b, v, by rw [e]; rfl, hw, hf⟩
theorem dfs_some (c : Nat) : ∀ (ls : List Nat) (s : Int) (w : List Nat), (∀ i ∈ ls, i < 27) → dfs c ls s = some w → (∀ i ∈ w, i < 27) ∧ (wsum w : Int) = s ∧ w.length = c := by
  induction c with
  | zero =>
    intro ls s w _ h
    simp only [dfs] at h
    split at h
    · cases h
    · cases h
      exact ⟨fun i hi => by simp at hi, by simp [wsum]; omega, rfl⟩
  | succ c ih =>
    intro ls s w hls h
    simp only [dfs] at h
    split at h
    · cases h
    · obtain ⟨a, x, b, v, e, rfl, hf⟩ := tryS_some _ _ _ _ h
      have hx : x < 27 := hls x (by rw [e]; simp)
      obtain ⟨h1, h2, h3⟩ := ih (x :: b) _ v (fun i hi => hls i (by rw [e]; simp at hi ⊢; rcases hi with h | h <;> simp [h])) hf
      refine ⟨fun j hj => ?_, ?_, by simp [h3]⟩
      · rcases List.mem_cons.1 hj with rfl | hj
        · exact hx
        · exact h1 j hj
      · rw [vl_vn] at h2
        simp only [wsum]
        omega
theorem dfs_none (c n : Nat) (ls : List Nat) (hls : ∀ i ∈ ls, i < 27) (h : c < few n) : dfs c ls n = none := by
  cases hd : dfs c ls n with
  | none => rfl
  | some w =>
    obtain ⟨h1, h2, h3⟩ := dfs_some c ls n w hls hd
    have := few_word w h1
    rw [show wsum w = n by omega] at this
    omega
theorem dfs_neg (c : Nat) (s : Int) (ls : List Nat) (hls : ∀ i ∈ ls, i < 27) (h : s < 0) : dfs c ls s = none := by
  cases hd : dfs c ls s with
  | none => rfl
  | some w =>
    obtain ⟨h1, h2, h3⟩ := dfs_some c ls s w hls hd
    omega
theorem tryS_skip (f : List Nat → Int → Option (List Nat)) (s : Int) (a : List Nat) (x : Nat) (b w : List Nat)
    (hno : ∀ a1 y a2, a = a1 ++ y :: a2 → f (y :: (a2 ++ x :: b)) (s - vl y) = none) (hx : f (x :: b) (s - vl x) = some w) : tryS f (a ++ x :: b) s = some (x :: w) := by
  induction a with
  | nil => simp only [List.nil_append, tryS, hx]
  | cons y ys ih =>
    simp only [List.cons_append, tryS]
    rw [hno [] y ys rfl]
    exact ih (fun a1 z a2 e => hno (y :: a1) z a2 (by rw [e]; rfl))
theorem dfs_few (c : Nat) : ∀ (n : Nat) (pre ls : List Nat), L27 = pre ++ ls → few n = c → (∀ i, i < 27 → adm n i = true → i ∈ ls) → dfs c ls n = some (gr c n) := by
  induction c with
  | zero =>
    intro n pre ls _ h _
    have : n = 0 := by
      rcases Nat.eq_zero_or_pos n with h' | h'
      · exact h'
      · have := few_pos n h'; omega
    subst this
    rfl
  | succ c ih =>
    intro n pre ls hL h hadm
    obtain ⟨x, hx, hfind, hv, hf, e⟩ := gr_step c n h
    have hls : ∀ i ∈ ls, i < 27 := fun i hi => (mem27 i).1 (by rw [hL]; simp [hi])
    have hnd : (pre ++ ls).Nodup := hL ▸ nodup27
    have hpre : pre.find? (adm n) = none := by
      rw [List.find?_eq_none]
      intro y hy hya
      have h1 := hadm y ((mem27 y).1 (by rw [hL]; simp [hy])) hya
      exact (List.nodup_append.1 hnd).2.2 y hy y h1 rfl
    rw [hL, List.find?_append, hpre, Option.none_or] at hfind
    obtain ⟨hxa, a, b, hab, hna⟩ := List.find?_eq_some_iff_append.1 hfind
    obtain ⟨w1, w2, w3⟩ := gr_word (c + 1) n h
    have hlo : ∀ w : List Nat, (∀ i ∈ w, i < 27) → w.length ≤ wsum w ∧ wsum w ≤ 900 * w.length := by
      intro w hw
      induction w with
      | nil => simp [wsum]
      | cons i r ihr =>
        have h1 := vn_bd i (hw i (by simp))
        have h2 := ihr (fun j hj => hw j (by simp [hj]))
        simp only [wsum, List.length_cons]
        omega
    have hb := hlo _ w1
    rw [w2, w3] at hb
    simp only [dfs]
    rw [if_neg (by omega), e, hab]
    refine tryS_skip _ _ a x b _ ?_ ?_
    · intro a1 y a2 hay
      have hym : y ∈ ls := by rw [hab, hay]; simp
      have hy27 := hls y hym
      have hyn : adm n y = false := by
        have := hna y (by rw [hay]; simp)
        simpa using this
      have hsub : ∀ i ∈ y :: (a2 ++ x :: b), i < 27 := fun i hi => hls i (by rw [hab, hay]; simp at hi ⊢; rcases hi with h | h | h | h <;> simp [h])
      rw [vl_vn]
      by_cases hvy : vn y ≤ n
      · have h1 := few_step n y hy27 hvy
        have h2 : few (n - vn y) + 1 ≠ few n := fun e' => by
          have := (adm_iff n y).2 ⟨hvy, e'⟩
          rw [this] at hyn; cases hyn
        rw [show ((n : Int) - (vn y : Nat)) = ((n - vn y : Nat) : Int) by omega]
        exact dfs_none c _ _ hsub (by omega)
      · exact dfs_neg c _ _ hsub (by omega)
    · rw [vl_vn, show ((n : Int) - (vn x : Nat)) = ((n - vn x : Nat) : Int) by omega]
      refine ih (n - vn x) (pre ++ a) (x :: b) (by rw [hL, hab, List.append_assoc]) hf ?_
      intro y hy hya
      obtain ⟨y1, y2⟩ := (adm_iff _ _).1 hya
      have z1 := few_step (n - vn y) x hx (by omega)
      have z2 := few_step n y hy (by omega)
      rw [show n - vn y - vn x = n - vn x - vn y by omega] at z1
      have h1 : adm n y = true := (adm_iff n y).2 ⟨by omega, by omega⟩
      have h2 := hadm y hy h1
      rw [hab] at h2
      rcases List.mem_append.1 h2 with h3 | h3
      · have := hna y h3
        rw [h1] at this
        simp at this
      · exact h3
theorem few_digits (n : Nat) (h : n < 1000) : few n ≤ (aof n).length := by
  rw [aof_len_low n h]
  have s1 : ∀ m, m < 10 → few m ≤ if m = 0 then 0 else 1 := by
    intro m hm
    split
    · rename_i h0; subst h0; exact Nat.le_refl _
    · have hv : vn (m - 1) = m := by unfold vn; rw [show (m - 1) % 9 + 1 = m by omega, show (m - 1) / 9 = 0 by omega]; simp
      have := few_step m (m - 1) (by omega) (by omega)
      rw [hv, Nat.sub_self, few_zero] at this
      exact this
  have s2 : ∀ m, m < 100 → few m ≤ (if m / 10 = 0 then 0 else 1) + if m % 10 = 0 then 0 else 1 := by
    intro m hm
    split
    · have := s1 m (by omega)
      rw [show m % 10 = m by omega]
      omega
    · have hv : vn (8 + m / 10) = m / 10 * 10 := by unfold vn; rw [show (8 + m / 10) % 9 + 1 = m / 10 by omega, show (8 + m / 10) / 9 = 1 by omega]
      have h1 := few_step m (8 + m / 10) (by omega) (by omega)
      rw [hv, show m - m / 10 * 10 = m % 10 by omega] at h1
      have h2 := s1 (m % 10) (by omega)
      omega
  by_cases hz : n / 100 = 0
  · have := s2 n (by omega)
    rw [if_pos (by omega), show n / 10 % 10 = n / 10 by omega]
    omega
  · have hv : vn (17 + n / 100) = n / 100 * 100 := by unfold vn; rw [show (17 + n / 100) % 9 + 1 = n / 100 by omega, show (17 + n / 100) / 9 = 2 by omega]
    have h1 := few_step n (17 + n / 100) (by omega) (by omega)
    rw [hv, show n - n / 100 * 100 = n % 100 by omega] at h1
    have h2 := s2 (n % 100) (by omega)
    rw [show n % 100 / 10 = n / 10 % 10 by omega, show n % 100 % 10 = n % 10 by omega] at h2
    rw [if_neg (by omega)]
    omega
theorem few_five (n : Nat) (h : n ≤ 2000) : few n ≤ 5 := by
  have h3 : ∀ m, m < 1000 → few m ≤ 3 := fun m hm => by
    have h1 := few_digits m hm
    rw [aof_len_low m hm] at h1
    refine Nat.le_trans h1 ?_
    split <;> split <;> split <;> omega
  have hv : vn 26 = 900 := rfl
  by_cases h1 : n < 1000
  · have := h3 n h1; omega
  · have k1 := few_step n 26 (by omega) (by omega)
    rw [hv] at k1
    by_cases h2 : n < 1900
    · have := h3 (n - 900) (by omega); omega
    · have k2 := few_step (n - 900) 26 (by omega) (by omega)
      rw [hv] at k2
      have := h3 (n - 900 - 900) (by omega)
      omega
/-- the text of a word -/
def wtext (w : List Nat) : List UInt8 := w.map lt
theorem wtext_sum (w : List Nat) (h : ∀ i ∈ w, i < 27) : asum (wtext w) = (wsum w : Nat) ∧ okA (wtext w) = true := by
  induction w with
  | nil => exact ⟨rfl, rfl⟩
  | cons i r ih =>
    obtain ⟨h1, h2⟩ := ih (fun j hj => h j (by simp [hj]))
    have hi := h i (by simp)
    have hb := vl_bd i hi
    unfold wtext at *
    simp only [List.map_cons, asum, okA_cons, wsum]
    rw [av_lt i hi, h1, h2]
    refine ⟨by rw [vl_vn]; omega, by simp; omega⟩
/-- the first word of the shortest -/
def least (n : Nat) : List UInt8 := wtext (gr (few n) n)
theorem least_facts (n : Nat) : asum (least n) = n ∧ okA (least n) = true ∧ (least n).length = few n := by
  obtain ⟨h1, h2, h3⟩ := gr_word (few n) n rfl
  obtain ⟨h4, h5⟩ := wtext_sum _ h1
  refine ⟨by unfold least; rw [h4, h2], h5, by unfold least wtext; rw [List.length_map, h3]⟩
end Go.Proofs.YtdognkjpiineiaaDoor
