/- Ranks, plain: the states of a machine that reads ranked texts, and what it reads. No program. -/
import Derived.Test.YtagipmfkmikagaaDoorUA
namespace Go.Proofs.YtagipmfkmikagaaDoor
set_option linter.unusedVariables false
set_option maxRecDepth 100000
/-- a state: (0, u, r, _) behind a sign of rank r; (1, u, r, _) behind an o there; (2, u, a, b) behind a digit of a rank from a to b; (3, ..) at the beginning; (4, ..) behind the o of 0. u = 1: ten thousands may follow -/
abbrev Q := Nat × Nat × Nat × Nat
def sgn (r : Nat) : List UInt8 := if r = 1 then [115] else if r = 2 then [98] else if r = 3 then [113] else [119]
def rdgs : List UInt8 := [49, 50, 51, 52, 53, 54, 55, 56, 57]
abbrev Lk := List UInt8 × Q
def wl (u : Nat) : List Lk := if u = 1 then [([119], (0, 0, 4, 0))] else []
def dlk (u r : Nat) : List Lk := if r = 0 then wl u else [(sgn r, (0, u, r, 0))]
def rdl (u a n : Nat) : List Lk := (List.range n).flatMap fun i => dlk u (a + i)
def lk (q : Q) : List Lk :=
  if q.1 = 0 then wl q.2.1 ++ ([(rdgs, (2, q.2.1, q.2.2.1 - 1, q.2.2.1 - 1))] ++ if 1 < q.2.2.1 then [([111], (1, q.2.1, q.2.2.1, 0))] else [])
  else if q.1 = 1 then [(rdgs, (2, q.2.1, 0, q.2.2.1 - 2))]
  else if q.1 = 2 then rdl q.2.1 q.2.2.1 (q.2.2.2 + 1 - q.2.2.1)
  else if q.1 = 3 then [(rdgs, (2, 1, 0, 3)), ([111], (4, 0, 0, 0))] else []
def cE (q : Q) : Bool := if q.1 = 0 then true else if q.1 = 1 then false else if q.1 = 2 then q.2.2.1 == 0 else if q.1 = 3 then false else true
def nx (q : Q) (c : UInt8) : Option Q := ((lk q).find? (fun l => l.1.contains c)).map (·.2)
def run (q : Q) : List UInt8 → Option Q
  | [] => some q
  | c :: l => (nx q c).bind fun q' => run q' l
def acc (q : Q) (l : List UInt8) : Bool := match run q l with | some q' => cE q' | none => false
theorem run_append (q : Q) (l m : List UInt8) : run q (l ++ m) = (run q l).bind fun q' => run q' m := by
  induction l generalizing q with
  | nil => rfl
  | cons c l ih =>
    show (nx q c).bind _ = ((nx q c).bind _).bind _
    cases nx q c with
    | none => rfl
    | some q' => exact ih q'
theorem acc_nil (q : Q) : acc q [] = cE q := rfl
theorem acc_cons (q q' : Q) (c : UInt8) (l : List UInt8) (h : nx q c = some q') : acc q (c :: l) = acc q' l := by
  unfold acc
  show (match (nx q c).bind fun q' => run q' l with | some q' => cE q' | none => false) = _
  rw [h]
  rfl
/-- an accepted text begins with a link's sign -/
theorem acc_inv (q : Q) (l : List UInt8) (h : acc q l = true) : (l = [] ∧ cE q = true) ∨ ∃ c l' k, l = c :: l' ∧ k ∈ lk q ∧ c ∈ k.1 ∧ acc k.2 l' = true := by
  cases l with
  | nil => exact .inl ⟨rfl, h⟩
  | cons c l =>
    refine .inr ⟨c, l, ?_⟩
    cases hn : nx q c with
    | none =>
      unfold acc at h
      simp only [run, hn, Option.bind_none] at h
      cases h
    | some q' =>
      rw [acc_cons q q' c l hn] at h
      unfold nx at hn
      obtain ⟨k, hk, rfl⟩ := Option.map_eq_some_iff.1 hn
      have h1 := List.mem_of_find?_eq_some hk
      have h2 := List.find?_some hk
      exact ⟨k, rfl, h1, by simpa using h2, h⟩
theorem wl_mem {u : Nat} {k : Lk} (h : k ∈ wl u) : u = 1 ∧ k = ([119], (0, 0, 4, 0)) := by
  unfold wl at h
  split at h
  · rename_i hu; exact ⟨hu, by simpa using h⟩
  · cases h
theorem digs_mem {c : UInt8} (h : c ∈ rdgs) : ∃ d, 1 ≤ d ∧ d ≤ 9 ∧ c = dch d := by
  unfold rdgs at h
  simp only [List.mem_cons, List.not_mem_nil, or_false] at h
  rcases h with rfl | rfl | rfl | rfl | rfl | rfl | rfl | rfl | rfl
  · exact ⟨1, by decide, by decide, rfl⟩
  · exact ⟨2, by decide, by decide, rfl⟩
  · exact ⟨3, by decide, by decide, rfl⟩
  · exact ⟨4, by decide, by decide, rfl⟩
  · exact ⟨5, by decide, by decide, rfl⟩
  · exact ⟨6, by decide, by decide, rfl⟩
  · exact ⟨7, by decide, by decide, rfl⟩
  · exact ⟨8, by decide, by decide, rfl⟩
  · exact ⟨9, by decide, by decide, rfl⟩
theorem sgn_form (r : Nat) : ∃ c, sgn r = [c] := by
  unfold sgn
  by_cases h1 : r = 1
  · exact ⟨115, if_pos h1⟩
  · by_cases h2 : r = 2
    · exact ⟨98, by rw [if_neg h1, if_pos h2]⟩
    · by_cases h3 : r = 3
      · exact ⟨113, by rw [if_neg h1, if_neg h2, if_pos h3]⟩
      · exact ⟨119, by rw [if_neg h1, if_neg h2, if_neg h3]⟩
theorem sgn_mem {r : Nat} {c : UInt8} (h : c ∈ sgn r) : sgn r = [c] := by
  obtain ⟨c', e⟩ := sgn_form r
  rw [e] at h ⊢
  simp at h
  rw [h]
/-- what is left behind a sign of rank r -/
def cont (r m : Nat) : List UInt8 := if m = 0 then [] else (if m < 10 ^ (r - 1) then [111] else []) ++ rk4 m
/-- a digit, its sign (none for ones), and what is left -/
def sgz (r : Nat) : List UInt8 := if r = 0 then [] else sgn r
theorem rk4_top (r d m : Nat) (hr : r ≤ 3) (h1 : 1 ≤ d) (h9 : d ≤ 9) (hm : m < 10 ^ r) : rk4 (d * 10 ^ r + m) = dch d :: (sgz r ++ cont r m) := by
  rcases (show r = 0 ∨ r = 1 ∨ r = 2 ∨ r = 3 by omega) with rfl | rfl | rfl | rfl
  · obtain rfl : m = 0 := by omega
    rw [rk4_cases]
    simp only [Nat.pow_zero, Nat.mul_one, Nat.add_zero]
    rw [show d / 1000 % 10 = 0 by omega, show d / 100 % 10 = 0 by omega, show d / 10 % 10 = 0 by omega, show d % 10 = d by omega]
    simp [show d ≠ 0 by omega, sgz, cont]
  · have hm : m < 10 := hm
    rw [rk4_cases]
    unfold cont
    rw [rk4_cases m]
    simp only [Nat.pow_one]
    rw [show (d * 10 + m) / 1000 % 10 = 0 by omega, show (d * 10 + m) / 100 % 10 = 0 by omega, show (d * 10 + m) / 10 % 10 = d by omega, show (d * 10 + m) % 10 = m by omega, show m / 1000 % 10 = 0 by omega, show m / 100 % 10 = 0 by omega, show m / 10 % 10 = 0 by omega, show m % 10 = m by omega]
    by_cases h0 : m = 0 <;> simp [h0, show d ≠ 0 by omega, sgz, sgn]
  · have hm : m < 100 := hm
    rw [rk4_cases]
    unfold cont
    rw [rk4_cases m]
    have e : (10 : Nat) ^ 2 = 100 := rfl
    simp only [e, show (2 - 1 : Nat) = 1 from rfl, Nat.pow_one]
    rw [show (d * 100 + m) / 1000 % 10 = 0 by omega, show (d * 100 + m) / 100 % 10 = d by omega, show (d * 100 + m) / 10 % 10 = m / 10 by omega, show (d * 100 + m) % 10 = m % 10 by omega, show m / 1000 % 10 = 0 by omega, show m / 100 % 10 = 0 by omega, show m / 10 % 10 = m / 10 by omega]
    by_cases h0 : m = 0
    · subst h0; simp [show d ≠ 0 by omega, sgz, sgn]
    · by_cases h1 : m < 10
      · have e1 : m / 10 = 0 := by omega
        have e2 : m % 10 = m := by omega
        simp [h0, h1, e1, e2, show d ≠ 0 by omega, sgz, sgn]
      · have e1 : m / 10 ≠ 0 := by omega
        have e1' : ¬ m < 10 := h1
        by_cases h2 : m % 10 = 0 <;> simp [h0, e1', e1, h2, show d ≠ 0 by omega, sgz, sgn]
  · have hm : m < 1000 := hm
    rw [rk4_cases]
    unfold cont
    rw [rk4_cases m]
    have e : (10 : Nat) ^ 3 = 1000 := rfl
    have e' : (10 : Nat) ^ 2 = 100 := rfl
    simp only [e, e', show (3 - 1 : Nat) = 2 from rfl]
    rw [show (d * 1000 + m) / 1000 % 10 = d by omega, show (d * 1000 + m) / 100 % 10 = m / 100 by omega, show (d * 1000 + m) / 10 % 10 = m / 10 % 10 by omega, show (d * 1000 + m) % 10 = m % 10 by omega, show m / 1000 % 10 = 0 by omega, show m / 100 % 10 = m / 100 by omega]
    by_cases h0 : m = 0
    · subst h0; simp [show d ≠ 0 by omega, sgz, sgn]
    · by_cases h1 : m < 100
      · have e1 : m / 100 = 0 := by omega
        by_cases h2 : m / 10 % 10 = 0
        · have h3 : m % 10 ≠ 0 := by omega
          simp [h0, h1, e1, h2, h3, show d ≠ 0 by omega, sgz, sgn]
        · by_cases h3 : m % 10 = 0 <;> simp [h0, h1, e1, h2, h3, show d ≠ 0 by omega, sgz, sgn]
      · have e1 : m / 100 ≠ 0 := by omega
        by_cases h2 : m / 10 % 10 = 0 <;> by_cases h3 : m % 10 = 0 <;> simp [h0, h1, e1, h2, h3, show d ≠ 0 by omega, sgz, sgn]
/-- what may follow a number less than 10000 -/
def TA (u : Nat) (t : List UInt8) : Prop := t = [] ∨ (u = 1 ∧ ∃ t', t = 119 :: t' ∧ acc (0, 0, 4, 0) t' = true)
theorem ta_link {u : Nat} {k : Lk} {c : UInt8} {l : List UInt8} (h : k ∈ wl u) (hc : c ∈ k.1) (ha : acc k.2 l = true) : TA u (c :: l) := by
  obtain ⟨hu, rfl⟩ := wl_mem h
  simp at hc
  subst hc
  exact .inr ⟨hu, l, rfl, ha⟩
theorem dl_mem {u a n : Nat} {k : Lk} (h : k ∈ rdl u a n) : ∃ r, a ≤ r ∧ r < a + n ∧ k ∈ dlk u r := by
  unfold rdl at h
  obtain ⟨i, hi, hk⟩ := List.mem_flatMap.1 h
  rw [List.mem_range] at hi
  exact ⟨a + i, by omega, by omega, hk⟩
/-- behind a digit: its sign, and what its rank's sign allows -/
theorem acc_D (u a b : Nat) (hab : a ≤ b) (t : List UInt8) (h : acc (2, u, a, b) t = true) : ∃ r t', a ≤ r ∧ r ≤ b ∧ t = sgz r ++ t' ∧ ((r = 0 ∧ TA u t') ∨ (1 ≤ r ∧ acc (0, u, r, 0) t' = true)) := by
  rcases acc_inv _ _ h with ⟨rfl, hc⟩ | ⟨c, l, k, rfl, hk, hm, ha⟩
  · have hc : (a == 0) = true := hc
    obtain rfl : a = 0 := by simpa using hc
    exact ⟨0, [], Nat.le_refl _, hab, rfl, .inl ⟨rfl, .inl rfl⟩⟩
  · have hk : k ∈ rdl u a (b + 1 - a) := hk
    obtain ⟨r, h1, h2, hk⟩ := dl_mem hk
    unfold dlk at hk
    split at hk
    · rename_i h0
      subst h0
      exact ⟨0, c :: l, h1, by omega, rfl, .inl ⟨rfl, ta_link hk hm ha⟩⟩
    · rename_i h0
      obtain rfl : k = (sgn r, (0, u, r, 0)) := by simpa using hk
      refine ⟨r, l, h1, by omega, ?_, .inr ⟨by omega, ha⟩⟩
      unfold sgz
      rw [if_neg h0, sgn_mem hm]
      rfl
/-- a text that a state behind a sign of rank r accepts -/
theorem acc_B (u : Nat) (r : Nat) : 1 ≤ r → r ≤ 4 → ∀ t, acc (0, u, r, 0) t = true → ∃ m tl, m < 10 ^ r ∧ t = cont r m ++ tl ∧ TA u tl := by
  induction r using Nat.strongRecOn with
  | _ r ih =>
    intro h1 h4 t h
    have low : ∀ r' t', r' < r → (r' = 0 ∧ TA u t') ∨ (1 ≤ r' ∧ acc (0, u, r', 0) t' = true) → ∃ m tl, m < 10 ^ r' ∧ t' = cont r' m ++ tl ∧ TA u tl := by
      intro r' t' hr hh
      rcases hh with ⟨rfl, ht⟩ | ⟨h1', ha⟩
      · exact ⟨0, t', by decide, rfl, ht⟩
      · exact ih r' hr h1' (by omega) t' ha
    rcases acc_inv _ _ h with ⟨rfl, _⟩ | ⟨c, l, k, rfl, hk, hm, ha⟩
    · exact ⟨0, [], Nat.pow_pos (by decide), rfl, .inl rfl⟩
    · have hk : k ∈ wl u ++ ([(rdgs, (2, u, r - 1, r - 1))] ++ if 1 < r then [([111], (1, u, r, 0))] else []) := hk
      rcases List.mem_append.1 hk with hk | hk
      · exact ⟨0, c :: l, Nat.pow_pos (by decide), rfl, ta_link hk hm ha⟩
      · rcases List.mem_append.1 hk with hk | hk
        · obtain rfl : k = (rdgs, (2, u, r - 1, r - 1)) := by simpa using hk
          obtain ⟨d, d1, d9, rfl⟩ := digs_mem hm
          obtain ⟨r', t', q1, q2, rfl, hh⟩ := acc_D u (r - 1) (r - 1) (Nat.le_refl _) l ha
          obtain rfl : r' = r - 1 := by omega
          obtain ⟨m, tl, hm', rfl, ht⟩ := low _ _ (by omega) hh
          have hpow : 10 ^ r = 10 * 10 ^ (r - 1) := by rw [show r = (r - 1) + 1 by omega, Nat.pow_succ, Nat.mul_comm]; rfl
          have hdp : 10 ^ (r - 1) ≤ d * 10 ^ (r - 1) := Nat.le_mul_of_pos_left _ (by omega)
          have hdq : d * 10 ^ (r - 1) ≤ 9 * 10 ^ (r - 1) := Nat.mul_le_mul_right _ d9
          have hp0 : 0 < 10 ^ (r - 1) := Nat.pow_pos (by decide)
          refine ⟨d * 10 ^ (r - 1) + m, tl, by omega, ?_, ht⟩
          have e : cont r (d * 10 ^ (r - 1) + m) = rk4 (d * 10 ^ (r - 1) + m) := by
            unfold cont
            rw [if_neg (by omega), if_neg (by omega)]
            rfl
          rw [e, rk4_top (r - 1) d m (by omega) d1 d9 hm']
          simp
        · split at hk
          · rename_i hr
            obtain rfl : k = ([111], (1, u, r, 0)) := by simpa using hk
            obtain rfl : c = 111 := by simpa using hm
            rcases acc_inv _ _ ha with ⟨rfl, hc⟩ | ⟨c, l, k, rfl, hk, hm, ha2⟩
            · cases hc
            · obtain rfl : k = (rdgs, (2, u, 0, r - 2)) := by
                have hk : k ∈ [(rdgs, (2, u, 0, r - 2))] := hk
                simpa using hk
              obtain ⟨d, d1, d9, rfl⟩ := digs_mem hm
              obtain ⟨r', t', q1, q2, rfl, hh⟩ := acc_D u 0 (r - 2) (Nat.zero_le _) l ha2
              obtain ⟨m, tl, hm', rfl, ht⟩ := low _ _ (by omega) hh
              have hp0 : 0 < 10 ^ r' := Nat.pow_pos (by decide)
              have hdp : 10 ^ r' ≤ d * 10 ^ r' := Nat.le_mul_of_pos_left _ (by omega)
              have hdq : d * 10 ^ r' ≤ 9 * 10 ^ r' := Nat.mul_le_mul_right _ d9
              have h10 : 10 ^ (r' + 1) = 10 * 10 ^ r' := by rw [Nat.pow_succ, Nat.mul_comm]
              have hle : 10 ^ (r' + 1) ≤ 10 ^ (r - 1) := Nat.pow_le_pow_right (by decide) (by omega)
              have hle2 : 10 ^ (r - 1) ≤ 10 ^ r := Nat.pow_le_pow_right (by decide) (by omega)
              refine ⟨d * 10 ^ r' + m, tl, by omega, ?_, ht⟩
              have e : cont r (d * 10 ^ r' + m) = 111 :: rk4 (d * 10 ^ r' + m) := by
                unfold cont
                rw [if_neg (by omega), if_pos (by omega)]
                rfl
              rw [e, rk4_top r' d m (by omega) d1 d9 hm']
              simp
          · cases hk
theorem acc_sound (l : List UInt8) (h : acc (3, 0, 0, 0) l = true) : ∃ n, n ≤ 99999999 ∧ l = rkO n := by
  rcases acc_inv _ _ h with ⟨rfl, hc⟩ | ⟨c, l, k, rfl, hk, hm, ha⟩
  · cases hc
  · have hk : k ∈ [(rdgs, ((2, 1, 0, 3) : Q)), ([111], (4, 0, 0, 0))] := hk
    simp only [List.mem_cons, List.not_mem_nil, or_false] at hk
    rcases hk with rfl | rfl
    · obtain ⟨d, d1, d9, rfl⟩ := digs_mem hm
      obtain ⟨r, t', q1, q2, rfl, hh⟩ := acc_D 1 0 3 (by decide) l ha
      have : ∃ m tl, m < 10 ^ r ∧ t' = cont r m ++ tl ∧ TA 1 tl := by
        rcases hh with ⟨rfl, ht⟩ | ⟨h1', ha⟩
        · exact ⟨0, t', by decide, rfl, ht⟩
        · exact acc_B 1 r h1' (by omega) t' ha
      obtain ⟨m, tl, hm', rfl, ht⟩ := this
      have hb : 1 ≤ d * 10 ^ r + m ∧ d * 10 ^ r + m < 10000 := by
        rcases (show r = 0 ∨ r = 1 ∨ r = 2 ∨ r = 3 by omega) with rfl | rfl | rfl | rfl <;> simp at hm' ⊢ <;> omega
      have e := rk4_top r d m q2 d1 d9 hm'
      generalize d * 10 ^ r + m = n at *
      have e' : dch d :: (sgz r ++ (cont r m ++ tl)) = rk4 n ++ tl := by rw [e]; simp
      rw [e']
      rcases ht with rfl | ⟨_, t', rfl, ha2⟩
      · refine ⟨n, by omega, ?_⟩
        unfold rkO
        rw [if_neg (by omega), if_pos (by omega), List.append_nil]
      · obtain ⟨m', tl, hm', rfl, ht⟩ := acc_B 0 4 (by decide) (by decide) t' ha2
        have hm' : m' < 10000 := hm'
        obtain rfl : tl = [] := by
          rcases ht with rfl | ⟨h0, _⟩
          · rfl
          · cases h0
        refine ⟨n * 10000 + m', by omega, ?_⟩
        unfold rkO
        rw [if_neg (by omega), if_neg (by omega), show (n * 10000 + m') / 10000 = n by omega, show (n * 10000 + m') % 10000 = m' by omega]
        unfold cont
        by_cases h0 : m' = 0
        · subst h0
          simp [rk4_zero]
        · rw [if_neg h0]
          have : (10 : Nat) ^ (4 - 1) = 1000 := rfl
          rw [this]
          by_cases h1 : m' < 1000
          · rw [if_pos h1, if_pos ⟨by omega, h1⟩]; simp
          · rw [if_neg h1, if_neg (fun h => h1 h.2)]; simp
    · obtain rfl : c = 111 := by simpa using hm
      rcases acc_inv _ _ ha with ⟨rfl, hc⟩ | ⟨c, l, k, rfl, hk, hm, ha⟩
      · exact ⟨0, by decide, rfl⟩
      · cases hk
/-- the links, one after another -/
theorem nx_digit : ∀ u : Fin 2, ∀ r : Fin 5, ∀ d : Fin 10, 1 ≤ r.val → 1 ≤ d.val → nx (0, u.val, r.val, 0) (dch d.val) = some (2, u.val, r.val - 1, r.val - 1) := by decide
theorem nx_nought : ∀ u : Fin 2, ∀ r : Fin 5, 2 ≤ r.val → nx (0, u.val, r.val, 0) 111 = some (1, u.val, r.val, 0) := by decide
theorem nx_behind : ∀ u : Fin 2, ∀ r : Fin 5, ∀ d : Fin 10, 1 ≤ d.val → nx (1, u.val, r.val, 0) (dch d.val) = some (2, u.val, 0, r.val - 2) := by decide
theorem nx_start : ∀ d : Fin 10, 1 ≤ d.val → nx (3, 0, 0, 0) (dch d.val) = some (2, 1, 0, 3) := by decide
theorem nx_w : ∀ r : Fin 5, nx (0, 1, r.val, 0) 119 = some (0, 0, 4, 0) := by decide
theorem nx_sign : ∀ u : Fin 2, ∀ a b r : Fin 4, 1 ≤ r.val → a.val ≤ r.val → r.val ≤ b.val → nx (2, u.val, a.val, b.val) ((sgn r.val).getD 0 0) = some (0, u.val, r.val, 0) := by decide
theorem nx_dw : ∀ b : Fin 4, nx (2, 1, 0, b.val) 119 = some (0, 0, 4, 0) := by decide
theorem sgn_one (r : Nat) : sgn r = [(sgn r).getD 0 0] := by obtain ⟨c, e⟩ := sgn_form r; rw [e]; rfl
/-- behind a digit of rank r: its sign, and on -/
theorem D_acc (u a b r : Nat) (t : List UInt8) (hu : u < 2) (ha : a ≤ r) (hb : r ≤ b) (hb3 : b ≤ 3) (h : (r = 0 ∧ TA u t) ∨ (1 ≤ r ∧ acc (0, u, r, 0) t = true)) : acc (2, u, a, b) (sgz r ++ t) = true := by
  rcases h with ⟨rfl, ht⟩ | ⟨h1, h⟩
  · obtain rfl : a = 0 := by omega
    rcases ht with rfl | ⟨rfl, t', rfl, ha⟩
    · rfl
    · show acc _ (119 :: t') = true
      rw [acc_cons _ _ _ _ (nx_dw ⟨b, by omega⟩)]
      exact ha
  · unfold sgz
    rw [if_neg (by omega), sgn_one]
    show acc _ (_ :: t) = true
    rw [acc_cons _ _ _ _ (nx_sign ⟨u, hu⟩ ⟨a, by omega⟩ ⟨b, by omega⟩ ⟨r, by omega⟩ h1 ha hb)]
    exact h
/-- the first digit of a number -/
theorem top_of (m : Nat) (h0 : m ≠ 0) (h : m < 10000) : ∃ r d m', r ≤ 3 ∧ 1 ≤ d ∧ d ≤ 9 ∧ m' < 10 ^ r ∧ m = d * 10 ^ r + m' := by
  by_cases h1 : m < 10
  · exact ⟨0, m, 0, by omega, by omega, by omega, by decide, by omega⟩
  · by_cases h2 : m < 100
    · exact ⟨1, m / 10, m % 10, by omega, by omega, by omega, by show m % 10 < 10; omega, by show m = m / 10 * 10 + m % 10; omega⟩
    · by_cases h3 : m < 1000
      · exact ⟨2, m / 100, m % 100, by omega, by omega, by omega, by show m % 100 < 100; omega, by show m = m / 100 * 100 + m % 100; omega⟩
      · exact ⟨3, m / 1000, m % 1000, by omega, by omega, by omega, by show m % 1000 < 1000; omega, by show m = m / 1000 * 1000 + m % 1000; omega⟩
theorem top_lt {r r' d m' : Nat} (d1 : 1 ≤ d) (h : d * 10 ^ r' + m' < 10 ^ r) : r' < r := by
  apply Nat.lt_of_not_le
  intro hle
  have h1 : 10 ^ r ≤ 10 ^ r' := Nat.pow_le_pow_right (by decide) hle
  have h2 : 10 ^ r' ≤ d * 10 ^ r' := Nat.le_mul_of_pos_left _ (by omega)
  omega
theorem B_acc (u : Nat) (hu : u < 2) (r : Nat) : 1 ≤ r → r ≤ 4 → ∀ m tl, m < 10 ^ r → TA u tl → acc (0, u, r, 0) (cont r m ++ tl) = true := by
  induction r using Nat.strongRecOn with
  | _ r ih =>
    intro h1 h4 m tl hm ht
    by_cases h0 : m = 0
    · subst h0
      show acc (0, u, r, 0) tl = true
      rcases ht with rfl | ⟨rfl, t', rfl, ha⟩
      · rfl
      · rw [acc_cons _ _ _ _ (nx_w ⟨r, by omega⟩)]
        exact ha
    · have hle : 10 ^ r ≤ 10 ^ 4 := Nat.pow_le_pow_right (by decide) h4
      have hle : 10 ^ r ≤ 10000 := hle
      obtain ⟨r', d, m', hr3, d1, d9, hm', rfl⟩ := top_of m h0 (by omega)
      have hr : r' < r := top_lt d1 hm
      have hh : (r' = 0 ∧ TA u (cont r' m' ++ tl)) ∨ (1 ≤ r' ∧ acc (0, u, r', 0) (cont r' m' ++ tl) = true) := by
        by_cases hz : r' = 0
        · subst hz
          obtain rfl : m' = 0 := by simpa using hm'
          exact .inl ⟨rfl, ht⟩
        · exact .inr ⟨by omega, ih r' hr (by omega) (by omega) m' tl hm' ht⟩
      unfold cont
      rw [if_neg h0, rk4_top r' d m' hr3 d1 d9 hm']
      by_cases hs : d * 10 ^ r' + m' < 10 ^ (r - 1)
      · have hr' : r' < r - 1 := top_lt d1 hs
        rw [if_pos hs]
        show acc _ (111 :: dch d :: (sgz r' ++ cont r' m' ++ tl)) = true
        rw [acc_cons _ _ _ _ (nx_nought ⟨u, hu⟩ ⟨r, by omega⟩ (by show 2 ≤ r; omega)), acc_cons _ _ _ _ (nx_behind ⟨u, hu⟩ ⟨r, by omega⟩ ⟨d, by omega⟩ d1), List.append_assoc]
        exact D_acc u 0 (r - 2) r' _ hu (Nat.zero_le _) (by omega) (by omega) hh
      · rw [if_neg hs]
        obtain rfl : r' = r - 1 := by
          apply Nat.le_antisymm (by omega)
          apply Nat.le_of_not_lt
          intro hlt
          apply hs
          have g1 : 10 ^ (r' + 1) ≤ 10 ^ (r - 1) := Nat.pow_le_pow_right (by decide) hlt
          have g2 : 10 ^ (r' + 1) = 10 * 10 ^ r' := by rw [Nat.pow_succ, Nat.mul_comm]
          have g3 : d * 10 ^ r' ≤ 9 * 10 ^ r' := Nat.mul_le_mul_right _ d9
          omega
        show acc _ (dch d :: (sgz (r - 1) ++ cont (r - 1) m' ++ tl)) = true
        rw [acc_cons _ _ _ _ (nx_digit ⟨u, hu⟩ ⟨r, by omega⟩ ⟨d, by omega⟩ h1 d1), List.append_assoc]
        exact D_acc u (r - 1) (r - 1) (r - 1) _ hu (Nat.le_refl _) (Nat.le_refl _) (by omega) hh
/-- every ranked text is accepted -/
theorem acc_all (n : Nat) (hn : n ≤ 99999999) : acc (3, 0, 0, 0) (rkO n) = true := by
  have up : ∀ m tl, m ≠ 0 → m < 10000 → TA 1 tl → acc (3, 0, 0, 0) (rk4 m ++ tl) = true := by
    intro m tl h0 hm ht
    obtain ⟨r', d, m', hr3, d1, d9, hm', rfl⟩ := top_of m h0 hm
    rw [rk4_top r' d m' hr3 d1 d9 hm']
    show acc _ (dch d :: (sgz r' ++ cont r' m' ++ tl)) = true
    rw [acc_cons _ _ _ _ (nx_start ⟨d, by omega⟩ d1), List.append_assoc]
    refine D_acc 1 0 3 r' _ (by decide) (Nat.zero_le _) hr3 (by decide) ?_
    by_cases hz : r' = 0
    · subst hz
      obtain rfl : m' = 0 := by simpa using hm'
      exact .inl ⟨rfl, ht⟩
    · exact .inr ⟨by omega, B_acc 1 (by decide) r' (by omega) (by omega) m' tl hm' ht⟩
  unfold rkO
  split
  · rfl
  · split
    · have := up n [] (by assumption) (by assumption) (.inl rfl)
      rwa [List.append_nil] at this
    · rw [List.append_assoc, List.append_assoc]
      refine up (n / 10000) _ (by omega) (by omega) (.inr ⟨rfl, _, rfl, ?_⟩)
      have hb := B_acc 0 (by decide) 4 (by decide) (by decide) (n % 10000) [] (by show n % 10000 < 10000; omega) (.inl rfl)
      rw [List.append_nil] at hb
      refine Eq.trans (congrArg _ ?_) hb
      unfold cont
      have : (10 : Nat) ^ (4 - 1) = 1000 := rfl
      rw [this]
      by_cases h0 : n % 10000 = 0
      · rw [h0]; rfl
      · rw [if_neg h0]
        by_cases h1 : n % 10000 < 1000
        · rw [if_pos h1, if_pos ⟨by omega, h1⟩]; rfl
        · rw [if_neg h1, if_neg (fun h => h1 h.2)]; rfl
theorem acc_rr (l : List UInt8) : acc (3, 0, 0, 0) l = rrB l := by
  cases h : rrB l with
  | true =>
    obtain ⟨_, h2, h3⟩ := (rrB_spec l).1 h
    rw [← h3]
    exact acc_all _ h2
  | false =>
    cases h' : acc (3, 0, 0, 0) l with
    | false => rfl
    | true =>
      obtain ⟨n, hn, rfl⟩ := acc_sound l h'
      rw [rrB_rk n hn] at h
      cases h
/-- how the program reckons: number, digit -/
def nS (st : Nat × Nat) (c : UInt8) : Nat × Nat :=
  if c = 119 then ((st.1 + st.2) * 10000, 0) else if c = 113 then (st.1 + st.2 * 1000, 0) else if c = 98 then (st.1 + st.2 * 100, 0) else if c = 115 then (st.1 + st.2 * 10, 0)
  else if 49 ≤ c.toNat ∧ c.toNat ≤ 57 then (st.1, c.toNat - 48) else (st.1, 0)
def nF (l : List UInt8) : Nat × Nat := l.foldl nS (0, 0)
theorem nS_dch (st : Nat × Nat) (d : Nat) (h : d < 10) : nS st (dch d) = (st.1, d) := by
  obtain ⟨h1, h2, h3, h4, h5, _, h7⟩ := dch_fact ⟨d, h⟩
  unfold nS
  rw [if_neg h4, if_neg h1, if_neg h2, if_neg h3]
  simp only [h7]
  split
  · congr 1; omega
  · congr 1; omega
theorem nF4 (n h : Nat) (hn : n < 10000) : (rk4 n).foldl nS (h, 0) = (h + n / 10 * 10, n % 10) := by
  have q : ∀ st : Nat × Nat, nS st 113 = (st.1 + st.2 * 1000, 0) := fun _ => rfl
  have b : ∀ st : Nat × Nat, nS st 98 = (st.1 + st.2 * 100, 0) := fun _ => rfl
  have s : ∀ st : Nat × Nat, nS st 115 = (st.1 + st.2 * 10, 0) := fun _ => rfl
  have o : ∀ st : Nat × Nat, nS st 111 = (st.1, 0) := fun _ => rfl
  have d1 := fun st => nS_dch st (n / 1000 % 10) (by omega)
  have d2 := fun st => nS_dch st (n / 100 % 10) (by omega)
  have d3 := fun st => nS_dch st (n / 10 % 10) (by omega)
  have d4 := fun st => nS_dch st (n % 10) (by omega)
  rw [rk4_cases]
  by_cases e1 : n / 1000 % 10 = 0 <;> by_cases e2 : n / 100 % 10 = 0 <;> by_cases e3 : n / 10 % 10 = 0 <;> by_cases e4 : n % 10 = 0 <;> simp [e1, e2, e3, e4, q, b, s, o, d1, d2, d3, d4] <;> omega
theorem nF_back (n : Nat) (hn : n ≤ 99999999) : (nF (rkO n)).1 + (nF (rkO n)).2 = n := by
  have w : ∀ st : Nat × Nat, nS st 119 = ((st.1 + st.2) * 10000, 0) := fun _ => rfl
  have o : ∀ st : Nat × Nat, nS st 111 = (st.1, 0) := fun _ => rfl
  unfold nF rkO
  split
  · rename_i h; subst h; rfl
  · split
    · rename_i h1 h2
      rw [nF4 n 0 h2]
      show 0 + n / 10 * 10 + n % 10 = n
      omega
    · rename_i h1 h2
      rw [List.foldl_append, List.foldl_append, List.foldl_append, nF4 (n / 10000) 0 (by omega)]
      split
      · simp only [List.foldl_cons, List.foldl_nil, w, o]
        rw [nF4 (n % 10000) _ (by omega)]
        show (0 + n / 10000 / 10 * 10 + n / 10000 % 10) * 10000 + n % 10000 / 10 * 10 + n % 10000 % 10 = n
        omega
      · simp only [List.foldl_cons, List.foldl_nil, w]
        rw [nF4 (n % 10000) _ (by omega)]
        show (0 + n / 10000 / 10 * 10 + n / 10000 % 10) * 10000 + n % 10000 / 10 * 10 + n % 10000 % 10 = n
        omega
/-- what is accepted is the number -/
theorem nF_acc (l : List UInt8) (h : acc (3, 0, 0, 0) l = true) : (nF l).1 + (nF l).2 = rkN l := by
  obtain ⟨n, hn, rfl⟩ := acc_sound l h
  rw [nF_back n hn, rd_back n hn]
theorem nS_digit (st : Nat × Nat) (c : UInt8) : (nS st c).2 ≤ 9 := by
  unfold nS
  by_cases h1 : c = 119
  · rw [if_pos h1]; exact Nat.zero_le _
  · rw [if_neg h1]
    by_cases h2 : c = 113
    · rw [if_pos h2]; exact Nat.zero_le _
    · rw [if_neg h2]
      by_cases h3 : c = 98
      · rw [if_pos h3]; exact Nat.zero_le _
      · rw [if_neg h3]
        by_cases h4 : c = 115
        · rw [if_pos h4]; exact Nat.zero_le _
        · rw [if_neg h4]
          by_cases h5 : 49 ≤ c.toNat ∧ c.toNat ≤ 57
          · rw [if_pos h5]; show c.toNat - 48 ≤ 9; omega
          · rw [if_neg h5]; exact Nat.zero_le _
end Go.Proofs.YtagipmfkmikagaaDoor
