/- Ranks, plain: ranked texts, how they are read, noughts. No program. -/
namespace Go.Proofs.YtagipmfkmikagaaDoor
set_option linter.unusedVariables false
set_option maxRecDepth 100000
/-- the sign of a digit -/
def dch (d : Nat) : UInt8 := UInt8.ofNat (48 + d)
theorem dch_fact : ∀ d : Fin 10, dch d.val ≠ 113 ∧ dch d.val ≠ 98 ∧ dch d.val ≠ 115 ∧ dch d.val ≠ 119 ∧ dch d.val ≠ 111 ∧ (dch d.val - 48).toNat = d.val ∧ (dch d.val).toNat = 48 + d.val := by decide
/-- a digit of four -/
def dgt (n i : Nat) : Nat := if i = 0 then n / 1000 % 10 else if i = 1 then n / 100 % 10 else if i = 2 then n / 10 % 10 else n % 10
theorem dgt_lt (n i : Nat) : dgt n i < 10 := by unfold dgt; split <;> (try split) <;> (try split) <;> omega
def rsg (i : Nat) : List UInt8 := if i = 0 then [113] else if i = 1 then [98] else if i = 2 then [115] else []
/-- text and gap behind i digits -/
def rkS (n : Nat) : Nat → List UInt8 × Bool
  | 0 => ([], false)
  | i + 1 => if dgt n i = 0 then ((rkS n i).1, (rkS n i).1 != []) else ((rkS n i).1 ++ (if (rkS n i).2 = true then [111] else []) ++ [dch (dgt n i)] ++ rsg i, false)
def rk4 (n : Nat) : List UInt8 := (rkS n 4).1
/-- the ranked text -/
def rkO (n : Nat) : List UInt8 := if n = 0 then [111] else if n < 10000 then rk4 n else rk4 (n / 10000) ++ [119] ++ (if 0 < n % 10000 ∧ n % 10000 < 1000 then [111] else []) ++ rk4 (n % 10000)
/-- how a byte is read: high, low, digit -/
def rdS (st : Nat × Nat × Nat) (c : UInt8) : Nat × Nat × Nat :=
  if c = 113 then (st.1, st.2.1 + 1000 * st.2.2, 0) else if c = 98 then (st.1, st.2.1 + 100 * st.2.2, 0) else if c = 115 then (st.1, st.2.1 + 10 * st.2.2, 0)
  else if c = 119 then (st.1 + 10000 * (st.2.1 + st.2.2), 0, 0) else if c = 111 then (st.1, st.2.1, 0) else (st.1, st.2.1, (c - 48).toNat)
def rdF (l : List UInt8) : Nat × Nat × Nat := l.foldl rdS (0, 0, 0)
def rkN (l : List UInt8) : Nat := (rdF l).1 + (rdF l).2.1 + (rdF l).2.2
theorem rdS_dch (st : Nat × Nat × Nat) (d : Nat) (h : d < 10) : rdS st (dch d) = (st.1, st.2.1, d) := by
  obtain ⟨h1, h2, h3, h4, h5, h6, _⟩ := dch_fact ⟨d, h⟩
  unfold rdS
  rw [if_neg h1, if_neg h2, if_neg h3, if_neg h4, if_neg h5, h6]
theorem rk4_cases (n : Nat) : rk4 n =
    (if n / 1000 % 10 = 0 then [] else [dch (n / 1000 % 10), 113]) ++
    (if n / 100 % 10 = 0 then [] else [dch (n / 100 % 10), 98]) ++
    (if n / 10 % 10 = 0 then [] else (if n / 1000 % 10 ≠ 0 ∧ n / 100 % 10 = 0 then [111] else []) ++ [dch (n / 10 % 10), 115]) ++
    (if n % 10 = 0 then [] else (if (n / 1000 % 10 ≠ 0 ∨ n / 100 % 10 ≠ 0) ∧ n / 10 % 10 = 0 then [111] else []) ++ [dch (n % 10)]) := by
  unfold rk4 rkS rkS rkS rkS rkS
  simp only [dgt, rsg]
  by_cases a : n / 1000 % 10 = 0 <;> by_cases b : n / 100 % 10 = 0 <;> by_cases c : n / 10 % 10 = 0 <;> by_cases d : n % 10 = 0 <;> simp [a, b, c, d]
theorem rd4 (n h : Nat) (hn : n < 10000) : (rk4 n).foldl rdS (h, 0, 0) = (h, n / 10 * 10, n % 10) := by
  have q : ∀ st : Nat × Nat × Nat, rdS st 113 = (st.1, st.2.1 + 1000 * st.2.2, 0) := fun _ => rfl
  have b : ∀ st : Nat × Nat × Nat, rdS st 98 = (st.1, st.2.1 + 100 * st.2.2, 0) := fun _ => rfl
  have s : ∀ st : Nat × Nat × Nat, rdS st 115 = (st.1, st.2.1 + 10 * st.2.2, 0) := fun _ => rfl
  have o : ∀ st : Nat × Nat × Nat, rdS st 111 = (st.1, st.2.1, 0) := fun _ => rfl
  have d1 := fun st => rdS_dch st (n / 1000 % 10) (by omega)
  have d2 := fun st => rdS_dch st (n / 100 % 10) (by omega)
  have d3 := fun st => rdS_dch st (n / 10 % 10) (by omega)
  have d4 := fun st => rdS_dch st (n % 10) (by omega)
  rw [rk4_cases]
  by_cases e1 : n / 1000 % 10 = 0 <;> by_cases e2 : n / 100 % 10 = 0 <;> by_cases e3 : n / 10 % 10 = 0 <;> by_cases e4 : n % 10 = 0 <;> simp [e1, e2, e3, e4, q, b, s, o, d1, d2, d3, d4] <;> omega
theorem rd_back (n : Nat) (hn : n ≤ 99999999) : rkN (rkO n) = n := by
  have w : ∀ st : Nat × Nat × Nat, rdS st 119 = (st.1 + 10000 * (st.2.1 + st.2.2), 0, 0) := fun _ => rfl
  have o : ∀ st : Nat × Nat × Nat, rdS st 111 = (st.1, st.2.1, 0) := fun _ => rfl
  unfold rkN rdF rkO
  split
  · rename_i h; subst h; rfl
  · split
    · rename_i h1 h2
      rw [rd4 n 0 h2]
      show 0 + n / 10 * 10 + n % 10 = n
      omega
    · rename_i h1 h2
      rw [List.foldl_append, List.foldl_append, List.foldl_append, rd4 (n / 10000) 0 (by omega)]
      split
      · simp only [List.foldl_cons, List.foldl_nil, w, o]
        rw [rd4 (n % 10000) _ (by omega)]
        show 0 + 10000 * (n / 10000 / 10 * 10 + n / 10000 % 10) + n % 10000 / 10 * 10 + n % 10000 % 10 = n
        omega
      · simp only [List.foldl_cons, List.foldl_nil, w]
        rw [rd4 (n % 10000) _ (by omega)]
        show 0 + 10000 * (n / 10000 / 10 * 10 + n / 10000 % 10) + n % 10000 / 10 * 10 + n % 10000 % 10 = n
        omega
theorem rk4_len (n : Nat) : (rk4 n).length ≤ 7 := by
  rw [rk4_cases]
  by_cases e1 : n / 1000 % 10 = 0 <;> by_cases e2 : n / 100 % 10 = 0 <;> by_cases e3 : n / 10 % 10 = 0 <;> by_cases e4 : n % 10 = 0 <;> simp [e1, e2, e3, e4]
theorem rk4_zero : rk4 0 = [] := by decide
theorem rkO_len (n : Nat) : 1 ≤ (rkO n).length ∧ (rkO n).length ≤ 16 := by
  unfold rkO
  split
  · simp
  · split
    · rename_i h1 h2
      refine ⟨?_, by have := rk4_len n; omega⟩
      have hne : rk4 n ≠ [] := fun e => by
        have := rd4 n 0 h2
        rw [e] at this
        simp at this
        omega
      exact List.length_pos_iff.2 hne
    · have a := rk4_len (n / 10000)
      have b := rk4_len (n % 10000)
      simp only [List.length_append, List.length_cons, List.length_nil]
      split <;> simp <;> omega
/-- how many noughts -/
def nts (l : List UInt8) : Nat := (l.filter (fun c => c == 111)).length
theorem nts_append (a b : List UInt8) : nts (a ++ b) = nts a + nts b := by unfold nts; rw [List.filter_append, List.length_append]
theorem nts_dch (d : Nat) (h : d < 10) : nts [dch d] = 0 := by
  obtain ⟨_, _, _, _, h5, _, _⟩ := dch_fact ⟨d, h⟩
  unfold nts
  rw [List.filter_cons_of_neg (by simpa using h5)]
  rfl
theorem nts_rk4 (n : Nat) : nts (rk4 n) ≤ 1 := by
  have cons : ∀ (c : UInt8) l, nts (c :: l) = nts [c] + nts l := fun c l => nts_append [c] l
  have d1 := nts_dch (n / 1000 % 10) (by omega)
  have d2 := nts_dch (n / 100 % 10) (by omega)
  have d3 := nts_dch (n / 10 % 10) (by omega)
  have d4 := nts_dch (n % 10) (by omega)
  have q : nts [113] = 0 := rfl
  have b : nts [98] = 0 := rfl
  have s : nts [115] = 0 := rfl
  have o : nts [111] = 1 := rfl
  have z : nts [] = 0 := rfl
  rw [rk4_cases]
  by_cases e1 : n / 1000 % 10 = 0 <;> by_cases e2 : n / 100 % 10 = 0 <;> by_cases e3 : n / 10 % 10 = 0 <;> by_cases e4 : n % 10 = 0 <;>
    simp only [e1, e2, e3, e4, if_true, if_false, nts_append, cons _ [_], not_true_eq_false, not_false_eq_true, ne_eq, and_true, and_false, or_true, or_false, or_self, d1, d2, d3, d4, q, b, s, o, z] <;> omega
theorem nts_most (n : Nat) : nts (rkO n) ≤ 3 ∧ nts (rkO 0) = 1 := by
  refine ⟨?_, rfl⟩
  unfold rkO
  split
  · decide
  · split
    · have := nts_rk4 n; omega
    · have a := nts_rk4 (n / 10000)
      have b := nts_rk4 (n % 10000)
      have w : nts [119] = 0 := rfl
      rw [nts_append, nts_append, nts_append, w]
      split
      · have : nts [111] = 1 := rfl
        omega
      · have : nts [] = 0 := rfl
        omega
theorem nts_great (n : Nat) (h1 : 1000 ≤ n) (h2 : n ≤ 9999) : nts (rkO (n * 10000)) = nts (rkO n) := by
  have e1 : n * 10000 / 10000 = n := by omega
  have e2 : n * 10000 % 10000 = 0 := by omega
  have w : nts [119] = 0 := rfl
  have z : nts [] = 0 := rfl
  unfold rkO
  rw [if_neg (by omega), if_neg (by omega), e1, e2, if_neg (by omega), if_neg (by omega), if_pos (by omega), rk4_zero, nts_append, nts_append, nts_append, w, z]
  omega
/-- does a text tell a number? -/
def rrB (l : List UInt8) : Bool := decide (l.length ≤ 20) && decide (rkN l ≤ 99999999) && decide (rkO (rkN l) = l)
theorem rrB_spec (l : List UInt8) : rrB l = true ↔ l.length ≤ 20 ∧ rkN l ≤ 99999999 ∧ rkO (rkN l) = l := by
  unfold rrB
  rw [Bool.and_eq_true, Bool.and_eq_true, decide_eq_true_eq, decide_eq_true_eq, decide_eq_true_eq, and_assoc]
theorem rrB_rk (n : Nat) (h : n ≤ 99999999) : rrB (rkO n) = true := by
  have := rd_back n h
  exact (rrB_spec _).2 ⟨by have := (rkO_len n).2; omega, by rw [this]; exact h, by rw [this]⟩
/-- one byte more: no great numbers -/
theorem rdS_step (st : Nat × Nat × Nat) (c : UInt8) (B L : Nat) (h1 : st.1 ≤ B) (h2 : st.2.1 ≤ L) (h3 : st.2.2 ≤ 255) : (rdS st c).1 ≤ B + 10000 * (L + 255) ∧ (rdS st c).2.1 ≤ L + 255000 ∧ (rdS st c).2.2 ≤ 255 := by
  have hc : (c - 48).toNat < 256 := (c - 48).toNat_lt
  unfold rdS
  split
  · exact ⟨by show st.1 ≤ _; omega, by show st.2.1 + 1000 * st.2.2 ≤ _; omega, by show 0 ≤ _; omega⟩
  · split
    · exact ⟨by show st.1 ≤ _; omega, by show st.2.1 + 100 * st.2.2 ≤ _; omega, by show 0 ≤ _; omega⟩
    · split
      · exact ⟨by show st.1 ≤ _; omega, by show st.2.1 + 10 * st.2.2 ≤ _; omega, by show 0 ≤ _; omega⟩
      · split
        · exact ⟨by show st.1 + 10000 * (st.2.1 + st.2.2) ≤ _; omega, by show 0 ≤ _; omega, by show 0 ≤ _; omega⟩
        · split
          · exact ⟨by show st.1 ≤ _; omega, by show st.2.1 ≤ _; omega, by show 0 ≤ _; omega⟩
          · exact ⟨by show st.1 ≤ _; omega, by show st.2.1 ≤ _; omega, by show (c - 48).toNat ≤ _; omega⟩
/-- the states while a text is read are no great numbers -/
theorem rdS_bd (l : List UInt8) (hl : l.length ≤ 20) : ∀ k, k ≤ l.length → ∃ B L, ((l.take k).foldl rdS (0, 0, 0)).1 ≤ B ∧ ((l.take k).foldl rdS (0, 0, 0)).2.1 ≤ L ∧ ((l.take k).foldl rdS (0, 0, 0)).2.2 ≤ 255 ∧ L = k * 255000 ∧ (B : Int) ≤ k * 60000000000
  | 0, _ => ⟨0, 0, by simp, by simp, by simp, by simp, by simp⟩
  | k + 1, h => by
    obtain ⟨B, L, h1, h2, h3, h4, h5⟩ := rdS_bd l hl k (by omega)
    rw [List.take_succ_eq_append_getElem (by omega), List.foldl_append]
    generalize (l.take k).foldl rdS (0, 0, 0) = st at *
    obtain ⟨g1, g2, g3⟩ := rdS_step st l[k] B L h1 h2 h3
    have hk : k ≤ 19 := by omega
    exact ⟨B + 10000 * (L + 255), L + 255000, g1, g2, g3, by omega, by omega⟩
end Go.Proofs.YtagipmfkmikagaaDoor
