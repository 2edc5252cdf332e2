/- Chapter 4, plain: how the program finds digits, texts, parts and readings. -/
import Derived.Test.YtejhiilkbckobaaDoorCR
import Derived.Lib.SlTrimSet
import Derived.Lib.Repeat
import Derived.Lib.Join
import Derived.Lib.Split
import Derived.Lib.IndexLaws
import Derived.Lib.IndexBytes
namespace Go.Proofs.YtejhiilkbckobaaDoor
set_option linter.unusedVariables false
set_option maxRecDepth 100000
theorem repeat_many (c : UInt8) (k : Nat) : Lib.repeatL [c] k = many [c] k := by
  induction k with
  | zero => simp [Lib.repeatL, many]
  | succ k ih => rw [many_succ, ← ih]; rfl
/-- what stands behind the tens -/
def onesOf (l : List UInt8) : List UInt8 := Lib.trimLeftS l [60]
/-- tens and ones as the program counts them -/
def rdv (l : List UInt8) : Nat := 10 * (l.length - (onesOf l).length) + (onesOf l).length
def rdo (l : List UInt8) : Option Nat := if l = [46] then some 0 else if rdv l < 60 ∧ cdig (rdv l) = l then some (rdv l) else none
theorem ones_le (l : List UInt8) : (onesOf l).length ≤ l.length := by
  unfold onesOf Lib.trimLeftS
  exact (List.dropWhile_sublist _).length_le
theorem ones_cdig (a b : Nat) : onesOf (many [60] a ++ many [89] b) = many [89] b := by
  unfold onesOf Lib.trimLeftS
  induction a with
  | zero =>
    rw [many_zero, List.nil_append]
    cases b with
    | zero => rfl
    | succ b => rw [many_succ]; rfl
  | succ a ih => rw [many_succ, List.append_assoc, List.singleton_append, List.dropWhile_cons_of_pos (by decide)]; exact ih
theorem rdo_iff (l : List UInt8) (d : Nat) : rdo l = some d ↔ d < 60 ∧ cdig d = l := by
  unfold rdo
  constructor
  · intro h
    split at h
    · rename_i e; cases h; exact ⟨by omega, e.symm⟩
    · split at h
      · rename_i e; cases h; exact e
      · cases h
  · rintro ⟨h, rfl⟩
    by_cases hd : d = 0
    · subst hd; rfl
    · have hne : cdig d ≠ [46] := fun e => by
        rcases cdig_mem d 46 (by rw [e]; simp) with h' | ⟨_, h' | h'⟩
        · exact hd h'.1
        · exact absurd h' (by decide)
        · exact absurd h' (by decide)
      have hv : rdv (cdig d) = d := by
        unfold rdv cdig
        rw [if_neg hd, ones_cdig, List.length_append, many_length, many_length]
        simp only [List.length_cons, List.length_nil]
        omega
      rw [if_neg hne, hv, if_pos ⟨h, rfl⟩]
theorem rdo_none (l : List UInt8) (h : ∀ d, d < 60 → cdig d ≠ l) : rdo l = none := by
  cases e : rdo l with
  | none => rfl
  | some d => exact absurd ((rdo_iff l d).1 e).2 (h d ((rdo_iff l d).1 e).1)
/-- the text of digits -/
theorem clay_join (n : Nat) : clay n = Lib.join ((digs n).map cdig) [32] := by
  induction n using Nat.strongRecOn with
  | ind n ih =>
    by_cases h : n < 60
    · rw [clay_low n h, digs_low n h, List.map_singleton, Lib.join_one]
    · rw [clay_high n h, digs_high n h, ih (n / 60) (by omega)]
      obtain ⟨x, r, e⟩ : ∃ x r, digs (n / 60) = x :: r := by
        cases e : digs (n / 60) with
        | nil => exact absurd e (digs_ne _)
        | cons x r => exact ⟨x, r, rfl⟩
      rw [e, List.cons_append, List.map_cons, List.map_cons, Lib.join_cons, Lib.join_cons, List.map_append]
      unfold Lib.joinTail
      simp
/-- the first place of a digit that is written -/
def zed (n : Nat) : Nat := if n < 60 then 3 else if n < 3600 then 2 else if n < 216000 then 1 else 0
theorem zed_le (n : Nat) : zed n ≤ 3 := by unfold zed; split <;> (try split) <;> (try split) <;> omega
/-- the digit at a place -/
def d4 (n k : Nat) : Nat := if k = 0 then n / 216000 % 60 else if k = 1 then n / 3600 % 60 else if k = 2 then n / 60 % 60 else n % 60
theorem d4_lt (n k : Nat) : d4 n k < 60 := by unfold d4; split <;> (try split) <;> (try split) <;> omega
theorem d4_zero (n k : Nat) (h : n < 12960000) (hk : k < zed n) : d4 n k = 0 := by
  unfold zed at hk
  unfold d4
  split at hk <;> (try split at hk) <;> (try split at hk) <;> split <;> (try split) <;> (try split) <;> omega
theorem d4_zed (n : Nat) (h : n < 12960000) (hz : zed n < 3) : d4 n (zed n) ≠ 0 := by
  rcases Nat.lt_or_ge n 60 with h1 | h1
  · unfold zed at hz; rw [if_pos h1] at hz; omega
  · rcases Nat.lt_or_ge n 3600 with h2 | h2
    · rw [show zed n = 2 by unfold zed; rw [if_neg (by omega), if_pos h2]]
      show n / 60 % 60 ≠ 0
      omega
    · rcases Nat.lt_or_ge n 216000 with h3 | h3
      · rw [show zed n = 1 by unfold zed; rw [if_neg (by omega), if_neg (by omega), if_pos h3]]
        show n / 3600 % 60 ≠ 0
        omega
      · rw [show zed n = 0 by unfold zed; rw [if_neg (by omega), if_neg (by omega), if_neg (by omega)]]
        show n / 216000 % 60 ≠ 0
        omega
theorem digs_d4 (n : Nat) (h : n < 12960000) : digs n = (List.range (4 - zed n)).map fun j => d4 n (zed n + j) := by
  unfold zed
  split
  · rename_i h1
    rw [digs_low n h1]
    simp [d4, List.range_succ]
    omega
  · rename_i h1
    rw [digs_high n h1]
    split
    · rename_i h2
      rw [digs_low _ (by omega)]
      simp [d4, List.range_succ]
      omega
    · rename_i h2
      rw [digs_high _ (by omega)]
      split
      · rename_i h3
        rw [digs_low _ (by omega)]
        simp [d4, List.range_succ]
        omega
      · rename_i h3
        rw [digs_high _ (by omega), digs_low _ (by omega)]
        simp [d4, List.range_succ]
        omega
theorem clay_d4 (n : Nat) (h : n < 12960000) : Lib.join ((List.range (4 - zed n)).map fun j => cdig (d4 n (zed n + j))) [32] = clay n := by
  rw [clay_join, digs_d4 n h, List.map_map]
  rfl
/-- the parts of a text between spaces, the last one with what is left -/
def prs : Nat → List UInt8 → List (List UInt8) := Lib.splitK [32] 0
theorem prs_zero (s : List UInt8) : prs 0 s = [s] := rfl
theorem prs_miss (k : Nat) (s : List UInt8) (h : (32 : UInt8) ∉ s) : prs k s = [s] := by
  cases k with
  | zero => rfl
  | succ k =>
    have e : Lib.index s [32] = -1 := by
      rw [Lib.index_one]
      rcases Int.lt_or_le (Lib.indexByte s 32) 0 with hn | hn
      · have := Lib.index_ge s [32]; rw [Lib.index_one] at this; omega
      · obtain ⟨o, ho⟩ := Int.eq_ofNat_of_zero_le hn
        exact absurd (List.mem_of_getElem? (Lib.indexByte_some ho).1) h
    unfold prs Lib.splitK
    rw [e]; rfl
theorem prs_hit (k : Nat) (x r : List UInt8) (h : (32 : UInt8) ∉ x) : prs (k + 1) (x ++ 32 :: r) = x :: prs k r := by
  have e : Lib.index (x ++ 32 :: r) [32] = (x.length : Nat) := by
    refine Lib.index_first (by simp) ?_ fun j hj => ?_
    · unfold Lib.occAt; rw [List.drop_left]; rfl
    · unfold Lib.occAt
      rw [List.drop_append_of_le_length (by omega)]
      have : x.drop j ≠ [] := by intro e; have := congrArg List.length e; simp at this; omega
      cases e2 : x.drop j with
      | nil => exact absurd e2 this
      | cons c t =>
        have hc : c ∈ x := List.mem_of_mem_drop (by rw [e2]; simp)
        have : c ≠ 32 := fun e => h (e ▸ hc)
        simp [List.isPrefixOf]
        exact fun e => this e.symm
  have hne : (((x.length : Nat) : Int) == -1) = false := by rw [beq_eq_false_iff_ne]; omega
  unfold prs
  rw [Lib.splitK, e, hne]
  simp
theorem prs_len (k : Nat) : ∀ s, 1 ≤ (prs k s).length ∧ (prs k s).length ≤ k + 1 := by
  induction k with
  | zero => intro s; rw [prs_zero]; simp
  | succ k ih =>
    intro s
    by_cases h : (32 : UInt8) ∈ s
    · obtain ⟨x, r, rfl, hx⟩ := List.eq_append_cons_of_mem h
      rw [prs_hit k x r hx, List.length_cons]
      have := ih r
      omega
    · rw [prs_miss _ s h]; simp
theorem join_tail (p : List UInt8) (r : List (List UInt8)) : Lib.joinTail [32] (p :: r) = 32 :: Lib.join (p :: r) [32] := by
  rw [Lib.join_cons]; unfold Lib.joinTail; simp
theorem prs_ne (k : Nat) (s : List UInt8) : ∃ p r, prs k s = p :: r := by
  cases e : prs k s with
  | nil => have := (prs_len k s).1; rw [e] at this; simp at this
  | cons p r => exact ⟨p, r, rfl⟩
theorem prs_join (k : Nat) : ∀ s, Lib.join (prs k s) [32] = s := by
  induction k with
  | zero => intro s; rw [prs_zero, Lib.join_one]
  | succ k ih =>
    intro s
    by_cases h : (32 : UInt8) ∈ s
    · obtain ⟨x, r, rfl, hx⟩ := List.eq_append_cons_of_mem h
      have e := ih r
      obtain ⟨p, q, hp⟩ := prs_ne k r
      rw [prs_hit k x r hx, Lib.join_cons]
      rw [hp] at e ⊢
      rw [join_tail, e]
    · rw [prs_miss _ s h, Lib.join_one]
theorem cdig_space (d : Nat) : (32 : UInt8) ∉ cdig d := fun h => by
  rcases cdig_mem d 32 h with ⟨_, h⟩ | ⟨_, h | h⟩ <;> exact absurd h (by decide)
theorem prs_digs : ∀ (ds : List Nat) (k : Nat), ds ≠ [] → ds.length ≤ k + 1 → prs k (Lib.join (ds.map cdig) [32]) = ds.map cdig
  | [], k, h, _ => absurd rfl h
  | [d], k, _, _ => by rw [List.map_singleton, Lib.join_one, prs_miss k _ (cdig_space d)]
  | d :: e :: r, k, _, hk => by
    obtain ⟨j, rfl⟩ : ∃ j, k = j + 1 := ⟨k - 1, by simp at hk; omega⟩
    have ih := prs_digs (e :: r) j (by simp) (by simp at hk ⊢; omega)
    rw [List.map_cons, Lib.join_cons]
    rw [List.map_cons] at ih ⊢
    rw [join_tail, prs_hit j _ _ (cdig_space d), ih]
theorem dfold_lt (ds : List Nat) : ∀ n, (∀ d ∈ ds, d < 60) → dfold n ds < (n + 1) * 60 ^ ds.length := by
  induction ds with
  | nil => intro n _; simp [dfold]
  | cons d r ih =>
    intro n h
    have h1 := h d (by simp)
    have h2 := ih (60 * n + d) (fun e he => h e (by simp [he]))
    show dfold (60 * n + d) r < _
    rw [List.length_cons, Nat.pow_succ]
    refine Nat.lt_of_lt_of_le h2 ?_
    rw [show (n + 1) * (60 ^ r.length * 60) = ((n + 1) * 60) * 60 ^ r.length by rw [Nat.mul_comm (60 ^ r.length), Nat.mul_assoc]]
    exact Nat.mul_le_mul_right _ (by omega)
theorem digs_head (n : Nat) : 1 ≤ n → ∃ d r, digs n = d :: r ∧ 1 ≤ d := by
  induction n using Nat.strongRecOn with
  | ind n ih =>
    intro h
    by_cases hn : n < 60
    · exact ⟨n, [], digs_low n hn, h⟩
    · obtain ⟨d, r, e, hd⟩ := ih (n / 60) (by omega) (by omega)
      exact ⟨d, r ++ [n % 60], by rw [digs_high n hn, e]; rfl, hd⟩
/-- how many spaces are cut at -/
def cuts (l : List UInt8) : Nat := min 4 (l.length + 1) - 1
theorem read_yes (l : List UInt8) (ds : List Nat) (h : ds.map cdig = prs (cuts l) l) (hd : ∀ d ∈ ds, d < 60) (h0 : ¬ (1 < ds.length ∧ ds.head? = some 0)) : dfold 0 ds ≤ 12959999 ∧ clay (dfold 0 ds) = l := by
  have hl := prs_len (cuts l) l
  rw [← h, List.length_map] at hl
  have hlen : ds.length ≤ 4 := by unfold cuts at hl; omega
  have hb := dfold_lt ds 0 hd
  have hb2 : 60 ^ ds.length ≤ 60 ^ 4 := Nat.pow_le_pow_right (by omega) hlen
  have hdg : digs (dfold 0 ds) = ds := by
    cases ds with
    | nil => simp at hl
    | cons d r =>
      by_cases hr : r = []
      · subst hr
        have := hd d (by simp)
        show digs (60 * 0 + d) = _
        rw [Nat.mul_zero, Nat.zero_add, digs_low d this]
      · refine fold_digs0 d r ?_ (hd d (by simp)) (fun e he => hd e (by simp [he]))
        rcases Nat.eq_zero_or_pos d with e | e
        · exact absurd ⟨by have := List.length_pos_iff.2 hr; simp; omega, by rw [e]; rfl⟩ h0
        · exact e
  refine ⟨by omega, ?_⟩
  rw [clay_join, hdg, h, prs_join]
theorem digs_len4 (n : Nat) (h : n < 12960000) : (digs n).length ≤ 4 := by
  rw [digs_d4 n h, List.length_map, List.length_range]
  omega
theorem lens_join (ds : List Nat) (h : ds ≠ []) : ds.length - 1 ≤ (Lib.join (ds.map cdig) [32]).length := by
  cases ds with
  | nil => exact absurd rfl h
  | cons d r =>
    rw [List.map_cons, Lib.join_length, List.length_map]
    simp
theorem read_no (l : List UInt8) (h : isC l = true) : ∃ ds : List Nat, ds.map cdig = prs (cuts l) l ∧ (∀ d ∈ ds, d < 60) ∧ ¬ (1 < ds.length ∧ ds.head? = some 0) := by
  obtain ⟨h1, h2⟩ := isC_of l h
  refine ⟨digs (cval l), ?_, digs_lt _, ?_⟩
  · have hj : Lib.join ((digs (cval l)).map cdig) [32] = l := by rw [← clay_join, h2]
    have hlj := lens_join (digs (cval l)) (digs_ne _)
    rw [hj] at hlj
    have h4 := digs_len4 (cval l) (by omega)
    have := prs_digs (digs (cval l)) (cuts l) (digs_ne _) (by unfold cuts; omega)
    rw [hj] at this
    exact this.symm
  · rintro ⟨a, b⟩
    by_cases h0 : cval l = 0
    · rw [h0, digs_low 0 (by omega)] at a; simp at a
    · obtain ⟨d, r, e, hd⟩ := digs_head (cval l) (by omega)
      rw [e] at b
      simp at b
      omega
/-- readings as the program finds them -/
def prt2 : Nat → List UInt8 → Nat → List Nat
  | _, [], n => [n]
  | 0, _ :: _, _ => []
  | f + 1, c :: s, n => (List.range (s.length + 1)).flatMap fun i => (rdo ((c :: s).take (i + 1))).elim [] fun d => prt2 f ((c :: s).drop (i + 1)) (60 * n + d)
theorem mem_piece (g : Nat → List Nat) (o : Option Nat) (x : Nat) : x ∈ o.elim [] g ↔ ∃ d, o = some d ∧ x ∈ g d := by
  cases o with
  | none => simp
  | some d => simp
theorem mem_prt2 (f : Nat) : ∀ (s : List UInt8) (n x : Nat), (46 : UInt8) ∉ s → (x ∈ prt2 f s n ↔ ∃ ds : List Nat, ds.length ≤ f ∧ (∀ d ∈ ds, 1 ≤ d ∧ d < 60) ∧ ds.flatMap cdig = s ∧ x = dfold n ds) := by
  have hne : ∀ d, d < 60 → cdig d ≠ [] := fun d h2 h => by have := cdig_len d h2; rw [h] at this; simp at this
  have hnil : ∀ (f n x : Nat), x ∈ ([n] : List Nat) ↔ ∃ ds : List Nat, ds.length ≤ f ∧ (∀ d ∈ ds, 1 ≤ d ∧ d < 60) ∧ ds.flatMap cdig = [] ∧ x = dfold n ds := fun f n x => by
    have := mem_prts f [] n x
    simpa [prts] using this
  induction f with
  | zero =>
    intro s n x hs
    cases s with
    | nil => simp only [prt2]; exact hnil 0 n x
    | cons c s =>
      simp only [prt2, List.not_mem_nil, false_iff]
      rintro ⟨ds, h1, h2, h3, h4⟩
      have : ds = [] := List.length_eq_zero_iff.1 (by omega)
      subst this
      simp at h3
  | succ f ih =>
    intro s n x hs
    cases s with
    | nil => simp only [prt2]; exact hnil (f + 1) n x
    | cons c s =>
      simp only [prt2, List.mem_flatMap, List.mem_range, mem_piece]
      constructor
      · rintro ⟨i, hi, d, hd, hx⟩
        obtain ⟨d1, d2⟩ := (rdo_iff _ _).1 hd
        rw [ih _ _ _ (fun h => hs (List.mem_of_mem_drop h))] at hx
        obtain ⟨ds, h1, h2, h3, h4⟩ := hx
        refine ⟨d :: ds, by simp; omega, ?_, ?_, h4⟩
        · intro e he
          rcases List.mem_cons.1 he with rfl | he
          · refine ⟨?_, d1⟩
            rcases Nat.eq_zero_or_pos e with rfl | h
            · exact absurd (List.mem_of_mem_take (i := i + 1) (by rw [← d2]; simp [cdig])) hs
            · exact h
          · exact h2 e he
        · rw [List.flatMap_cons, h3, d2, List.take_append_drop]
      · rintro ⟨ds, h1, h2, h3, h4⟩
        cases ds with
        | nil => simp at h3
        | cons d r =>
          have hd := h2 d (by simp)
          rw [List.flatMap_cons] at h3
          have hl := cdig_len d hd.2
          have hl2 := congrArg List.length h3
          simp only [List.length_append, List.length_cons] at hl2
          have ht : (c :: s).take ((cdig d).length - 1 + 1) = cdig d := by rw [← h3, show (cdig d).length - 1 + 1 = (cdig d).length by omega, List.take_left]
          have hdr : (c :: s).drop ((cdig d).length - 1 + 1) = r.flatMap cdig := by rw [← h3, show (cdig d).length - 1 + 1 = (cdig d).length by omega, List.drop_left]
          refine ⟨(cdig d).length - 1, by omega, d, (rdo_iff _ _).2 ⟨hd.2, ht.symm⟩, ?_⟩
          rw [hdr, ih _ _ _ (fun h => hs (by rw [← h3]; exact List.mem_append_right _ h))]
          exact ⟨r, by simp at h1; omega, fun e he => h2 e (by simp [he]), rfl, h4⟩
theorem prt2_nodup (f : Nat) : ∀ (s : List UInt8) (n : Nat), (46 : UInt8) ∉ s → (prt2 f s n).Pairwise (· ≠ ·) := by
  induction f with
  | zero =>
    intro s n _
    cases s with
    | nil => simp [prt2]
    | cons c s => simp [prt2]
  | succ f ih =>
    intro s n hs
    cases s with
    | nil => simp [prt2]
    | cons c s =>
      simp only [prt2]
      rw [List.pairwise_flatMap]
      refine ⟨fun i hi => ?_, ?_⟩
      · cases rdo ((c :: s).take (i + 1)) with
        | none => exact List.Pairwise.nil
        | some d => exact ih _ _ (fun h => hs (List.mem_of_mem_drop h))
      · have key : ∀ i x, x ∈ ((rdo ((c :: s).take (i + 1))).elim [] fun d => prt2 f ((c :: s).drop (i + 1)) (60 * n + d)) → ∃ d r, digs x = (if n = 0 then [] else digs n) ++ d :: r ∧ cdig d = (c :: s).take (i + 1) := by
          intro i x hx
          obtain ⟨d, hd, hx⟩ := (mem_piece _ _ _).1 hx
          obtain ⟨d1, d2⟩ := (rdo_iff _ _).1 hd
          have d0 : 1 ≤ d := by
            rcases Nat.eq_zero_or_pos d with rfl | h
            · exact absurd (List.mem_of_mem_take (i := i + 1) (by rw [← d2]; simp [cdig])) hs
            · exact h
          rw [mem_prt2 f _ _ _ (fun h => hs (List.mem_of_mem_drop h))] at hx
          obtain ⟨ds, h1, h2, h3, rfl⟩ := hx
          refine ⟨d, ds, ?_, d2⟩
          rw [fold_digs ds _ (by omega) (fun d hd => (h2 d hd).2), digs_snoc n d (by omega) (by omega)]
          simp
        refine List.Pairwise.imp_of_mem ?_ (List.pairwise_lt_range (n := s.length + 1))
        intro i j hi hj hlt x hx y hy e
        obtain ⟨d, r, hr, hd⟩ := key i x hx
        obtain ⟨d', t, ht, hd'⟩ := key j y hy
        rw [e, ht] at hr
        have := List.append_cancel_left hr
        simp only [List.cons.injEq] at this
        rw [this.1, hd] at hd'
        have hl := congrArg List.length hd'
        have hj' := List.mem_range.1 hj
        simp only [List.length_take, List.length_cons] at hl
        omega
/-- put in order -/
theorem prt2_sorted (s : List UInt8) (h0 : s ≠ []) (hs : (46 : UInt8) ∉ s) : ((prt2 3 s 0).map fun (n : Nat) => (n : Int)).mergeSort (fun x y => decide (x ≤ y)) = (rds s).map fun (n : Nat) => (n : Int) := by
  rw [← List.map_mergeSort (r := fun x y => decide (x ≤ y)) (fun a _ b _ => by simp)]
  refine congrArg (List.map _) ?_
  have hp := List.mergeSort_perm (prt2 3 s 0) (fun x y => decide (x ≤ y))
  refine asc_unique _ _ ?_ (rds_asc s) fun x => ?_
  · have h1 : ((prt2 3 s 0).mergeSort (fun x y => decide (x ≤ y))).Pairwise (fun a b => decide (a ≤ b) = true) := List.pairwise_mergeSort (by simp; omega) (by simp; omega) _
    have h2 : ((prt2 3 s 0).mergeSort (fun x y => decide (x ≤ y))).Pairwise (· ≠ ·) := (hp.pairwise_iff (fun h => h.symm)).2 (prt2_nodup 3 s 0 hs)
    exact (h1.and h2).imp fun ⟨a, b⟩ => by simp at a; omega
  · rw [hp.mem_iff, mem_prt2 3 s 0 x hs, ← mem_prts, mem_prts0 s h0]
end Go.Proofs.YtejhiilkbckobaaDoor
