/- Shortest loose texts, plain: which values have texts of k letters; the first one of the shortest. -/
import Derived.Test.YthgagidpnnaajaaDoorLP
namespace Go.Proofs.YthgagidpnnaajaaDoor
set_option linter.unusedVariables false
set_option maxRecDepth 100000
/-- what must stand behind letter c of a text with the value v, if the next letter is f -/
def wo (c f : Nat) (v : Int) : Int := if lv c < lv f then v + lv c else v - lv c
theorem bef_wo (c f : Nat) (v : Int) : bef c f (wo c f v) = v := by
  unfold bef wo; split <;> omega
theorem wo_bef (c f : Nat) (v : Int) : wo c f (bef c f v) = v := by
  unfold bef wo; split <;> omega
/-- is there a text of k letters that begins with letter c and has the value v? (k = 0: the empty text, which stands as an I of value 0) -/
def ex : Nat → Nat → Int → Bool
  | 0, c, v => decide (c = 2 ∧ v = 0)
  | k + 1, c, v => (List.range 7).any fun f => ex k f (wo c f v)
theorem ex_succ (k c : Nat) (v : Int) : ex (k + 1) c v = true ↔ ∃ f, f < 7 ∧ ex k f (wo c f v) = true := by
  simp only [ex, List.any_eq_true, List.mem_range]
theorem ex_zero (c : Nat) (v : Int) : ex 0 c v = true ↔ c = 2 ∧ v = 0 := by simp [ex]
theorem ex_bef (k c f : Nat) (v : Int) (hf : f < 7) (h : ex k f v = true) : ex (k + 1) c (bef c f v) = true :=
  (ex_succ _ _ _).2 ⟨f, hf, by rw [wo_bef]; exact h⟩
/-- the potential: at least 1 for texts that are not empty -/
theorem ex_pot : ∀ (k c : Nat) (v : Int), c < 7 → ex (k + 1) c v = true → 1 ≤ v - dv c
  | 0, c, v, hc, h => by
    obtain ⟨f, hf, h⟩ := (ex_succ _ _ _).1 h
    obtain ⟨rfl, h0⟩ := (ex_zero _ _).1 h
    have e := bef_wo c 2 v
    rw [h0] at e
    have h3 := (dv_step0 c hc c hc).2.2.1
    have e1 : lv 2 = 1 := rfl
    have h4 := (dv_step0 c hc 2 (by omega)).1
    have h5 : dv 2 = 0 := rfl
    unfold bef at e
    rw [e1] at e h4
    split at e <;> omega
  | k + 1, c, v, hc, h => by
    obtain ⟨f, hf, h⟩ := (ex_succ _ _ _).1 h
    have ih := ex_pot k f _ hf h
    have hs := dv_step c f (wo c f v) hc hf
    rw [bef_wo] at hs
    omega
theorem wo_pot (c f : Nat) (v : Int) (hc : c < 7) (hf : f < 7) : wo c f v - dv f ≤ v - dv c := by
  have hs := dv_step c f (wo c f v) hc hf
  rwa [bef_wo] at hs
/-- the same with all values from lo to hi -/
def exT (hi : Int) : Nat → Nat → Int → Bool
  | 0, c, v => decide (c = 2 ∧ v = 0)
  | k + 1, c, v => decide (0 ≤ v ∧ v ≤ hi) && (List.range 7).any fun f => exT hi k f (wo c f v)
theorem exT_succ (hi : Int) (k c : Nat) (v : Int) : exT hi (k + 1) c v = true ↔ (0 ≤ v ∧ v ≤ hi) ∧ ∃ f, f < 7 ∧ exT hi k f (wo c f v) = true := by
  simp only [exT, List.any_eq_true, List.mem_range, Bool.and_eq_true, decide_eq_true_eq]
theorem exT_ex (hi : Int) : ∀ (k c : Nat) (v : Int), exT hi k c v = true → ex k c v = true
  | 0, c, v, h => h
  | k + 1, c, v, h => by
    obtain ⟨_, f, hf, h⟩ := (exT_succ _ _ _ _).1 h
    exact (ex_succ _ _ _).2 ⟨f, hf, exT_ex hi k f _ h⟩
theorem ex_exT (hi : Int) : ∀ (k c : Nat) (v : Int), c < 7 → v - dv c + 666 ≤ hi → ex k c v = true → exT hi k c v = true
  | 0, c, v, _, _, h => h
  | k + 1, c, v, hc, hb, h => by
    have hp := ex_pot k c v hc h
    have hd := dv_bd c hc
    obtain ⟨f, hf, h⟩ := (ex_succ _ _ _).1 h
    have hw := wo_pot c f v hc hf
    exact (exT_succ _ _ _ _).2 ⟨by omega, f, hf, ex_exT hi k f _ hf (by omega) h⟩
/-- the first letter that does, else the last one -/
def first7 (P : Nat → Bool) : Nat := if P 0 then 0 else if P 1 then 1 else if P 2 then 2 else if P 3 then 3 else if P 4 then 4 else if P 5 then 5 else 6
theorem first7_lt (P : Nat → Bool) : first7 P < 7 := by unfold first7; repeat (first | omega | split)
theorem first7_of (P : Nat → Bool) (h : ∃ f, f < 7 ∧ P f = true) : P (first7 P) = true ∧ ∀ g, g < first7 P → P g = false := by
  obtain ⟨f, hf, hP⟩ := h
  unfold first7
  by_cases h0 : P 0 = true
  · simp [h0]
  by_cases h1 : P 1 = true
  · simp only [h0, h1, if_true]
    exact ⟨h1, fun g hg => by obtain rfl : g = 0 := by { simp at hg; omega }; simpa using h0⟩
  by_cases h2 : P 2 = true
  · simp only [h0, h1, h2, if_true]
    refine ⟨h2, fun g hg => ?_⟩
    rcases (show g = 0 ∨ g = 1 by simp at hg; omega) with rfl | rfl <;> simp_all
  by_cases h3 : P 3 = true
  · simp only [h0, h1, h2, h3, if_true]
    refine ⟨h3, fun g hg => ?_⟩
    rcases (show g = 0 ∨ g = 1 ∨ g = 2 by simp at hg; omega) with rfl | rfl | rfl <;> simp_all
  by_cases h4 : P 4 = true
  · simp only [h0, h1, h2, h3, h4, if_true]
    refine ⟨h4, fun g hg => ?_⟩
    rcases (show g = 0 ∨ g = 1 ∨ g = 2 ∨ g = 3 by simp at hg; omega) with rfl | rfl | rfl | rfl <;> simp_all
  by_cases h5 : P 5 = true
  · simp only [h0, h1, h2, h3, h4, h5, if_true]
    refine ⟨h5, fun g hg => ?_⟩
    rcases (show g = 0 ∨ g = 1 ∨ g = 2 ∨ g = 3 ∨ g = 4 by simp at hg; omega) with rfl | rfl | rfl | rfl | rfl <;> simp_all
  · simp only [h0, h1, h2, h3, h4, h5]
    have h6 : P 6 = true := by
      rcases (show f = 0 ∨ f = 1 ∨ f = 2 ∨ f = 3 ∨ f = 4 ∨ f = 5 ∨ f = 6 by omega) with rfl | rfl | rfl | rfl | rfl | rfl | rfl <;> simp_all
    refine ⟨by simpa using h6, fun g hg => ?_⟩
    rcases (show g = 0 ∨ g = 1 ∨ g = 2 ∨ g = 3 ∨ g = 4 ∨ g = 5 by simp at hg; omega) with rfl | rfl | rfl | rfl | rfl | rfl <;> simp_all
theorem first7_congr (P Q : Nat → Bool) (h : ∀ f, f < 7 → P f = Q f) : first7 P = first7 Q := by
  unfold first7
  rw [h 0 (by omega), h 1 (by omega), h 2 (by omega), h 3 (by omega), h 4 (by omega), h 5 (by omega)]
/-- the first text of r letters, told by what must stand at each letter -/
def txt : Nat → (Nat → Int) → List Nat
  | 0, _ => []
  | r + 1, w => let f := first7 (fun f => ex (r + 1) f (w f)); f :: txt r (fun g => wo f g (w f))
/-- how many letters the shortest texts with the value n have: at most b -/
def hasK (n : Int) (k : Nat) : Bool := (List.range 7).any fun c => ex k c n
theorem hasK_iff (n : Int) (k : Nat) : hasK n k = true ↔ ∃ c, c < 7 ∧ ex k c n = true := by
  simp only [hasK, List.any_eq_true, List.mem_range]
/-- the least k from 1 on with hasK, in at most b steps -/
def leastK (n : Int) : Nat → Nat → Nat
  | 0, k => k
  | b + 1, k => if hasK n k then k else leastK n b (k + 1)
theorem leastK_spec (n : Int) : ∀ (b k : Nat), (∃ j, k ≤ j ∧ j < k + b ∧ hasK n j = true) → hasK n (leastK n b k) = true ∧ k ≤ leastK n b k ∧ leastK n b k < k + b ∧ ∀ j, k ≤ j → j < leastK n b k → hasK n j = false
  | 0, k, ⟨j, h1, h2, _⟩ => by omega
  | b + 1, k, ⟨j, h1, h2, h3⟩ => by
    unfold leastK
    by_cases h : hasK n k = true
    · rw [if_pos h]; exact ⟨h, by omega, by omega, fun j a b => by omega⟩
    · rw [if_neg h]
      have hne : j ≠ k := fun e => h (e ▸ h3)
      obtain ⟨i1, i2, i3, i4⟩ := leastK_spec n b (k + 1) ⟨j, by omega, by omega, h3⟩
      refine ⟨i1, by omega, by omega, fun i a c => ?_⟩
      by_cases e : i = k
      · subst e; simpa using h
      · exact i4 i (by omega) c
/-! what is looked up -/
/-- the least length from 1 to k of a text with the letter and the value (all values at most hi); 0 for none -/
def fnd (hi : Int) : Nat → Nat → Int → Nat
  | 0, _, _ => 0
  | k + 1, c, v => if fnd hi k c v ≠ 0 then fnd hi k c v else if exT hi (k + 1) c v then k + 1 else 0
theorem fnd_le (hi : Int) : ∀ (k c : Nat) (v : Int), fnd hi k c v ≤ k
  | 0, _, _ => Nat.le_refl _
  | k + 1, c, v => by
    have := fnd_le hi k c v
    unfold fnd
    split
    · omega
    · split <;> omega
theorem fnd_ex (hi : Int) : ∀ (k c : Nat) (v : Int), fnd hi k c v ≠ 0 → exT hi (fnd hi k c v) c v = true
  | 0, _, _, h => absurd rfl h
  | k + 1, c, v, h => by
    have ih := fnd_ex hi k c v
    unfold fnd at h ⊢
    by_cases h0 : fnd hi k c v ≠ 0
    · rw [if_pos h0]; exact ih h0
    · rw [if_neg h0] at h ⊢
      by_cases h1 : exT hi (k + 1) c v = true
      · rw [if_pos h1]; exact h1
      · rw [if_neg h1] at h; exact absurd rfl h
theorem fnd_of (hi : Int) : ∀ (k c : Nat) (v : Int) (j : Nat), 1 ≤ j → j ≤ k → exT hi j c v = true → fnd hi k c v ≠ 0 ∧ fnd hi k c v ≤ j
  | 0, _, _, j, h1, h2, _ => by omega
  | k + 1, c, v, j, h1, h2, h => by
    unfold fnd
    by_cases h0 : fnd hi k c v ≠ 0
    · rw [if_pos h0]
      refine ⟨h0, ?_⟩
      by_cases hj : j ≤ k
      · exact (fnd_of hi k c v j h1 hj h).2
      · have := fnd_le hi k c v; omega
    · rw [if_neg h0]
      have hj : j = k + 1 := by
        by_cases hj : j ≤ k
        · exact absurd (fnd_of hi k c v j h1 hj h).1 h0
        · omega
      subst hj
      rw [if_pos h]
      exact ⟨by omega, Nat.le_refl _⟩
/-- a state of level k + 1 comes of one of level k -/
theorem fnd_back (hi : Int) (k c : Nat) (v : Int) (h0 : fnd hi (k + 1) c v = k + 1) : ∃ f, f < 7 ∧ ((k = 0 ∧ f = 2 ∧ wo c f v = 0) ∨ (1 ≤ k ∧ fnd hi k f (wo c f v) = k)) := by
  have hx := fnd_ex hi (k + 1) c v (by omega)
  rw [h0] at hx
  obtain ⟨hb, f, hf, hx'⟩ := (exT_succ _ _ _ _).1 hx
  refine ⟨f, hf, ?_⟩
  by_cases hk : k = 0
  · subst hk
    exact .inl ⟨rfl, (ex_zero _ _).1 hx'⟩
  · refine .inr ⟨by omega, ?_⟩
    obtain ⟨g1, g2⟩ := fnd_of hi k f _ k (by omega) (Nat.le_refl _) hx'
    rcases Nat.lt_or_ge (fnd hi k f (wo c f v)) k with hlt | hge
    · have hy := fnd_ex hi k f _ g1
      have hz : exT hi (fnd hi k f (wo c f v) + 1) c v = true := (exT_succ _ _ _ _).2 ⟨hb, f, hf, hy⟩
      have := (fnd_of hi (k + 1) c v _ (by omega) (by omega) hz).2
      omega
    · omega
theorem fnd_succ (hi : Int) (k c : Nat) (v : Int) : fnd hi (k + 1) c v = if fnd hi k c v ≠ 0 then fnd hi k c v else if exT hi (k + 1) c v then k + 1 else 0 := rfl
/-! the search for n -/
/-- on a road to n with r letters still to come: what stands at the next letter -/
def Road (n : Int) (L r : Nat) (w : Nat → Int) : Prop := r ≤ L ∧ (∀ f, f < 7 → w f - dv f ≤ n) ∧ ∀ j f, f < 7 → ex j f (w f) = true → hasK n (L - r + j) = true
theorem road_start (n : Int) (L : Nat) : Road n L L (fun _ => n) :=
  ⟨Nat.le_refl _, fun f hf => by have := dv_bd f hf; show n - dv f ≤ n; omega, fun j f hf h => by rw [Nat.sub_self, Nat.zero_add]; exact (hasK_iff _ _).2 ⟨f, hf, h⟩⟩
theorem road_step (n : Int) (L r : Nat) (w : Nat → Int) (f : Nat) (hf : f < 7) (h : Road n L (r + 1) w) : Road n L r (fun g => wo f g (w f)) := by
  obtain ⟨h1, h2, h3⟩ := h
  refine ⟨by omega, fun g hg => ?_, fun j g hg he => ?_⟩
  · have a := wo_pot f g (w f) hf hg
    have b := h2 f hf
    show wo f g (w f) - dv g ≤ n
    omega
  · have a := h3 (j + 1) f hf ((ex_succ _ _ _).2 ⟨g, hg, he⟩)
    rw [show L - r + j = L - (r + 1) + (j + 1) by omega]
    exact a
/-- found at this many letters: just if there is such a text -/
theorem road_found (n : Int) (L r : Nat) (w : Nat → Int) (hL : ∀ j, 1 ≤ j → j < L → hasK n j = false) (h : Road n L r w) (hr : 1 ≤ r) (f : Nat) (hf : f < 7) :
    decide (1 ≤ w f ∧ w f ≤ n + 666 ∧ fnd (n + 666) L f (w f) = r) = ex r f (w f) := by
  obtain ⟨h1, h2, h3⟩ := h
  rw [Bool.eq_iff_iff, decide_eq_true_eq]
  constructor
  · rintro ⟨_, _, h⟩
    have hx := fnd_ex (n + 666) L f (w f) (by omega)
    rw [h] at hx
    exact exT_ex _ _ _ _ hx
  · intro h
    have hw := h2 f hf
    have hd := dv_bd f hf
    have hp : 1 ≤ w f - dv f := by
      obtain ⟨k, rfl⟩ : ∃ k, r = k + 1 := ⟨r - 1, by omega⟩
      exact ex_pot k f _ hf h
    have hx := ex_exT (n + 666) r f (w f) hf (by omega) h
    obtain ⟨g1, g2⟩ := fnd_of (n + 666) L f (w f) r hr h1 hx
    refine ⟨by omega, by omega, ?_⟩
    rcases Nat.lt_or_ge (fnd (n + 666) L f (w f)) r with hlt | hge
    · have hy := exT_ex _ _ _ _ (fnd_ex (n + 666) L f (w f) g1)
      have hz := h3 _ f hf hy
      rw [hL _ (by omega) (by omega)] at hz
      cases hz
    · omega
/-- the model's table says the same -/
theorem road_table (n : Int) (hn : n ≤ 3999) (L r : Nat) (w : Nat → Int) (h : Road n L r w) (f : Nat) (hf : f < 7) : exT 5000 r f (w f) = ex r f (w f) := by
  rw [Bool.eq_iff_iff]
  exact ⟨exT_ex _ _ _ _, ex_exT _ _ _ _ hf (by have := h.2.1 f hf; omega)⟩
/-- there is a next letter -/
theorem road_next (r : Nat) (w : Nat → Int) (f : Nat) (h : ex (r + 1) f (w f) = true) : ∃ g, g < 7 ∧ ex r g (wo f g (w f)) = true := (ex_succ _ _ _).1 h
/-! texts and their letters -/
/-- the byte of a letter -/
def lb (l : Nat) : UInt8 := [67, 68, 73, 76, 77, 86, 88].getD l 0
theorem li_lb (l : Nat) (h : l < 7) : li ((lb l).toNat : Int) = l := by
  rcases (show l = 0 ∨ l = 1 ∨ l = 2 ∨ l = 3 ∨ l = 4 ∨ l = 5 ∨ l = 6 by omega) with rfl | rfl | rfl | rfl | rfl | rfl | rfl <;> rfl
theorem lb_li (c : UInt8) (h : li (c.toNat : Int) < 7) : lb (li (c.toNat : Int)) = c := by
  have e := sg_li (c.toNat : Int) h
  generalize hl : li (c.toNat : Int) = l at *
  apply UInt8.toNat_inj.1
  have : ((lb l).toNat : Int) = sg l := by
    rcases (show l = 0 ∨ l = 1 ∨ l = 2 ∨ l = 3 ∨ l = 4 ∨ l = 5 ∨ l = 6 by omega) with rfl | rfl | rfl | rfl | rfl | rfl | rfl <;> rfl
  omega
theorem lb_lt (f g : Nat) (h : f < g) (hg : g < 7) : lb f < lb g := by
  have : ∀ g, g < 7 → ∀ f, f < g → lb f < lb g := by decide
  exact this g hg f h
theorem text_ex : ∀ s : List UInt8, okL s = true → ex s.length (fst1 s) (looseL s) = true
  | [], _ => rfl
  | c :: r, h => by
    rw [okL_cons, Bool.and_eq_true] at h
    exact ex_bef _ _ _ _ (fst1_lt r h.2) (text_ex r h.2)
theorem txt_length : ∀ (r : Nat) (w : Nat → Int), (txt r w).length = r
  | 0, _ => rfl
  | r + 1, w => by simp [txt, txt_length r]
theorem txt_lt : ∀ (r : Nat) (w : Nat → Int), ∀ l ∈ txt r w, l < 7
  | 0, _, l, h => by simp [txt] at h
  | r + 1, w, l, h => by
    simp only [txt, List.mem_cons] at h
    rcases h with rfl | h
    · exact first7_lt _
    · exact txt_lt r _ l h
theorem okL_map (t : List Nat) (h : ∀ l ∈ t, l < 7) : okL (t.map lb) = true := by
  unfold okL
  rw [List.all_eq_true]
  intro c hc
  obtain ⟨l, hl, rfl⟩ := List.mem_map.1 hc
  rw [li_lb l (h l hl)]
  exact decide_eq_true (h l hl)
/-- the text has the value -/
theorem txt_value : ∀ (r : Nat) (w : Nat → Int), (∃ f, f < 7 ∧ ex r f (w f) = true) → looseL ((txt r w).map lb) = w (fst1 ((txt r w).map lb))
  | 0, w, ⟨f, _, h⟩ => by
    obtain ⟨rfl, h0⟩ := (ex_zero _ _).1 h
    exact h0.symm
  | r + 1, w, h => by
    have hf := first7_of (fun f => ex (r + 1) f (w f)) h
    have hlt := first7_lt (fun f => ex (r + 1) f (w f))
    generalize hF : first7 (fun f => ex (r + 1) f (w f)) = f at *
    have ih := txt_value r (fun g => wo f g (w f)) (road_next r w f hf.1)
    have e : txt (r + 1) w = f :: txt r (fun g => wo f g (w f)) := by rw [← hF]; rfl
    rw [e, List.map_cons]
    show bef (li ((lb f).toNat : Int)) _ _ = w (li ((lb f).toNat : Int))
    rw [li_lb f hlt, ih, bef_wo]
/-- no text of as many letters is less -/
theorem txt_least : ∀ (r : Nat) (w : Nat → Int) (s : List UInt8), okL s = true → s.length = r → looseL s = w (fst1 s) → (Op.bytesLess ((txt r w).map lb) s || (txt r w).map lb == s) = true
  | 0, w, s, _, hs, _ => by
    have e : s = [] := List.eq_nil_of_length_eq_zero hs
    subst e
    rfl
  | r + 1, w, [], _, hs, _ => by simp at hs
  | r + 1, w, c :: q, hok, hs, hv => by
    have hx := text_ex (c :: q) hok
    rw [okL_cons, Bool.and_eq_true, decide_eq_true_eq] at hok
    have hc : lb (li (c.toNat : Int)) = c := lb_li c hok.1
    have hfst : fst1 (c :: q) = li (c.toNat : Int) := rfl
    rw [hs, hv, hfst] at hx
    have hf := first7_of (fun f => ex (r + 1) f (w f)) ⟨_, hok.1, hx⟩
    have hlt := first7_lt (fun f => ex (r + 1) f (w f))
    generalize hF : first7 (fun f => ex (r + 1) f (w f)) = f at *
    have e : txt (r + 1) w = f :: txt r (fun g => wo f g (w f)) := by rw [← hF]; rfl
    rw [e, List.map_cons]
    generalize hz : li (c.toNat : Int) = z at *
    rcases Nat.lt_trichotomy f z with h | h | h
    · have hl := lb_lt f z h hok.1
      rw [hc] at hl
      simp [Op.bytesLess, hl]
    · subst h
      have hv2 : looseL q = wo f (fst1 q) (w f) := by
        rw [hfst] at hv
        rw [← hv]
        show _ = wo f (fst1 q) (bef (li (c.toNat : Int)) (fst1 q) (looseL q))
        rw [hz, wo_bef]
      have ih := txt_least r (fun g => wo f g (w f)) q hok.2 (by simpa using hs) hv2
      rw [hc]
      rw [Bool.or_eq_true] at ih ⊢
      rcases ih with ih | ih
      · left
        simp [Op.bytesLess, ih]
      · right
        rw [beq_iff_eq] at ih ⊢
        rw [ih]
    · have := hf.2 z h
      rw [hx] at this
      cases this
/-- the length of the shortest texts -/
def shortLen (n : Int) : Nat := leastK n 16 1
theorem shortLen_spec (n : Nat) (h1 : 1 ≤ n) (h2 : n ≤ 3999) : hasK n (shortLen n) = true ∧ 1 ≤ shortLen n ∧ shortLen n ≤ (strict n).length ∧ ∀ j, 1 ≤ j → j < shortLen n → hasK n j = false := by
  have hb := strict_back n (by omega)
  have hp := strict_pos n h1 (by omega)
  have hl := strict_len n h2
  have hx := text_ex (strict n) hb.2
  rw [hb.1] at hx
  have hk : hasK n (strict n).length = true := (hasK_iff _ _).2 ⟨_, fst1_lt _ hb.2, hx⟩
  obtain ⟨g1, g2, g3, g4⟩ := leastK_spec n 16 1 ⟨_, hp, by omega, hk⟩
  refine ⟨g1, g2, ?_, g4⟩
  rcases Nat.lt_or_ge (strict n).length (shortLen n) with h | h
  · have := g4 _ hp h
    rw [hk] at this
    cases this
  · exact h
/-- the shortest text -/
def shortT (n : Int) : List UInt8 := (txt (shortLen n) (fun _ => n)).map lb
theorem shortT_ok (n : Nat) (h1 : 1 ≤ n) (h2 : n ≤ 3999) : looseL (shortT n) = n ∧ okL (shortT n) = true ∧ (shortT n).length = shortLen n := by
  have hs := shortLen_spec n h1 h2
  exact ⟨txt_value _ _ ((hasK_iff _ _).1 hs.1), okL_map _ (txt_lt _ _), by simp [shortT, txt_length]⟩
theorem shortT_least (n : Nat) (h1 : 1 ≤ n) (h2 : n ≤ 3999) (h : (shortT n).length = (strict n).length) : (Op.bytesLess (shortT n) (strict n) || shortT n == strict n) = true := by
  have hb := strict_back n (by omega)
  have hk := (shortT_ok n h1 h2).2.2
  exact txt_least _ _ (strict n) hb.2 (by omega) hb.1
def romanShortR (n : Int) : Value := if 1 ≤ n ∧ n ≤ 3999 then .tuple #[.string ⟨(shortT n).toArray⟩, .bool true] else .tuple #[.string ⟨#[]⟩, .bool false]
end Go.Proofs.YthgagidpnnaajaaDoor
