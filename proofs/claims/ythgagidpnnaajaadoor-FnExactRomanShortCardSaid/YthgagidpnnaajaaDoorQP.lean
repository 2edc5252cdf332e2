/- The levels of texts: plain. -/
import Derived.Test.YthgagidpnnaajaaDoorQL
namespace Go.Proofs.YthgagidpnnaajaaDoor
set_option linter.unusedVariables false
set_option maxRecDepth 100000
def qprs (ss : List St) : List (St × Nat) := ss.flatMap fun s => (List.range 7).map fun l => (s, l)
theorem lenL_prs (N x : Nat) (ss : List St) (a : Acc) : lenL N x ss a = (qprs ss).foldl (fun a p => stepL N x p.1 a p.2) a := by
  unfold lenL qprs
  induction ss generalizing a with
  | nil => rfl
  | cons s r ih => rw [List.foldl_cons, List.flatMap_cons, List.foldl_append, ih, List.foldl_map]; rfl
theorem prs_mem (ss : List St) (s : St) (l : Nat) : (s, l) ∈ qprs ss ↔ s ∈ ss ∧ l < 7 := by
  unfold qprs
  simp only [List.mem_flatMap, List.mem_map, List.mem_range, Prod.mk.injEq]
  constructor
  · rintro ⟨s', h, l', hl, rfl, rfl⟩; exact ⟨h, hl⟩
  · rintro ⟨h, hl⟩; exact ⟨s, h, l, hl, rfl, rfl⟩
theorem prs_length (ss : List St) : (qprs ss).length = ss.length * 7 := by
  induction ss with
  | nil => rfl
  | cons s r ih =>
    have e : qprs (s :: r) = ((List.range 7).map fun l => (s, l)) ++ qprs r := by unfold qprs; rw [List.flatMap_cons]
    rw [e, List.length_append, ih, List.length_map, List.length_range, List.length_cons]; omega
def bp (p : St × Nat) : Int := bef p.2 p.1.1 p.1.2
structure LI2 (N x : Nat) (F : Nat → Nat → Nat) (ps : List (St × Nat)) (a : Acc) : Prop where
  tab : ∀ c (v : Nat), a.1 c v = if (c, (v : Int)) ∈ a.2 then x else F c v
  mem : ∀ t ∈ a.2, 1 ≤ t.2 ∧ t.2 < N ∧ F t.1 t.2.toNat = 0 ∧ ∃ p ∈ ps, t = (p.2, bp p)
  cov : ∀ p ∈ ps, bp p < N → F p.2 (bp p).toNat ≠ 0 ∨ (p.2, bp p) ∈ a.2
  len : a.2.length ≤ ps.length
theorem LI2.step {N x : Nat} {F : Nat → Nat → Nat} {ps : List (St × Nat)} {a : Acc} (h : LI2 N x F ps a) (hx : x ≠ 0) (p : St × Nat) (hp : 1 ≤ bp p) : LI2 N x F (ps ++ [p]) (stepL N x p.1 a p.2) := by
  have hd : stepL N x p.1 a p.2 = if bp p < N ∧ lookF N a.1 p.2 (bp p) = 0 then (setF a.1 p.2 (bp p).toNat x, a.2 ++ [(p.2, bp p)]) else a := rfl
  rw [hd]
  by_cases hN : bp p < N
  · have hl : lookF N a.1 p.2 (bp p) = a.1 p.2 (bp p).toNat := by unfold lookF; rw [if_pos ⟨hp, hN⟩]
    have hc : (((bp p).toNat : Nat) : Int) = bp p := by omega
    have ht := h.tab p.2 (bp p).toNat
    rw [hc] at ht
    by_cases h0 : lookF N a.1 p.2 (bp p) = 0
    · rw [if_pos ⟨hN, h0⟩]
      rw [hl, ht] at h0
      have hnm : (p.2, bp p) ∉ a.2 := fun hm => by rw [if_pos hm] at h0; exact hx h0
      rw [if_neg hnm] at h0
      refine ⟨fun c v => ?_, fun t hm => ?_, fun q hq hqN => ?_, ?_⟩
      · show setF a.1 p.2 (bp p).toNat x c v = _
        unfold setF
        by_cases e : c = p.2 ∧ v = (bp p).toNat
        · obtain ⟨rfl, rfl⟩ := e
          rw [if_pos ⟨rfl, rfl⟩, if_pos]
          rw [hc]; simp
        · rw [if_neg e, h.tab c v]
          by_cases hm : (c, (v : Int)) ∈ a.2
          · rw [if_pos hm, if_pos (List.mem_append_left _ hm)]
          · rw [if_neg hm, if_neg]
            intro hm'
            rcases List.mem_append.1 hm' with hm' | hm'
            · exact hm hm'
            · simp only [List.mem_singleton, Prod.mk.injEq] at hm'
              exact e ⟨hm'.1, by omega⟩
      · rcases List.mem_append.1 hm with hm | hm
        · obtain ⟨h1, h2, h3, q, hq, e⟩ := h.mem t hm
          exact ⟨h1, h2, h3, q, List.mem_append_left _ hq, e⟩
        · rw [List.mem_singleton] at hm
          subst hm
          exact ⟨hp, hN, h0, p, by simp, rfl⟩
      · rcases List.mem_append.1 hq with hq | hq
        · rcases h.cov q hq hqN with h1 | h1
          · exact .inl h1
          · exact .inr (List.mem_append_left _ h1)
        · rw [List.mem_singleton] at hq
          subst hq
          exact .inr (by simp)
      · have := h.len; simp; omega
    · rw [if_neg (fun e => h0 e.2)]
      rw [hl, ht] at h0
      refine ⟨h.tab, fun t hm => ?_, fun q hq hqN => ?_, ?_⟩
      · obtain ⟨h1, h2, h3, q, hq, e⟩ := h.mem t hm
        exact ⟨h1, h2, h3, q, List.mem_append_left _ hq, e⟩
      · rcases List.mem_append.1 hq with hq | hq
        · exact h.cov q hq hqN
        · rw [List.mem_singleton] at hq
          subst hq
          by_cases hm : (q.2, bp q) ∈ a.2
          · exact .inr hm
          · rw [if_neg hm] at h0; exact .inl h0
      · have := h.len; simp; omega
  · rw [if_neg (fun e => hN e.1)]
    refine ⟨h.tab, fun t hm => ?_, fun q hq hqN => ?_, ?_⟩
    · obtain ⟨h1, h2, h3, q, hq, e⟩ := h.mem t hm
      exact ⟨h1, h2, h3, q, List.mem_append_left _ hq, e⟩
    · rcases List.mem_append.1 hq with hq | hq
      · exact h.cov q hq hqN
      · rw [List.mem_singleton] at hq
        subst hq
        exact absurd hqN hN
    · have := h.len; simp; omega
theorem LI2.fold {N x : Nat} {F : Nat → Nat → Nat} (hx : x ≠ 0) : ∀ (qs ps : List (St × Nat)) (a : Acc), LI2 N x F ps a → (∀ p ∈ qs, 1 ≤ bp p) → LI2 N x F (ps ++ qs) (qs.foldl (fun a p => stepL N x p.1 a p.2) a)
  | [], ps, a, h, _ => by rw [List.append_nil]; exact h
  | q :: qs, ps, a, h, hq => by
    have := LI2.fold hx qs (ps ++ [q]) _ (h.step hx q (hq q (by simp))) (fun p hp => hq p (by simp [hp]))
    rw [List.append_assoc] at this
    exact this
def lvl (N : Nat) : Nat → Acc
  | 0 => (fun _ _ => 0, [(2, 0)])
  | k + 1 => lenL N (k + 1) (lvl N k).2 ((lvl N k).1, [])
structure Lvl (hi : Int) (N k : Nat) (a : Acc) : Prop where
  tab : ∀ c (v : Nat), c < 7 → v < N → a.1 c v = fnd hi k c v
  st : ∀ t ∈ a.2, t.1 < 7 ∧ ex k t.1 t.2 = true ∧ 0 ≤ t.2 ∧ t.2 ≤ hi ∧ exT hi k t.1 t.2 = true
  all : ∀ c v, c < 7 → (k = 0 ∧ c = 2 ∧ v = 0) ∨ (1 ≤ k ∧ fnd hi k c v = k) → (c, v) ∈ a.2
  len : a.2.length ≤ 7 ^ k
  bd : ∀ c v, a.1 c v ≤ k
theorem Lvl.pos {hi : Int} {N k : Nat} {a : Acc} (h : Lvl hi N k a) (t : St) (ht : t ∈ a.2) (l : Nat) (hl : l < 7) : 1 ≤ bef l t.1 t.2 := by
  obtain ⟨h1, h2, _⟩ := h.st t ht
  have h3 := ex_pot k l _ hl (ex_bef k l t.1 t.2 h1 h2)
  have h4 := dv_bd l hl
  omega
theorem Lvl.zero (hi : Int) (N : Nat) (h0 : 0 ≤ hi) : Lvl hi N 0 (lvl N 0) := by
  refine ⟨fun _ _ _ _ => rfl, fun t ht => ?_, fun c v hc h => ?_, Nat.le_refl _, fun _ _ => Nat.le_refl _⟩
  · have e : t = (2, 0) := by simpa [lvl] using ht
    subst e
    exact ⟨by decide, rfl, Int.le_refl _, h0, rfl⟩
  · rcases h with ⟨_, rfl, rfl⟩ | ⟨h, _⟩
    · simp [lvl]
    · omega
theorem Lvl.succ {hi : Int} {N k : Nat} (hN : (N : Int) = hi + 1) (h : Lvl hi N k (lvl N k)) : Lvl hi N (k + 1) (lvl N (k + 1)) := by
  have e : lvl N (k + 1) = (qprs (lvl N k).2).foldl (fun a p => stepL N (k + 1) p.1 a p.2) ((lvl N k).1, []) := lenL_prs _ _ _ _
  have hI := LI2.fold (N := N) (F := (lvl N k).1) (Nat.succ_ne_zero k) (qprs (lvl N k).2) [] ((lvl N k).1, []) ⟨fun c v => by simp, fun t ht => by simp at ht, fun p hp => by simp at hp, Nat.le_refl _⟩
    (fun p hp => h.pos p.1 ((prs_mem _ p.1 p.2).1 hp).1 p.2 ((prs_mem _ p.1 p.2).1 hp).2)
  rw [← e, List.nil_append] at hI
  generalize lvl N (k + 1) = A at hI
  have hst : ∀ t ∈ A.2, t.1 < 7 ∧ 1 ≤ t.2 ∧ t.2 ≤ hi ∧ exT hi (k + 1) t.1 t.2 = true ∧ fnd hi k t.1 t.2 = 0 := fun t ht => by
    obtain ⟨h1, h2, h3, p, hp, rfl⟩ := hI.mem t ht
    obtain ⟨hs, hl⟩ := (prs_mem _ p.1 p.2).1 hp
    have hs2 := h.st _ hs
    have h1 : 1 ≤ bp p := h1
    have h2 : bp p < N := h2
    have h3 : (lvl N k).1 p.2 (bp p).toNat = 0 := h3
    refine ⟨hl, h1, (by omega : bp p ≤ hi), (exT_succ _ _ _ _).2 ⟨(by omega : 0 ≤ bp p ∧ bp p ≤ hi), p.1.1, hs2.1, ?_⟩, ?_⟩
    · show exT hi k p.1.1 (wo p.2 p.1.1 (bef p.2 p.1.1 p.1.2)) = true
      rw [wo_bef]; exact hs2.2.2.2.2
    · rw [h.tab _ _ hl (by omega), Int.toNat_of_nonneg (by omega)] at h3
      exact h3
  have hall : ∀ c v, c < 7 → fnd hi (k + 1) c v = k + 1 → (c, v) ∈ A.2 := fun c v hc hf => by
    obtain ⟨f, hf7, hb⟩ := fnd_back hi k c v hf
    have hm : (f, wo c f v) ∈ (lvl N k).2 := h.all f _ hf7 (by rcases hb with ⟨a, b, c⟩ | ⟨a, b⟩; exact .inl ⟨a, b, c⟩; exact .inr ⟨a, b⟩)
    have hp := (prs_mem (lvl N k).2 (f, wo c f v) c).2 ⟨hm, hc⟩
    have hx := fnd_ex hi (k + 1) c v (by omega)
    rw [hf] at hx
    have hv := ((exT_succ _ _ _ _).1 hx).1
    have hpos : 1 ≤ bp ((f, wo c f v), c) := h.pos _ hm c hc
    have hbv : bp ((f, wo c f v), c) = v := bef_wo c f v
    rw [hbv] at hpos
    have hcv := hI.cov _ hp (by rw [hbv]; omega)
    rw [hbv] at hcv
    rcases hcv with h1 | h1
    · rw [h.tab _ _ hc (by omega), Int.toNat_of_nonneg (by omega)] at h1
      have h2 := fnd_le hi k c v
      rw [fnd_succ, if_pos h1] at hf
      omega
    · exact h1
  have hfs : ∀ t ∈ A.2, fnd hi (k + 1) t.1 t.2 = k + 1 := fun t ht => by
    obtain ⟨h1, h2, h3, h4, h5⟩ := hst t ht
    rw [fnd_succ, if_neg (by omega), if_pos h4]
  refine ⟨fun c v hc hv => ?_, fun t ht => ?_, fun c v hc hh => ?_, ?_, fun c v => ?_⟩
  · rw [hI.tab c v]
    by_cases hm : (c, (v : Int)) ∈ A.2
    · rw [if_pos hm, hfs _ hm]
    · rw [if_neg hm, h.tab c v hc hv, fnd_succ]
      by_cases h0 : fnd hi k c v ≠ 0
      · rw [if_pos h0]
      · rw [if_neg h0]
        by_cases h1 : exT hi (k + 1) c v = true
        · exact absurd (hall c v hc (by rw [fnd_succ, if_neg h0, if_pos h1])) hm
        · rw [if_neg h1]; omega
  · obtain ⟨h1, h2, h3, h4, h5⟩ := hst t ht
    exact ⟨h1, exT_ex _ _ _ _ h4, by omega, h3, h4⟩
  · rcases hh with ⟨h1, _⟩ | ⟨_, h1⟩
    · omega
    · exact hall c v hc h1
  · have h1 := hI.len
    rw [prs_length] at h1
    have h2 := h.len
    rw [Nat.pow_succ]
    omega
  · rw [hI.tab]
    split
    · exact Nat.le_refl _
    · exact Nat.le_succ_of_le (h.bd c v)
theorem Lvl.any (hi : Int) (N : Nat) (h0 : 0 ≤ hi) (hN : (N : Int) = hi + 1) : ∀ k, Lvl hi N k (lvl N k)
  | 0 => Lvl.zero hi N h0
  | k + 1 => (Lvl.any hi N h0 hN k).succ hN
/-- a row of the table is empty just as long as no text is found -/
theorem fnd_row (n : Int) (k : Nat) (hL : ∀ j, 1 ≤ j → j ≤ k → hasK n j = false) (c : Nat) (hc : c < 7) : fnd (n + 666) k c n = 0 := by
  by_cases h : fnd (n + 666) k c n = 0
  · exact h
  · have h1 := fnd_ex (n + 666) k c n h
    have h2 := fnd_le (n + 666) k c n
    have h3 := hL _ (by omega) h2
    rw [(hasK_iff _ _).2 ⟨c, hc, exT_ex _ _ _ _ h1⟩] at h3
    cases h3
theorem fnd_row' (n : Int) (k : Nat) (hk : 1 ≤ k) (h : hasK n k = true) : ∃ c, c < 7 ∧ fnd (n + 666) k c n ≠ 0 := by
  obtain ⟨c, hc, h⟩ := (hasK_iff _ _).1 h
  have hd := dv_bd c hc
  exact ⟨c, hc, (fnd_of (n + 666) k c n k hk (Nat.le_refl _) (ex_exT _ _ _ _ hc (by omega) h)).1⟩
end Go.Proofs.YthgagidpnnaajaaDoor
