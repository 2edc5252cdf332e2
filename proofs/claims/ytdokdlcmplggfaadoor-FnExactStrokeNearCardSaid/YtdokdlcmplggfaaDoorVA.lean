/- Strokes, plain: signs, strokes, reading, turning. No program. -/
namespace Go.Proofs.YtdokdlcmplggfaaDoor
set_option linter.unusedVariables false
set_option maxRecDepth 100000
/-- the strokes of a digit -/
def mkd (d : Nat) : Nat := [0, 1, 2, 4, 8, 9, 16, 17, 18, 19].getD d 0
theorem mkd_fin : ∀ d : Fin 10, mkd d.val < 32 ∧ ∀ e : Fin 10, mkd d.val = mkd e.val → d = e := by decide
theorem mkd_lt (d : Nat) : mkd d < 32 := by
  by_cases h : d < 10
  · exact (mkd_fin ⟨d, h⟩).1
  · unfold mkd; rw [List.getD_eq_getElem?_getD, List.getElem?_eq_none (by simp; omega)]; decide
theorem mkd_inj (d e : Nat) (hd : d < 10) (he : e < 10) (h : mkd d = mkd e) : d = e := congrArg Fin.val ((mkd_fin ⟨d, hd⟩).2 ⟨e, he⟩ h)
/-- the sign of a number -/
def vsg (n : Nat) : Nat := mkd (n % 10) + 32 * mkd (n / 10 % 10) + 1024 * mkd (n / 100 % 10) + 32768 * mkd (n / 1000)
theorem sg_lt (n : Nat) : vsg n < 1048576 := by
  have := mkd_lt (n % 10); have := mkd_lt (n / 10 % 10); have := mkd_lt (n / 100 % 10); have := mkd_lt (n / 1000)
  unfold vsg; omega
theorem sg_inj (m n : Nat) (hm : m ≤ 9999) (hn : n ≤ 9999) (h : vsg m = vsg n) : m = n := by
  have a0 := mkd_lt (m % 10); have a1 := mkd_lt (m / 10 % 10); have a2 := mkd_lt (m / 100 % 10); have a3 := mkd_lt (m / 1000)
  have b0 := mkd_lt (n % 10); have b1 := mkd_lt (n / 10 % 10); have b2 := mkd_lt (n / 100 % 10); have b3 := mkd_lt (n / 1000)
  unfold vsg at h
  have e0 := mkd_inj (m % 10) (n % 10) (by omega) (by omega) (by omega)
  have e1 := mkd_inj (m / 10 % 10) (n / 10 % 10) (by omega) (by omega) (by omega)
  have e2 := mkd_inj (m / 100 % 10) (n / 100 % 10) (by omega) (by omega) (by omega)
  have e3 := mkd_inj (m / 1000) (n / 1000) (by omega) (by omega) (by omega)
  omega
/-- how many strokes -/
def bcF : Nat → Nat → Nat
  | 0, _ => 0
  | f + 1, s => s % 2 + bcF f (s / 2)
def bc (s : Nat) : Nat := bcF 20 s
theorem bcF_field (f a b : Nat) (h : a < 32) : bcF (f + 5) (a + 32 * b) = bcF 5 a + bcF f b := by
  show (a + 32 * b) % 2 + ((a + 32 * b) / 2 % 2 + ((a + 32 * b) / 2 / 2 % 2 + ((a + 32 * b) / 2 / 2 / 2 % 2 + ((a + 32 * b) / 2 / 2 / 2 / 2 % 2 + bcF f ((a + 32 * b) / 2 / 2 / 2 / 2 / 2))))) = a % 2 + (a / 2 % 2 + (a / 2 / 2 % 2 + (a / 2 / 2 / 2 % 2 + (a / 2 / 2 / 2 / 2 % 2 + 0)))) + bcF f b
  rw [show (a + 32 * b) / 2 / 2 / 2 / 2 / 2 = b by omega]
  omega
/-- the strokes of a digit, counted -/
def bq (d : Nat) : Nat := bcF 5 (mkd d)
theorem bq_fin : ∀ d : Fin 10, bq d.val ≤ 3 := by decide
theorem bq_le (d : Nat) (h : d < 10) : bq d ≤ 3 := bq_fin ⟨d, h⟩
theorem bc_sg (n : Nat) : bc (vsg n) = bq (n % 10) + bq (n / 10 % 10) + bq (n / 100 % 10) + bq (n / 1000) := by
  have e : vsg n = mkd (n % 10) + 32 * (mkd (n / 10 % 10) + 32 * (mkd (n / 100 % 10) + 32 * (mkd (n / 1000) + 32 * 0))) := by unfold vsg; omega
  unfold bc
  rw [e, bcF_field 15 _ _ (mkd_lt _), bcF_field 10 _ _ (mkd_lt _), bcF_field 5 _ _ (mkd_lt _), bcF_field 0 _ _ (mkd_lt _)]
  show bq _ + (bq _ + (bq _ + (bq _ + 0))) = _
  omega
theorem bc_le (n : Nat) (h : n ≤ 9999) : bc (vsg n) ≤ 12 := by
  have := bq_le (n % 10) (by omega); have := bq_le (n / 10 % 10) (by omega); have := bq_le (n / 100 % 10) (by omega); have := bq_le (n / 1000) (by omega)
  rw [bc_sg]; omega
/-- upside down, and in a mirror -/
def tnd (n : Nat) : Nat := n % 10 * 1000 + n / 10 % 10 * 100 + n / 100 % 10 * 10 + n / 1000
def mrd (n : Nat) : Nat := n % 10 * 10 + n / 10 % 10 + n / 100 % 10 * 1000 + n / 1000 * 100
theorem four_dig (n : Nat) (h : n ≤ 9999) : ∃ a b c d : Nat, a < 10 ∧ b < 10 ∧ c < 10 ∧ d < 10 ∧ n = a + b * 10 + c * 100 + d * 1000 := ⟨n % 10, n / 10 % 10, n / 100 % 10, n / 1000, by omega, by omega, by omega, by omega, by omega⟩
theorem dig_four (a b c d : Nat) (ha : a < 10) (hb : b < 10) (hc : c < 10) (hd : d < 10) : (a + b * 10 + c * 100 + d * 1000) % 10 = a ∧ (a + b * 10 + c * 100 + d * 1000) / 10 % 10 = b ∧ (a + b * 10 + c * 100 + d * 1000) / 100 % 10 = c ∧ (a + b * 10 + c * 100 + d * 1000) / 1000 = d :=
  ⟨by omega, by omega, by omega, by omega⟩
theorem tnd4 (a b c d : Nat) (ha : a < 10) (hb : b < 10) (hc : c < 10) (hd : d < 10) : tnd (a + b * 10 + c * 100 + d * 1000) = d + c * 10 + b * 100 + a * 1000 := by
  obtain ⟨e0, e1, e2, e3⟩ := dig_four a b c d ha hb hc hd
  unfold tnd; rw [e0, e1, e2, e3]; omega
theorem mrd4 (a b c d : Nat) (ha : a < 10) (hb : b < 10) (hc : c < 10) (hd : d < 10) : mrd (a + b * 10 + c * 100 + d * 1000) = b + a * 10 + d * 100 + c * 1000 := by
  obtain ⟨e0, e1, e2, e3⟩ := dig_four a b c d ha hb hc hd
  unfold mrd; rw [e0, e1, e2, e3]; omega
theorem tnd_dig (n : Nat) (h : n ≤ 9999) : tnd n ≤ 9999 ∧ tnd n % 10 = n / 1000 ∧ tnd n / 10 % 10 = n / 100 % 10 ∧ tnd n / 100 % 10 = n / 10 % 10 ∧ tnd n / 1000 = n % 10 := by
  obtain ⟨a, b, c, d, ha, hb, hc, hd, rfl⟩ := four_dig n h
  obtain ⟨e0, e1, e2, e3⟩ := dig_four a b c d ha hb hc hd
  rw [tnd4 a b c d ha hb hc hd, e0, e1, e2, e3]
  exact ⟨by omega, dig_four d c b a hd hc hb ha⟩
theorem mrd_dig (n : Nat) (h : n ≤ 9999) : mrd n ≤ 9999 ∧ mrd n % 10 = n / 10 % 10 ∧ mrd n / 10 % 10 = n % 10 ∧ mrd n / 100 % 10 = n / 1000 ∧ mrd n / 1000 = n / 100 % 10 := by
  obtain ⟨a, b, c, d, ha, hb, hc, hd, rfl⟩ := four_dig n h
  obtain ⟨e0, e1, e2, e3⟩ := dig_four a b c d ha hb hc hd
  rw [mrd4 a b c d ha hb hc hd, e0, e1, e2, e3]
  exact ⟨by omega, dig_four b a d c hb ha hd hc⟩
theorem bc_tnd (n : Nat) (h : n ≤ 9999) : bc (vsg (tnd n)) = bc (vsg n) := by
  obtain ⟨_, h0, h1, h2, h3⟩ := tnd_dig n h
  rw [bc_sg, bc_sg, h0, h1, h2, h3]; omega
theorem bc_mrd (n : Nat) (h : n ≤ 9999) : bc (vsg (mrd n)) = bc (vsg n) := by
  obtain ⟨_, h0, h1, h2, h3⟩ := mrd_dig n h
  rw [bc_sg, bc_sg, h0, h1, h2, h3]; omega
theorem tnd_tnd (n : Nat) (h : n ≤ 9999) : tnd (tnd n) = n := by
  obtain ⟨a, b, c, d, ha, hb, hc, hd, rfl⟩ := four_dig n h
  rw [tnd4 a b c d ha hb hc hd, tnd4 d c b a hd hc hb ha]
theorem mrd_mrd (n : Nat) (h : n ≤ 9999) : mrd (mrd n) = n := by
  obtain ⟨a, b, c, d, ha, hb, hc, hd, rfl⟩ := four_dig n h
  rw [mrd4 a b c d ha hb hc hd, mrd4 b a d c hb ha hd hc]
theorem mrd_tnd (n : Nat) (h : n ≤ 9999) : mrd (tnd n) = tnd (mrd n) := by
  obtain ⟨a, b, c, d, ha, hb, hc, hd, rfl⟩ := four_dig n h
  rw [tnd4 a b c d ha hb hc hd, mrd4 a b c d ha hb hc hd, mrd4 d c b a hd hc hb ha, tnd4 b a d c hb ha hd hc]
/-- strokes of one sign alone -/
theorem xor_half (a b : Nat) : (a ^^^ b) % 2 = (a % 2 + b % 2) % 2 ∧ (a ^^^ b) / 2 = a / 2 ^^^ b / 2 := ⟨by
  have h := Nat.xor_mod_two_pow (a := a) (b := b) (n := 1)
  rw [show 2 ^ 1 = 2 from rfl] at h
  rw [h]
  rcases Nat.mod_two_eq_zero_or_one a with x | x <;> rcases Nat.mod_two_eq_zero_or_one b with y | y <;> rw [x, y] <;> rfl, by
  have := Nat.shiftRight_xor_distrib (a := a) (b := b) (i := 1)
  simpa [Nat.shiftRight_succ] using this⟩
theorem bcF_xor (f : Nat) : ∀ a b, bcF f (a ^^^ b) ≤ bcF f a + bcF f b := by
  induction f with
  | zero => intro a b; simp [bcF]
  | succ f ih =>
    intro a b
    obtain ⟨h1, h2⟩ := xor_half a b
    show (a ^^^ b) % 2 + bcF f ((a ^^^ b) / 2) ≤ a % 2 + bcF f (a / 2) + (b % 2 + bcF f (b / 2))
    rw [h1, h2]
    have := ih (a / 2) (b / 2)
    omega
theorem bcF_zero (f : Nat) : ∀ s, s < 2 ^ f → (bcF f s = 0 ↔ s = 0) := by
  induction f with
  | zero => intro s h; simp at h; subst h; simp [bcF]
  | succ f ih =>
    intro s h
    have := ih (s / 2) (by rw [Nat.pow_succ] at h; omega)
    show s % 2 + bcF f (s / 2) = 0 ↔ s = 0
    constructor
    · intro e
      have := this.1 (by omega)
      omega
    · intro e; subst e
      have := this.2 rfl
      omega
theorem bc_near (m n : Nat) : bc (vsg m ^^^ vsg n) = bc (vsg n ^^^ vsg m) ∧ bc (vsg m ^^^ vsg n) ≤ bc (vsg m) + bc (vsg n) := ⟨by rw [Nat.xor_comm], bcF_xor 20 _ _⟩
theorem xor_lt (m n : Nat) : vsg m ^^^ vsg n < 1048576 := Nat.xor_lt_two_pow (n := 20) (sg_lt m) (sg_lt n)
theorem bc_same (m n : Nat) (hm : m ≤ 9999) (hn : n ≤ 9999) : bc (vsg m ^^^ vsg n) = 0 ↔ m = n := by
  unfold bc
  rw [bcF_zero 20 _ (xor_lt m n)]
  constructor
  · intro h
    refine sg_inj m n hm hn ?_
    have e : vsg m ^^^ vsg n ^^^ vsg n = 0 ^^^ vsg n := by rw [h]
    rwa [Nat.xor_assoc, Nat.xor_self, Nat.xor_zero, Nat.zero_xor] at e
  · rintro rfl; exact Nat.xor_self _
/-- which digit has these strokes: the last one below k -/
def fdK (x : Nat) : Nat → Int
  | 0 => -1
  | k + 1 => if mkd k = x then (k : Int) else fdK x k
theorem fdK_or (x k : Nat) : fdK x k = -1 ∨ ∃ d, d < k ∧ fdK x k = (d : Int) ∧ mkd d = x := by
  induction k with
  | zero => exact .inl rfl
  | succ k ih =>
    unfold fdK
    by_cases h : mkd k = x
    · rw [if_pos h]; exact .inr ⟨k, by omega, rfl, h⟩
    · rw [if_neg h]
      rcases ih with h1 | ⟨d, h1, h2, h3⟩
      · exact .inl h1
      · exact .inr ⟨d, by omega, h2, h3⟩
theorem fdK_fin : ∀ d : Fin 10, fdK (mkd d.val) 10 = (d.val : Int) := by decide
theorem fdK_mkd (d : Nat) (h : d < 10) : fdK (mkd d) 10 = (d : Int) := fdK_fin ⟨d, h⟩
/-- the strokes of place i -/
def fld (s i : Nat) : Nat := s / 32 ^ i % 32
/-- the number behind i places -/
def rsum (s : Nat) : Nat → Int
  | 0 => 0
  | i + 1 => rsum s i + fdK (fld s i) 10 * ((10 ^ i : Nat) : Int)
/-- each of the first i places is a digit's -/
def rall (s i : Nat) : Prop := ∀ j, j < i → 0 ≤ fdK (fld s j) 10
theorem fld_sg (n : Nat) (h : n ≤ 9999) : fld (vsg n) 0 = mkd (n % 10) ∧ fld (vsg n) 1 = mkd (n / 10 % 10) ∧ fld (vsg n) 2 = mkd (n / 100 % 10) ∧ fld (vsg n) 3 = mkd (n / 1000) := by
  have a0 := mkd_lt (n % 10); have a1 := mkd_lt (n / 10 % 10); have a2 := mkd_lt (n / 100 % 10); have a3 := mkd_lt (n / 1000)
  unfold fld vsg
  rw [show 32 ^ 0 = 1 from rfl, show 32 ^ 1 = 32 from rfl, show 32 ^ 2 = 1024 from rfl, show 32 ^ 3 = 32768 from rfl]
  omega
theorem rsum_four (s : Nat) : rsum s 4 = fdK (fld s 0) 10 + fdK (fld s 1) 10 * 10 + fdK (fld s 2) 10 * 100 + fdK (fld s 3) 10 * 1000 := by
  show 0 + fdK (fld s 0) 10 * ((10 ^ 0 : Nat) : Int) + fdK (fld s 1) 10 * ((10 ^ 1 : Nat) : Int) + fdK (fld s 2) 10 * ((10 ^ 2 : Nat) : Int) + fdK (fld s 3) 10 * ((10 ^ 3 : Nat) : Int) = _
  rw [show ((10 ^ 0 : Nat) : Int) = 1 from rfl, show ((10 ^ 1 : Nat) : Int) = 10 from rfl, show ((10 ^ 2 : Nat) : Int) = 100 from rfl, show ((10 ^ 3 : Nat) : Int) = 1000 from rfl]
  omega
theorem rd_sg (n : Nat) (h : n ≤ 9999) : rall (vsg n) 4 ∧ rsum (vsg n) 4 = (n : Int) := by
  obtain ⟨e0, e1, e2, e3⟩ := fld_sg n h
  have f0 := fdK_mkd (n % 10) (by omega); have f1 := fdK_mkd (n / 10 % 10) (by omega); have f2 := fdK_mkd (n / 100 % 10) (by omega); have f3 := fdK_mkd (n / 1000) (by omega)
  refine ⟨fun j hj => ?_, ?_⟩
  · rcases (show j = 0 ∨ j = 1 ∨ j = 2 ∨ j = 3 by omega) with rfl | rfl | rfl | rfl
    · rw [e0, f0]; omega
    · rw [e1, f1]; omega
    · rw [e2, f2]; omega
    · rw [e3, f3]; omega
  · rw [rsum_four, e0, e1, e2, e3, f0, f1, f2, f3]; omega
theorem rd_of (s : Nat) (hs : s < 1048576) (h : rall s 4) : ∃ n : Nat, n ≤ 9999 ∧ rsum s 4 = (n : Int) ∧ vsg n = s := by
  have key : ∀ j, j < 4 → ∃ d : Nat, d < 10 ∧ fdK (fld s j) 10 = (d : Int) ∧ mkd d = fld s j := fun j hj => by
    rcases fdK_or (fld s j) 10 with h1 | h1
    · have := h j hj; omega
    · exact h1
  obtain ⟨d0, a0, b0, c0⟩ := key 0 (by omega)
  obtain ⟨d1, a1, b1, c1⟩ := key 1 (by omega)
  obtain ⟨d2, a2, b2, c2⟩ := key 2 (by omega)
  obtain ⟨d3, a3, b3, c3⟩ := key 3 (by omega)
  refine ⟨d0 + d1 * 10 + d2 * 100 + d3 * 1000, by omega, by rw [rsum_four, b0, b1, b2, b3]; omega, ?_⟩
  unfold fld at c0 c1 c2 c3
  rw [show 32 ^ 0 = 1 from rfl] at c0
  rw [show 32 ^ 1 = 32 from rfl] at c1
  rw [show 32 ^ 2 = 1024 from rfl] at c2
  rw [show 32 ^ 3 = 32768 from rfl] at c3
  unfold vsg
  rw [show (d0 + d1 * 10 + d2 * 100 + d3 * 1000) % 10 = d0 by omega, show (d0 + d1 * 10 + d2 * 100 + d3 * 1000) / 10 % 10 = d1 by omega,
    show (d0 + d1 * 10 + d2 * 100 + d3 * 1000) / 100 % 10 = d2 by omega, show (d0 + d1 * 10 + d2 * 100 + d3 * 1000) / 1000 = d3 by omega, c0, c1, c2, c3]
  omega
/-- no great numbers on the way -/
theorem rsum_bd (s i : Nat) (hi : i ≤ 4) (h : rall s i) : 0 ≤ rsum s i ∧ rsum s i < ((10 ^ i : Nat) : Int) := by
  induction i with
  | zero => exact ⟨by simp [rsum], by simp [rsum]⟩
  | succ i ih =>
    obtain ⟨h1, h2⟩ := ih (by omega) (fun j hj => h j (by omega))
    have h3 := h i (by omega)
    have h4 : fdK (fld s i) 10 ≤ 9 := by
      rcases fdK_or (fld s i) 10 with e | ⟨d, d1, d2, _⟩ <;> omega
    show 0 ≤ rsum s i + fdK (fld s i) 10 * ((10 ^ i : Nat) : Int) ∧ rsum s i + fdK (fld s i) 10 * ((10 ^ i : Nat) : Int) < _
    rcases (show i = 0 ∨ i = 1 ∨ i = 2 ∨ i = 3 by omega) with rfl | rfl | rfl | rfl
    · rw [show ((10 ^ 0 : Nat) : Int) = 1 from rfl] at *; rw [show ((10 ^ (0 + 1) : Nat) : Int) = 10 from rfl]; omega
    · rw [show ((10 ^ 1 : Nat) : Int) = 10 from rfl] at *; rw [show ((10 ^ (1 + 1) : Nat) : Int) = 100 from rfl]; omega
    · rw [show ((10 ^ 2 : Nat) : Int) = 100 from rfl] at *; rw [show ((10 ^ (2 + 1) : Nat) : Int) = 1000 from rfl]; omega
    · rw [show ((10 ^ 3 : Nat) : Int) = 1000 from rfl] at *; rw [show ((10 ^ (3 + 1) : Nat) : Int) = 10000 from rfl]; omega
/-- how many numbers below n have k strokes -/
def mny (k : Nat) : Nat → Nat
  | 0 => 0
  | n + 1 => mny k n + (if bc (vsg n) = k then 1 else 0)
theorem mny_le (k n : Nat) : mny k n ≤ n := by
  induction n with
  | zero => simp [mny]
  | succ n ih => unfold mny; split <;> omega
end Go.Proofs.YtdokdlcmplggfaaDoor
