/- Strokes, plain: the strokes of a stem as a list of places and kinds; what the program reckons with them. No program. -/
import Derived.Test.YtdokdlcmplggfaaDoorVA
namespace Go.Proofs.YtdokdlcmplggfaaDoor
set_option linter.unusedVariables false
set_option maxRecDepth 100000
/-- the kinds of a digit's strokes -/
def kds (d : Nat) : List Nat := [[], [0], [1], [2], [3], [0, 3], [4], [0, 4], [1, 4], [0, 1, 4]].getD d []
theorem kds_fin : ∀ d : Fin 10, (kds d.val).length = bq d.val ∧ (∀ k ∈ kds d.val, k < 5) ∧ (kds d.val).length ≤ 3 := by decide
theorem kds_lt (d k : Nat) (hd : d < 10) (h : k ∈ kds d) : k < 5 := (kds_fin ⟨d, hd⟩).2.1 k h
theorem kds_len (d : Nat) (hd : d < 10) : (kds d).length = bq d := (kds_fin ⟨d, hd⟩).1
theorem kds_le (d : Nat) (hd : d < 10) : (kds d).length ≤ 3 := (kds_fin ⟨d, hd⟩).2.2
/-- a stroke: its place and its kind -/
abbrev Stk := Nat × Nat
/-- the strokes of a digit at a place -/
def stkD (p d : Nat) : List Stk := (kds d).map fun k => (p, k)
theorem stkD_len (p d : Nat) (hd : d < 10) : (stkD p d).length = bq d := by unfold stkD; rw [List.length_map, kds_len d hd]
/-- the strokes of the first i places -/
def stkF (n : Nat) : Nat → List Stk
  | 0 => []
  | i + 1 => stkF n i ++ stkD i (n / 10 ^ i % 10)
def stk (n : Nat) : List Stk := stkF n 4
def stk4 (a b c d : Nat) : List Stk := stkD 0 a ++ stkD 1 b ++ stkD 2 c ++ stkD 3 d
theorem stk_four (n : Nat) (h : n ≤ 9999) : stk n = stk4 (n % 10) (n / 10 % 10) (n / 100 % 10) (n / 1000) := by
  unfold stk stk4
  show [] ++ stkD 0 (n / 10 ^ 0 % 10) ++ stkD 1 (n / 10 ^ 1 % 10) ++ stkD 2 (n / 10 ^ 2 % 10) ++ stkD 3 (n / 10 ^ 3 % 10) = _
  rw [show 10 ^ 0 = 1 from rfl, show 10 ^ 1 = 10 from rfl, show 10 ^ 2 = 100 from rfl, show 10 ^ 3 = 1000 from rfl, Nat.div_one, List.nil_append, show n / 1000 % 10 = n / 1000 by omega]
/-- the weight of a stroke, and of all -/
def wt (s : Stk) : Nat := 2 ^ (5 * s.1 + s.2)
def wtL : List Stk → Nat
  | [] => 0
  | s :: L => wt s + wtL L
theorem wtL_append (L M : List Stk) : wtL (L ++ M) = wtL L + wtL M := by
  induction L with
  | nil => simp [wtL]
  | cons s L ih => simp [wtL, ih, Nat.add_assoc]
theorem wtL_stkD_fin : ∀ p : Fin 4, ∀ d : Fin 10, wtL (stkD p.val d.val) = 32 ^ p.val * mkd d.val := by decide
theorem wtL_stkD (p d : Nat) (hp : p < 4) (hd : d < 10) : wtL (stkD p d) = 32 ^ p * mkd d := wtL_stkD_fin ⟨p, hp⟩ ⟨d, hd⟩
theorem wtL_stk (n : Nat) (h : n ≤ 9999) : wtL (stk n) = vsg n := by
  rw [stk_four n h, stk4, wtL_append, wtL_append, wtL_append, wtL_stkD 0 _ (by omega) (by omega), wtL_stkD 1 _ (by omega) (by omega), wtL_stkD 2 _ (by omega) (by omega), wtL_stkD 3 _ (by omega) (by omega)]
  rw [show 32 ^ 0 = 1 from rfl, show 32 ^ 1 = 32 from rfl, show 32 ^ 2 = 1024 from rfl, show 32 ^ 3 = 32768 from rfl]
  unfold vsg; omega
theorem wtL_take (L : List Stk) (k : Nat) (h : k < L.length) : wtL (L.take (k + 1)) = wtL (L.take k) + wt L[k] := by
  rw [List.take_succ_eq_append_getElem h, wtL_append]
  simp [wtL]
theorem wtL_take_le (L : List Stk) (k : Nat) : wtL (L.take k) ≤ wtL L := by
  have h := wtL_append (L.take k) (L.drop k)
  rw [List.take_append_drop] at h
  omega
/-- a stroke that may be -/
def StkOk (s : Stk) : Prop := s.1 < 4 ∧ s.2 < 5
theorem stkD_ok (p d : Nat) (hp : p < 4) (hd : d < 10) : ∀ s ∈ stkD p d, StkOk s := by
  intro s hs
  unfold stkD at hs
  obtain ⟨k, hk, rfl⟩ := List.mem_map.1 hs
  exact ⟨hp, kds_lt d k hd hk⟩
theorem stkF_ok (n i : Nat) (hi : i ≤ 4) : ∀ s ∈ stkF n i, StkOk s := by
  induction i with
  | zero => intro s hs; cases hs
  | succ i ih =>
    intro s hs
    rcases List.mem_append.1 hs with h | h
    · exact ih (by omega) s h
    · exact stkD_ok i _ (by omega) (Nat.mod_lt _ (by omega)) s h
theorem stk_ok (n : Nat) : ∀ s ∈ stk n, StkOk s := stkF_ok n 4 (by omega)
theorem stkF_len (n i : Nat) : (stkF n i).length ≤ 3 * i := by
  induction i with
  | zero => simp [stkF]
  | succ i ih =>
    have h : (stkD i (n / 10 ^ i % 10)).length ≤ 3 := by unfold stkD; rw [List.length_map]; exact kds_le _ (Nat.mod_lt _ (by omega))
    show (stkF n i ++ stkD i (n / 10 ^ i % 10)).length ≤ _
    rw [List.length_append]; omega
theorem stk_len (n : Nat) (h : n ≤ 9999) : (stk n).length = bc (vsg n) := by
  rw [bc_sg, stk_four n h, stk4, List.length_append, List.length_append, List.length_append, stkD_len _ _ (by omega), stkD_len _ _ (by omega), stkD_len _ _ (by omega), stkD_len _ _ (by omega)]
theorem stk_le (n : Nat) : (stk n).length ≤ 12 := stkF_len n 4
/-- each stroke at another place -/
def mvP (f : Nat → Nat) (s : Stk) : Stk := (f s.1, s.2)
def tpl (p : Nat) : Nat := [3, 2, 1, 0].getD p 0
def mpl (p : Nat) : Nat := [1, 0, 3, 2].getD p 0
theorem tpl_lt : ∀ p, p < 4 → tpl p < 4 := by decide
theorem mpl_lt : ∀ p, p < 4 → mpl p < 4 := by decide
theorem stkD_mv (f : Nat → Nat) (p d : Nat) : (stkD p d).map (mvP f) = stkD (f p) d := by unfold stkD; rw [List.map_map]; rfl
theorem wtL_mv (f : Nat → Nat) (n : Nat) (h : n ≤ 9999) : wtL ((stk n).map (mvP f)) = wtL (stkD (f 0) (n % 10)) + wtL (stkD (f 1) (n / 10 % 10)) + wtL (stkD (f 2) (n / 100 % 10)) + wtL (stkD (f 3) (n / 1000)) := by
  rw [stk_four n h, stk4, List.map_append, List.map_append, List.map_append, wtL_append, wtL_append, wtL_append, stkD_mv, stkD_mv, stkD_mv, stkD_mv]
theorem wtL_tpl (n : Nat) (h : n ≤ 9999) : wtL ((stk n).map (mvP tpl)) = vsg (tnd n) := by
  obtain ⟨_, h0, h1, h2, h3⟩ := tnd_dig n h
  rw [wtL_mv tpl n h, wtL_stkD _ _ (by decide) (by omega), wtL_stkD _ _ (by decide) (by omega), wtL_stkD _ _ (by decide) (by omega), wtL_stkD _ _ (by decide) (by omega)]
  rw [show 32 ^ tpl 0 = 32768 from rfl, show 32 ^ tpl 1 = 1024 from rfl, show 32 ^ tpl 2 = 32 from rfl, show 32 ^ tpl 3 = 1 from rfl]
  unfold vsg; rw [h0, h1, h2, h3]; omega
theorem wtL_mpl (n : Nat) (h : n ≤ 9999) : wtL ((stk n).map (mvP mpl)) = vsg (mrd n) := by
  obtain ⟨_, h0, h1, h2, h3⟩ := mrd_dig n h
  rw [wtL_mv mpl n h, wtL_stkD _ _ (by decide) (by omega), wtL_stkD _ _ (by decide) (by omega), wtL_stkD _ _ (by decide) (by omega), wtL_stkD _ _ (by decide) (by omega)]
  rw [show 32 ^ mpl 0 = 32 from rfl, show 32 ^ mpl 1 = 1 from rfl, show 32 ^ mpl 2 = 32768 from rfl, show 32 ^ mpl 3 = 1024 from rfl]
  unfold vsg; rw [h0, h1, h2, h3]; omega
/-- strokes that the other stem doesn't have -/
def bey (L M : List Stk) : Nat := L.countP fun s => decide (s ∉ M)
theorem bey_append (A B M : List Stk) : bey (A ++ B) M = bey A M + bey B M := List.countP_append
theorem bey_take (L M : List Stk) (k : Nat) (h : k < L.length) : bey (L.take (k + 1)) M = bey (L.take k) M + (if L[k] ∈ M then 0 else 1) := by
  rw [List.take_succ_eq_append_getElem h, bey_append]
  congr 1
  unfold bey
  by_cases hm : L[k] ∈ M
  · simp [hm]
  · simp [hm]
theorem bey_le (L M : List Stk) : bey L M ≤ L.length := List.countP_le_length
def dif (d e : Nat) : Nat := (kds d).countP fun k => decide (k ∉ kds e)
theorem dif_fin : ∀ d e : Fin 10, dif d.val e.val + dif e.val d.val = bcF 5 (mkd d.val ^^^ mkd e.val) := by decide
theorem dif_two (d e : Nat) (hd : d < 10) (he : e < 10) : dif d e + dif e d = bcF 5 (mkd d ^^^ mkd e) := dif_fin ⟨d, hd⟩ ⟨e, he⟩
theorem mem_stkD (p k q e : Nat) : (p, k) ∈ stkD q e ↔ p = q ∧ k ∈ kds e := by
  unfold stkD
  rw [List.mem_map]
  constructor
  · rintro ⟨x, hx, h⟩
    simp only [Prod.mk.injEq] at h
    obtain ⟨rfl, rfl⟩ := h
    exact ⟨rfl, hx⟩
  · rintro ⟨rfl, h⟩
    exact ⟨k, h, rfl⟩
theorem mem_stk4 (p k a b c d : Nat) : (p, k) ∈ stk4 a b c d ↔ (p = 0 ∧ k ∈ kds a) ∨ (p = 1 ∧ k ∈ kds b) ∨ (p = 2 ∧ k ∈ kds c) ∨ (p = 3 ∧ k ∈ kds d) := by
  unfold stk4
  rw [List.mem_append, List.mem_append, List.mem_append, mem_stkD, mem_stkD, mem_stkD, mem_stkD]
  constructor
  · rintro (((h | h) | h) | h)
    · exact .inl h
    · exact .inr (.inl h)
    · exact .inr (.inr (.inl h))
    · exact .inr (.inr (.inr h))
  · rintro (h | h | h | h)
    · exact .inl (.inl (.inl h))
    · exact .inl (.inl (.inr h))
    · exact .inl (.inr h)
    · exact .inr h
theorem bey_stkD (p x : Nat) (M : List Stk) (e : Nat) (h : ∀ k, (p, k) ∈ M ↔ k ∈ kds e) : bey (stkD p x) M = dif x e := by
  unfold bey stkD dif
  rw [List.countP_map]
  congr 1
  funext k
  show decide ((p, k) ∉ M) = decide (k ∉ kds e)
  rw [decide_eq_decide, h k]
theorem bey_four (a b c d a' b' c' d' : Nat) : bey (stk4 a b c d) (stk4 a' b' c' d') = dif a a' + dif b b' + dif c c' + dif d d' := by
  rw [show stk4 a b c d = stkD 0 a ++ stkD 1 b ++ stkD 2 c ++ stkD 3 d from rfl, bey_append, bey_append, bey_append,
    bey_stkD 0 a _ a' (fun k => by rw [mem_stk4]; simp), bey_stkD 1 b _ b' (fun k => by rw [mem_stk4]; simp),
    bey_stkD 2 c _ c' (fun k => by rw [mem_stk4]; simp), bey_stkD 3 d _ d' (fun k => by rw [mem_stk4]; simp)]
theorem xor_field (a b c d : Nat) (ha : a < 32) (hc : c < 32) : (a + 32 * b) ^^^ (c + 32 * d) = (a ^^^ c) + 32 * (b ^^^ d) := by
  have hx : a ^^^ c < 32 := Nat.xor_lt_two_pow (n := 5) ha hc
  have h1 : ((a + 32 * b) ^^^ (c + 32 * d)) % 32 = a ^^^ c := by
    have h := Nat.xor_mod_two_pow (a := a + 32 * b) (b := c + 32 * d) (n := 5)
    rw [show 2 ^ 5 = 32 from rfl] at h
    rw [h, show (a + 32 * b) % 32 = a by omega, show (c + 32 * d) % 32 = c by omega]
  have h2 : ((a + 32 * b) ^^^ (c + 32 * d)) / 32 = b ^^^ d := by
    have h := Nat.shiftRight_xor_distrib (a := a + 32 * b) (b := c + 32 * d) (i := 5)
    rw [Nat.shiftRight_eq_div_pow, Nat.shiftRight_eq_div_pow, Nat.shiftRight_eq_div_pow, show 2 ^ 5 = 32 from rfl] at h
    rw [h, show (a + 32 * b) / 32 = b by omega, show (c + 32 * d) / 32 = d by omega]
  omega
theorem vsg_field (n : Nat) : vsg n = mkd (n % 10) + 32 * (mkd (n / 10 % 10) + 32 * (mkd (n / 100 % 10) + 32 * (mkd (n / 1000) + 32 * 0))) := by unfold vsg; omega
theorem near_strokes (m n : Nat) (hm : m ≤ 9999) (hn : n ≤ 9999) : bey (stk m) (stk n) + bey (stk n) (stk m) = bc (vsg m ^^^ vsg n) := by
  rw [stk_four m hm, stk_four n hn, bey_four, bey_four]
  unfold bc
  rw [vsg_field m, vsg_field n]
  rw [xor_field _ _ _ _ (mkd_lt _) (mkd_lt _), xor_field _ _ _ _ (mkd_lt _) (mkd_lt _), xor_field _ _ _ _ (mkd_lt _) (mkd_lt _), xor_field _ _ _ _ (mkd_lt _) (mkd_lt _), Nat.xor_self]
  have hx : ∀ a b, mkd a ^^^ mkd b < 32 := fun a b => Nat.xor_lt_two_pow (n := 5) (mkd_lt a) (mkd_lt b)
  rw [bcF_field 15 _ _ (hx _ _), bcF_field 10 _ _ (hx _ _), bcF_field 5 _ _ (hx _ _), bcF_field 0 _ _ (hx _ _)]
  rw [← dif_two (m % 10) (n % 10) (by omega) (by omega), ← dif_two (m / 10 % 10) (n / 10 % 10) (by omega) (by omega), ← dif_two (m / 100 % 10) (n / 100 % 10) (by omega) (by omega), ← dif_two (m / 1000) (n / 1000) (by omega) (by omega)]
  show _ = _ + (_ + (_ + (_ + 0)))
  omega
/-- which digit has these strokes: as the program looks for it -/
theorem fdK_first (x m : Nat) (hm : m < 10) (h : mkd m = x) : fdK x 10 = (m : Int) := by
  rcases fdK_or x 10 with h1 | ⟨d, h1, h2, h3⟩
  · exact absurd (h ▸ fdK_mkd m hm) (by rw [h1]; omega)
  · rw [h2, mkd_inj d m h1 hm (h3.trans h.symm)]
theorem fdK_none (x : Nat) (h : ∀ d, d < 10 → mkd d ≠ x) : fdK x 10 = -1 := by
  rcases fdK_or x 10 with h1 | ⟨d, h1, h2, h3⟩
  · exact h1
  · exact absurd h3 (h d h1)
end Go.Proofs.YtdokdlcmplggfaaDoor
