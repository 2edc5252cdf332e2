/- The program's chapter 7 in company: stemOf, countThousand (printed by genhd.py and genh.py). -/
import Derived.Test.YtmphfdibijbjeaaDoorHC
import Derived.Lib.Hide
namespace Go.Proofs.YtmphfdibijbjeaaDoor
open Go.Conc Go.RowKit
set_option linter.unusedSimpArgs false
set_option linter.unusedVariables false
set_option maxRecDepth 100000
variable {main : Bool} {B0 Low : Nat} {Shr : Nat → Prop} {Lv : World → Prop}
/-- what a goroutine knows of the world between two stems -/
structure HT (B0 Low : Nat) (Shr : Nat → Prop) (S : Bag) (w : World) : Prop where
  env : Env B0 Low Shr
  tab : DKB B0 w
  sz : B0 ≤ w.heap.size
theorem HT.rely {S : Bag} {w w₁ : World} (h : HT B0 Low Shr S w) (r : RH Low Shr Lv S w w₁) : HT B0 Low Shr S w₁ := ⟨h.env, h.tab.relyT h.env r, Nat.le_trans h.sz r.size⟩
theorem HW.ht {g n : Nat} {S : Bag} {w : World} (h : HW B0 Low Shr g n S w) : HT B0 Low Shr S w := ⟨h.env, h.tab, h.sz⟩
theorem HT.made {S S' : Bag} {w : World} (h : HT B0 Low Shr S w) (cur : Array Value) (hc : cur.size = 12 * 2) (hS : S' w.heap.size) : HW B0 Low Shr w.heap.size 0 S' (w.alloc (.cells cur 82)) := by
  have hz := h.sz
  have ce : ∀ a : Addr, a.block < B0 → (w.alloc (.cells cur 82)).cell? a = w.cell? a := fun a ha => by simp [World.cell?, Below.heap_alloc w (.cells cur 82) a.block (by omega)]
  refine ⟨h.env, ⟨h.tab.1, fun d hd => ?_⟩, hS, by simp; omega, hz, [], World.ownsRow_made w cur 12 (Nat.le_refl _) (by unfold maxLen; omega) hc⟩
  obtain ⟨c, hc, a, cap, rfl, hr⟩ := h.tab.2 d hd
  refine ⟨_, (ce ⟨0, d, none⟩ h.tab.1).trans hc, a, cap, rfl, fun k hk => ?_⟩
  obtain ⟨b, off, e, hb, hcell⟩ := hr k hk
  exact ⟨b, off, e, hb, (ce ⟨b, off + k, none⟩ hb).trans hcell⟩
/-- how many strokes the last p digits of a number have -/
def lens (n : Nat) : Nat → Nat
  | 0 => 0
  | p + 1 => lens n p + (kds (n / 10 ^ p % 10)).length
theorem lens_le (n : Nat) : ∀ p, lens n p ≤ 3 * p
  | 0 => Nat.le_refl _
  | p + 1 => by
    have := lens_le n p
    have := kds_le (n / 10 ^ p % 10) (Nat.mod_lt _ (by omega))
    show lens n p + _ ≤ _
    omega
set_option maxHeartbeats 4000000 in
theorem stemOfT : ∃ N, ∀ (n : Nat), n ≤ 9999 → ∀ (S : Bag) (w : World), HT B0 Low Shr S w →
    CallsT Tryd.prog main (RH Low Shr Lv) (DH Low Shr) 33 #[.int .i64 (n : Nat)] N S w fun S' v w' => (∃ g, v = .tuple #[stmV g (lens n 4), .bool true]) ∧ HT B0 Low Shr S' w' := by
  obtain ⟨i0, hi, hz0, hz1, hz2⟩ := info_parts info_stkT
  obtain ⟨Nw, hwd⟩ := withDigitT (main := main) (B0 := B0) (Low := Low) (Shr := Shr) (Lv := Lv)
  have hmk := fun w => run_make (P := Tryd.prog) w 64 82 i0 (.agg #[.int .i64 0, .int .i64 0]) Tryd.underlying64 hi hz0 .i64 .i64 0 12 (by omega) (by omega) (by rw [hz2]; omega) (by omega)
  have hme := fun w es => events_make (P := Tryd.prog) w 64 82 i0 (.agg #[.int .i64 0, .int .i64 0]) Tryd.underlying64 hi hz0 .i64 .i64 0 12 (by omega) (by omega) (by rw [hz2]; omega) (by omega) (by rw [hz2]; simp) es
  rw [hz1] at hmk
  co_apply Exists.intro
  intro n hn S w hF
  have hrely : ∀ {S : Bag} {w w₁ : World}, HT B0 Low Shr S w → RH Low Shr Lv S w w₁ → HT B0 Low Shr S w₁ := fun h r => h.rely r
  have hn0 : ¬ (n : Int) < 0 := by omega
  have hn9 : ¬ (9999 : Int) < (n : Int) := by omega
  refine ⟨_, _, Tryd.func33, rfl, rfl, ?_⟩
  simp only [Tryd.ntmps33, List.size_toArray, List.length_cons, List.length_nil, Nat.reduceAdd, Nat.reduceSub, Array.replicate_succ, Array.replicate_zero, List.push_toArray, List.append_toArray, List.nil_append, List.cons_append]
  first | co_apply codeT_seq fairH | co_apply codeT_block fairH | co_apply codeT_skip fairH | co_apply codeT_label fairH | co_apply codeT_ret fairH | co_apply codeT_exit fairH | co_apply opsT_nil fairH
  co_apply codeT_region fairH
  simp only [List.size_toArray, List.length_cons, List.length_nil, Nat.reduceAdd, Nat.zero_add, List.range, List.range.loop]
  co_apply opsT_look rfl (by rfl)
  intro _ hR K hK
  replace hF := hrely hF hR
  clear hR
  go_simp
  refine hK _ ⟨?_, ?_⟩
  · rw [listed_nil (by simp [go_sem])]; exact DH.read evs_none
  clear hK K
  try walk_nrm
  co_apply opsT_look rfl (by rfl)
  intro _ hR K hK
  replace hF := hrely hF hR
  clear hR
  go_simp
  refine hK _ ⟨?_, ?_⟩
  · rw [listed_nil (by simp [go_sem])]; exact DH.read evs_none
  clear hK K
  try walk_nrm
  co_apply opsT_nil fairH
  simp only [Exit.then, Exit.inBlock, if_true, if_false, reduceIte, Nat.reduceEqDiff]
  first | co_apply codeT_seq fairH | co_apply codeT_block fairH | co_apply codeT_skip fairH | co_apply codeT_label fairH | co_apply codeT_ret fairH | co_apply codeT_exit fairH | co_apply opsT_nil fairH
  first | co_apply codeT_seq fairH | co_apply codeT_block fairH | co_apply codeT_skip fairH | co_apply codeT_label fairH | co_apply codeT_ret fairH | co_apply codeT_exit fairH | co_apply opsT_nil fairH
  co_apply codeT_region fairH
  simp only [List.size_toArray, List.length_cons, List.length_nil, Nat.reduceAdd, Nat.zero_add, List.range, List.range.loop]
  co_apply opsT_look rfl (by rfl)
  intro _ hR K hK
  replace hF := hrely hF hR
  clear hR
  go_simp
  refine hK _ ⟨?_, ?_⟩
  · rw [listed_nil (by simp [go_sem])]; exact DH.read evs_none
  clear hK K
  try walk_nrm
  co_apply opsT_look rfl (by rfl)
  intro _ hR K hK
  replace hF := hrely hF hR
  clear hR
  go_simp
  refine hK _ ⟨?_, ?_⟩
  · rw [listed_nil (by simp [go_sem])]; exact DH.read evs_none
  clear hK K
  try walk_nrm
  co_apply opsT_look rfl (by rfl)
  intro _ hR K hK
  replace hF := hrely hF hR
  clear hR
  go_simp
  refine hK _ ⟨?_, ?_⟩
  · rw [listed_nil (by simp [go_sem])]; exact DH.read evs_none
  clear hK K
  try walk_nrm
  co_apply opsT_look rfl (by rfl)
  intro _ hR K hK
  replace hF := hrely hF hR
  clear hR
  go_simp
  refine hK _ ⟨?_, ?_⟩
  · rw [listed_nil (by simp [go_sem])]; exact DH.read evs_none
  clear hK K
  try walk_nrm
  co_apply opsT_look rfl (by rfl)
  intro _ hR K hK
  replace hF := hrely hF hR
  clear hR
  go_simp
  refine hK _ ⟨?_, ?_⟩
  · rw [listed_nil (by simp [go_sem])]; exact DH.read evs_none
  clear hK K
  try walk_nrm
  co_apply opsT_look rfl (by rfl)
  intro _ hR K hK
  replace hF := hrely hF hR
  clear hR
  go_simp
  refine hK _ ⟨?_, ?_⟩
  · rw [listed_nil (by simp [go_sem])]; exact DH.read evs_none
  clear hK K
  try walk_nrm
  co_apply opsT_nil fairH
  simp only [Exit.then, Exit.inBlock, if_true, if_false, reduceIte, Nat.reduceEqDiff]
  co_apply codeT_cond fairH
  focus exact rfl
  simp only [if_true, if_false, reduceIte, Bool.false_eq_true]
  first | co_apply codeT_seq fairH | co_apply codeT_block fairH | co_apply codeT_skip fairH | co_apply codeT_label fairH | co_apply codeT_ret fairH | co_apply codeT_exit fairH | co_apply opsT_nil fairH
  simp only [Exit.then, Exit.inBlock, if_true, if_false, reduceIte, Nat.reduceEqDiff]
  first | co_apply codeT_seq fairH | co_apply codeT_block fairH | co_apply codeT_skip fairH | co_apply codeT_label fairH | co_apply codeT_ret fairH | co_apply codeT_exit fairH | co_apply opsT_nil fairH
  co_apply codeT_region fairH
  simp only [List.size_toArray, List.length_cons, List.length_nil, Nat.reduceAdd, Nat.zero_add, List.range, List.range.loop]
  co_apply opsT_cons_k rfl (by rfl)
  intro w1 hR K hK
  replace hF := hrely hF hR
  clear hR
  go_simp
  refine hK _ _ ⟨?_, ?_⟩
  · rw [listed_nil (by simp [go_sem, hme])]; exact DH.alloc _ evs_none
  clear hK K
  try walk_nrm
  have hW := hF.made (S' := more S w1 (w1.alloc (.cells (madeCells #[.int .i64 0, .int .i64 0] 24) 82))) (madeCells #[.int .i64 0, .int .i64 0] 24) (by simp [madeCells]) (more_alloc S w1 _)
  clear hF
  generalize (w1.alloc (.cells (madeCells #[.int .i64 0, .int .i64 0] 24) 82)) = w2 at *
  generalize more S w1 w2 = S2 at *
  generalize w1.heap.size = g at *
  clear hrely
  have hrely : ∀ {g m : Nat} {S : Bag} {w w₁ : World}, HW B0 Low Shr g m S w → RH Low Shr Lv S w w₁ → HW B0 Low Shr g m S w₁ := fun h r => h.rely r
  have hF := hW
  clear hW
  co_apply opsT_look rfl (by rfl)
  intro _ hR K hK
  replace hF := hrely hF hR
  clear hR
  go_simp
  refine hK _ ⟨?_, ?_⟩
  · rw [listed_nil (by simp [go_sem])]; exact DH.read evs_none
  clear hK K
  try walk_nrm
  co_apply opsT_nil fairH
  simp only [Exit.then, Exit.inBlock, if_true, if_false, reduceIte, Nat.reduceEqDiff]
  first | co_apply codeT_seq fairH | co_apply codeT_block fairH | co_apply codeT_skip fairH | co_apply codeT_label fairH | co_apply codeT_ret fairH | co_apply codeT_exit fairH | co_apply opsT_nil fairH
  first | co_apply codeT_seq fairH | co_apply codeT_block fairH | co_apply codeT_skip fairH | co_apply codeT_label fairH | co_apply codeT_ret fairH | co_apply codeT_exit fairH | co_apply opsT_nil fairH
  co_apply codeT_region fairH
  simp only [List.size_toArray, List.length_cons, List.length_nil, Nat.reduceAdd, Nat.zero_add, List.range, List.range.loop]
  co_apply opsT_look rfl (by rfl)
  intro _ hR K hK
  replace hF := hrely hF hR
  clear hR
  go_simp
  refine hK _ ⟨?_, ?_⟩
  · rw [listed_nil (by simp [go_sem])]; exact DH.read evs_none
  clear hK K
  try walk_nrm
  co_apply opsT_nil fairH
  simp only [Exit.then, Exit.inBlock, if_true, if_false, reduceIte, Nat.reduceEqDiff]
  first | co_apply codeT_seq fairH | co_apply codeT_block fairH | co_apply codeT_skip fairH | co_apply codeT_label fairH | co_apply codeT_ret fairH | co_apply codeT_exit fairH | co_apply opsT_nil fairH
  co_apply codeT_loop fairH (fun S a w => ∃ (k y : Nat) (x1 x6 x7 x8 x9 x10 x11 x12 x13 x14 x15 x16 x17 x18 x19 x20 x21 x22 x23 x24 : Value), a = ⟨#[.int .i64 (y : Nat), x1, .slice none 0 0, .bool false, stmV g (lens n k), .int .i64 (k : Nat), x6, x7, x8, x9, x10, x11, x12, x13, x14, x15, x16, x17, x18, x19, x20, x21, x22, x23, x24], []⟩ ∧ k ≤ 4 ∧ Hid (y = n / 10 ^ k) ∧ HW B0 Low Shr g (lens n k) S w) (fun a => 4 - (intOf (a.tmps.getD 5 undef)).toNat) (N := 4)
  case h₀ => exact ⟨0, n, _, _, _, _, _, _, _, _, _, _, _, _, _, _, _, _, _, _, _, _, rfl, by omega, Lib.hid (by simp), hF⟩
  case hN => exact Nat.sub_le _ _
  clear hF
  rintro S a w ⟨k, y, x1, x6, x7, x8, x9, x10, x11, x12, x13, x14, x15, x16, x17, x18, x19, x20, x21, x22, x23, x24, rfl, hk, Hy, hF⟩
  by_cases hlt : k < 4
  · have hk3 : (k : Int) ≤ 3 := by omega
    have Hy2 : Hid (y / 10 = n / 10 ^ (k + 1)) := Lib.hid (by rw [Hy.out, Nat.pow_succ, Nat.div_div_eq_div_mul])
    have em : Int.tmod (y : Int) 10 = ((y % 10 : Nat) : Int) := rfl
    have ed : Int.tdiv (y : Int) 10 = ((y / 10 : Nat) : Int) := rfl
    have hym : y % 10 < 10 := Nat.mod_lt _ (by omega)
    have hle : lens n k + (kds (y % 10)).length ≤ 12 := by
      have := lens_le n (k + 1)
      rw [show lens n (k + 1) = lens n k + (kds (n / 10 ^ k % 10)).length from rfl, ← Hy.out] at this
      omega
    have Hst : Hid (lens n (k + 1) = lens n k + (kds (y % 10)).length) := Lib.hid (by rw [Hy.out]; rfl)
    have hy9 : y ≤ 9999 := by rw [Hy.out]; exact Nat.le_trans (Nat.div_le_self _ _) hn
    have hwr : IntKind.i64.wrap ((k : Int) + 1) = (k : Int) + 1 := by rw [IntKind.wrap_i64]; omega
    have hwy : IntKind.i64.wrap ((y / 10 : Nat) : Int) = ((y / 10 : Nat) : Int) := by rw [IntKind.wrap_i64]; omega
    generalize hymq : y % 10 = ym at *
    generalize hydq : y / 10 = yd at *
    clear hymq hydq
    first | co_apply codeT_seq fairH | co_apply codeT_block fairH | co_apply codeT_skip fairH | co_apply codeT_label fairH | co_apply codeT_ret fairH | co_apply codeT_exit fairH | co_apply opsT_nil fairH
    first | co_apply codeT_seq fairH | co_apply codeT_block fairH | co_apply codeT_skip fairH | co_apply codeT_label fairH | co_apply codeT_ret fairH | co_apply codeT_exit fairH | co_apply opsT_nil fairH
    co_apply codeT_region fairH
    simp only [List.size_toArray, List.length_cons, List.length_nil, Nat.reduceAdd, Nat.zero_add, List.range, List.range.loop]
    co_apply opsT_look rfl (by rfl)
    intro _ hR K hK
    replace hF := hrely hF hR
    clear hR
    go_simp
    refine hK _ ⟨?_, ?_⟩
    · rw [listed_nil (by simp [go_sem])]; exact DH.read evs_none
    clear hK K
    try walk_nrm
    co_apply opsT_look rfl (by rfl)
    intro _ hR K hK
    replace hF := hrely hF hR
    clear hR
    go_simp
    refine hK _ ⟨?_, ?_⟩
    · rw [listed_nil (by simp [go_sem])]; exact DH.read evs_none
    clear hK K
    try walk_nrm
    co_apply opsT_nil fairH
    simp only [Exit.then, Exit.inBlock, if_true, if_false, reduceIte, Nat.reduceEqDiff]
    co_apply codeT_cond fairH
    focus exact rfl
    simp only [if_true, if_false, reduceIte, Bool.false_eq_true]
    first | co_apply codeT_seq fairH | co_apply codeT_block fairH | co_apply codeT_skip fairH | co_apply codeT_label fairH | co_apply codeT_ret fairH | co_apply codeT_exit fairH | co_apply opsT_nil fairH
    simp only [Exit.then, Exit.inBlock, if_true, if_false, reduceIte, Nat.reduceEqDiff]
    first | co_apply codeT_seq fairH | co_apply codeT_block fairH | co_apply codeT_skip fairH | co_apply codeT_label fairH | co_apply codeT_ret fairH | co_apply codeT_exit fairH | co_apply opsT_nil fairH
    first | co_apply codeT_seq fairH | co_apply codeT_block fairH | co_apply codeT_skip fairH | co_apply codeT_label fairH | co_apply codeT_ret fairH | co_apply codeT_exit fairH | co_apply opsT_nil fairH
    first | co_apply codeT_seq fairH | co_apply codeT_block fairH | co_apply codeT_skip fairH | co_apply codeT_label fairH | co_apply codeT_ret fairH | co_apply codeT_exit fairH | co_apply opsT_nil fairH
    co_apply codeT_region fairH
    simp only [List.size_toArray, List.length_cons, List.length_nil, Nat.reduceAdd, Nat.zero_add, List.range, List.range.loop]
    co_apply opsT_look rfl (by rfl)
    intro _ hR K hK
    replace hF := hrely hF hR
    clear hR
    go_simp
    refine hK _ ⟨?_, ?_⟩
    · rw [listed_nil (by simp [go_sem])]; exact DH.read evs_none
    clear hK K
    try walk_nrm
    co_apply opsT_look rfl (by rfl)
    intro _ hR K hK
    replace hF := hrely hF hR
    clear hR
    go_simp
    refine hK _ ⟨?_, ?_⟩
    · rw [listed_nil (by simp [go_sem])]; exact DH.read evs_none
    clear hK K
    try walk_nrm
    co_apply opsT_look rfl (by rfl)
    intro _ hR K hK
    replace hF := hrely hF hR
    clear hR
    go_simp
    refine hK _ ⟨?_, ?_⟩
    · rw [listed_nil (by simp [go_sem])]; exact DH.read evs_none
    clear hK K
    try walk_nrm
    co_apply opsT_look rfl (by rfl)
    intro _ hR K hK
    replace hF := hrely hF hR
    clear hR
    go_simp
    refine hK _ ⟨?_, ?_⟩
    · rw [listed_nil (by simp [go_sem])]; exact DH.read evs_none
    clear hK K
    try walk_nrm
    co_apply opsT_call_at fairH rfl (by rfl) rfl (hwd k ym (lens n k) hlt hym hle g S _ hF) (by walk_nrm)
    rintro S' v w' ⟨rfl, hF⟩
    try walk_nrm
    rw [← Hst.out] at hF ⊢
    clear em
    co_apply opsT_look rfl (by rfl)
    intro _ hR K hK
    replace hF := hrely hF hR
    clear hR
    go_simp
    refine hK _ ⟨?_, ?_⟩
    · rw [listed_nil (by simp [go_sem])]; exact DH.read evs_none
    clear hK K
    try walk_nrm
    co_apply opsT_nil fairH
    simp only [Exit.then, Exit.inBlock, if_true, if_false, reduceIte, Nat.reduceEqDiff]
    co_apply codeT_region fairH
    simp only [List.size_toArray, List.length_cons, List.length_nil, Nat.reduceAdd, Nat.zero_add, List.range, List.range.loop]
    co_apply opsT_look rfl (by rfl)
    intro _ hR K hK
    replace hF := hrely hF hR
    clear hR
    go_simp
    refine hK _ ⟨?_, ?_⟩
    · rw [listed_nil (by simp [go_sem])]; exact DH.read evs_none
    clear hK K
    try walk_nrm
    co_apply opsT_look rfl (by rfl)
    intro _ hR K hK
    replace hF := hrely hF hR
    clear hR
    go_simp
    refine hK _ ⟨?_, ?_⟩
    · rw [listed_nil (by simp [go_sem])]; exact DH.read evs_none
    clear hK K
    try walk_nrm
    co_apply opsT_look rfl (by rfl)
    intro _ hR K hK
    replace hF := hrely hF hR
    clear hR
    go_simp
    refine hK _ ⟨?_, ?_⟩
    · rw [listed_nil (by simp [go_sem])]; exact DH.read evs_none
    clear hK K
    try walk_nrm
    co_apply opsT_nil fairH
    simp only [Exit.then, Exit.inBlock, if_true, if_false, reduceIte, Nat.reduceEqDiff]
    co_apply codeT_region fairH
    simp only [List.size_toArray, List.length_cons, List.length_nil, Nat.reduceAdd, Nat.zero_add, List.range, List.range.loop]
    co_apply opsT_look rfl (by rfl)
    intro _ hR K hK
    replace hF := hrely hF hR
    clear hR
    go_simp
    refine hK _ ⟨?_, ?_⟩
    · rw [listed_nil (by simp [go_sem])]; exact DH.read evs_none
    clear hK K
    try walk_nrm
    co_apply opsT_look rfl (by rfl)
    intro _ hR K hK
    replace hF := hrely hF hR
    clear hR
    go_simp
    refine hK _ ⟨?_, ?_⟩
    · rw [listed_nil (by simp [go_sem])]; exact DH.read evs_none
    clear hK K
    try walk_nrm
    co_apply opsT_look rfl (by rfl)
    intro _ hR K hK
    replace hF := hrely hF hR
    clear hR
    go_simp
    refine hK _ ⟨?_, ?_⟩
    · rw [listed_nil (by simp [go_sem])]; exact DH.read evs_none
    clear hK K
    try walk_nrm
    co_apply opsT_nil fairH
    simp only [Exit.then, Exit.inBlock, if_true, if_false, reduceIte, Nat.reduceEqDiff]
    exact ⟨⟨k + 1, yd, _, _, _, _, _, _, _, _, _, _, _, _, _, _, _, _, _, _, _, _, by first | rfl | (rw [hwr]; rfl), by omega, Hy2, hF⟩, by simp [intOf, hwr]; omega⟩
  · obtain rfl : k = 4 := by omega
    co_apply codeT_more
    first | co_apply codeT_seq fairH | co_apply codeT_block fairH | co_apply codeT_skip fairH | co_apply codeT_label fairH | co_apply codeT_ret fairH | co_apply codeT_exit fairH | co_apply opsT_nil fairH
    first | co_apply codeT_seq fairH | co_apply codeT_block fairH | co_apply codeT_skip fairH | co_apply codeT_label fairH | co_apply codeT_ret fairH | co_apply codeT_exit fairH | co_apply opsT_nil fairH
    co_apply codeT_region fairH
    simp only [List.size_toArray, List.length_cons, List.length_nil, Nat.reduceAdd, Nat.zero_add, List.range, List.range.loop]
    co_apply opsT_look rfl (by rfl)
    intro _ hR K hK
    replace hF := hrely hF hR
    clear hR
    go_simp
    refine hK _ ⟨?_, ?_⟩
    · rw [listed_nil (by simp [go_sem])]; exact DH.read evs_none
    clear hK K
    try walk_nrm
    co_apply opsT_look rfl (by rfl)
    intro _ hR K hK
    replace hF := hrely hF hR
    clear hR
    go_simp
    refine hK _ ⟨?_, ?_⟩
    · rw [listed_nil (by simp [go_sem])]; exact DH.read evs_none
    clear hK K
    try walk_nrm
    co_apply opsT_nil fairH
    simp only [Exit.then, Exit.inBlock, if_true, if_false, reduceIte, Nat.reduceEqDiff]
    co_apply codeT_cond fairH
    focus exact rfl
    simp only [if_true, if_false, reduceIte, Bool.false_eq_true]
    first | co_apply codeT_seq fairH | co_apply codeT_block fairH | co_apply codeT_skip fairH | co_apply codeT_label fairH | co_apply codeT_ret fairH | co_apply codeT_exit fairH | co_apply opsT_nil fairH
    simp only [Exit.then, Exit.inBlock, if_true, if_false, reduceIte, Nat.reduceEqDiff]
    first | co_apply codeT_seq fairH | co_apply codeT_block fairH | co_apply codeT_skip fairH | co_apply codeT_label fairH | co_apply codeT_ret fairH | co_apply codeT_exit fairH | co_apply opsT_nil fairH
    co_apply codeT_region fairH
    simp only [List.size_toArray, List.length_cons, List.length_nil, Nat.reduceAdd, Nat.zero_add, List.range, List.range.loop]
    co_apply opsT_look rfl (by rfl)
    intro _ hR K hK
    replace hF := hrely hF hR
    clear hR
    go_simp
    refine hK _ ⟨?_, ?_⟩
    · rw [listed_nil (by simp [go_sem])]; exact DH.read evs_none
    clear hK K
    try walk_nrm
    co_apply opsT_look rfl (by rfl)
    intro _ hR K hK
    replace hF := hrely hF hR
    clear hR
    go_simp
    refine hK _ ⟨?_, ?_⟩
    · rw [listed_nil (by simp [go_sem])]; exact DH.read evs_none
    clear hK K
    try walk_nrm
    co_apply opsT_look rfl (by rfl)
    intro _ hR K hK
    replace hF := hrely hF hR
    clear hR
    go_simp
    refine hK _ ⟨?_, ?_⟩
    · rw [listed_nil (by simp [go_sem])]; exact DH.read evs_none
    clear hK K
    try walk_nrm
    co_apply opsT_nil fairH
    simp only [Exit.then, Exit.inBlock, if_true, if_false, reduceIte, Nat.reduceEqDiff]
    first | co_apply codeT_seq fairH | co_apply codeT_block fairH | co_apply codeT_skip fairH | co_apply codeT_label fairH | co_apply codeT_ret fairH | co_apply codeT_exit fairH | co_apply opsT_nil fairH
    exact ⟨rfl, _, resultsC_tmp2 (by rfl) _, ⟨g, by first | rfl | simp⟩, hF.ht⟩
    exact Nat.le_trans (Nat.le_refl (1 + 1 + 1 + 1 + (1 + 1) + 1 + 0 + 1)) (by omega)
end Go.Proofs.YtmphfdibijbjeaaDoor

