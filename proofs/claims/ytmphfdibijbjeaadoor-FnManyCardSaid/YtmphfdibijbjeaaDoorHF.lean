/- The program's chapter 7 in company: countThousand (printed by genhf.py and genh.py). -/
import Derived.Test.YtmphfdibijbjeaaDoorHD
namespace Go.Proofs.YtmphfdibijbjeaaDoor
open Go.Conc Go.RowKit
set_option linter.unusedSimpArgs false
set_option linter.unusedVariables false
set_option maxRecDepth 100000
variable {main : Bool} {B0 Low : Nat} {Shr : Nat → Prop} {Lv : World → Prop}
/-- how many of i numbers from a on have x strokes -/
def cntR (x : Int) (a : Nat) : Nat → Nat
  | 0 => 0
  | i + 1 => cntR x a i + if (lens (a + i) 4 : Int) = x then 1 else 0
set_option maxHeartbeats 4000000 in
theorem countThousandT : ∃ N, ∀ (d : Nat) (x : Int), d < 10 → ∀ (S : Bag) (w : World), HT B0 Low Shr S w →
    CallsT Tryd.prog main (RH Low Shr Lv) (DH Low Shr) 17 #[.int .i64 (d : Nat), .int .i64 x] N S w fun S' v w' => v = .int .i64 (cntR x (1000 * d) 1000 : Nat) ∧ HT B0 Low Shr S' w' := by
  obtain ⟨Ns, hst⟩ := stemOfT (main := main) (B0 := B0) (Low := Low) (Shr := Shr) (Lv := Lv)
  co_apply Exists.intro
  intro d x hd S w hF
  have hrely : ∀ {S : Bag} {w w₁ : World}, HT B0 Low Shr S w → RH Low Shr Lv S w w₁ → HT B0 Low Shr S w₁ := fun h r => h.rely r
  have hA1 : IntKind.i64.wrap (1000 * (d : Int)) = ((1000 * d : Nat) : Int) := by rw [IntKind.wrap_i64]; omega
  obtain ⟨D1, hD1⟩ : ∃ D1 : Int, D1 = (d : Int) + 1 := ⟨_, rfl⟩
  have hA2 : IntKind.i64.wrap ((d : Int) + 1) = D1 := by rw [IntKind.wrap_i64]; omega
  obtain ⟨E1, hE1⟩ : ∃ E1 : Int, E1 = 1000 * (d : Int) + 1000 := ⟨_, rfl⟩
  have hA3 : IntKind.i64.wrap (1000 * D1) = E1 := by rw [IntKind.wrap_i64]; omega
  have HE1 := Lib.hid hE1
  obtain ⟨a0, ha0⟩ : ∃ a0 : Nat, a0 = 1000 * d := ⟨_, rfl⟩
  rw [← ha0] at hA1
  have Ha0 := Lib.hid ha0
  clear hD1 hE1 ha0
  refine ⟨_, _, Tryd.func17, rfl, rfl, ?_⟩
  simp only [Tryd.ntmps17, List.size_toArray, List.length_cons, List.length_nil, Nat.reduceAdd, Nat.reduceSub, Array.replicate_succ, Array.replicate_zero, List.push_toArray, List.append_toArray, List.nil_append, List.cons_append]
  first | co_apply codeT_seq fairH | co_apply codeT_block fairH | co_apply codeT_skip fairH | co_apply codeT_label fairH | co_apply codeT_ret fairH | co_apply codeT_exit fairH | co_apply opsT_nil fairH
  co_apply codeT_region fairH
  simp only [List.size_toArray, List.length_cons, List.length_nil, Nat.reduceAdd, Nat.zero_add, List.range, List.range.loop]
  co_apply opsT_look rfl (by rfl)
  intro _ hR K hK
  replace hF := hrely hF hR
  clear hR
  go_simp
  refine hK _ ⟨?_, ?_⟩
  · rw [listed_nil (by simp [go_sem])]; exact DH.read evs_none
  clear hK K
  try walk_nrm
  co_apply opsT_nil fairH
  simp only [Exit.then, Exit.inBlock, if_true, if_false, reduceIte, Nat.reduceEqDiff]
  first | co_apply codeT_seq fairH | co_apply codeT_block fairH | co_apply codeT_skip fairH | co_apply codeT_label fairH | co_apply codeT_ret fairH | co_apply codeT_exit fairH | co_apply opsT_nil fairH
  co_apply codeT_region fairH
  simp only [List.size_toArray, List.length_cons, List.length_nil, Nat.reduceAdd, Nat.zero_add, List.range, List.range.loop]
  co_apply opsT_look rfl (by rfl)
  intro _ hR K hK
  replace hF := hrely hF hR
  clear hR
  go_simp
  refine hK _ ⟨?_, ?_⟩
  · rw [listed_nil (by simp [go_sem])]; exact DH.read evs_none
  clear hK K
  try walk_nrm
  co_apply opsT_nil fairH
  simp only [Exit.then, Exit.inBlock, if_true, if_false, reduceIte, Nat.reduceEqDiff]
  first | co_apply codeT_seq fairH | co_apply codeT_block fairH | co_apply codeT_skip fairH | co_apply codeT_label fairH | co_apply codeT_ret fairH | co_apply codeT_exit fairH | co_apply opsT_nil fairH
  first | co_apply codeT_seq fairH | co_apply codeT_block fairH | co_apply codeT_skip fairH | co_apply codeT_label fairH | co_apply codeT_ret fairH | co_apply codeT_exit fairH | co_apply opsT_nil fairH
  co_apply codeT_region fairH
  simp only [List.size_toArray, List.length_cons, List.length_nil, Nat.reduceAdd, Nat.zero_add, List.range, List.range.loop]
  co_apply opsT_look rfl (by rfl)
  intro _ hR K hK
  replace hF := hrely hF hR
  clear hR
  go_simp
  refine hK _ ⟨?_, ?_⟩
  · rw [listed_nil (by simp [go_sem])]; exact DH.read evs_none
  clear hK K
  try walk_nrm
  co_apply opsT_look rfl (by rfl)
  intro _ hR K hK
  replace hF := hrely hF hR
  clear hR
  go_simp
  refine hK _ ⟨?_, ?_⟩
  · rw [listed_nil (by simp [go_sem])]; exact DH.read evs_none
  clear hK K
  try walk_nrm
  co_apply opsT_look rfl (by rfl)
  intro _ hR K hK
  replace hF := hrely hF hR
  clear hR
  go_simp
  refine hK _ ⟨?_, ?_⟩
  · rw [listed_nil (by simp [go_sem])]; exact DH.read evs_none
  clear hK K
  try walk_nrm
  co_apply opsT_nil fairH
  simp only [Exit.then, Exit.inBlock, if_true, if_false, reduceIte, Nat.reduceEqDiff]
  first | co_apply codeT_seq fairH | co_apply codeT_block fairH | co_apply codeT_skip fairH | co_apply codeT_label fairH | co_apply codeT_ret fairH | co_apply codeT_exit fairH | co_apply opsT_nil fairH
  co_apply codeT_loop fairH (fun S a w => ∃ (i m c : Nat) (x2 x3 x7 x8 x9 x10 x11 x12 x13 x14 x15 x16 x17 x18 x19 x20 x21 x22 x23 x24 x25 x26 x27 x28 x29 x30 x31 x32 : Value), a = ⟨#[.int .i64 (d : Nat), .int .i64 x, x2, x3, .int .i64 0, .int .i64 (c : Nat), .int .i64 (m : Nat), x7, x8, x9, x10, x11, x12, x13, x14, x15, x16, x17, x18, x19, x20, x21, x22, x23, x24, x25, x26, x27, x28, x29, x30, x31, x32], []⟩ ∧ i ≤ 1000 ∧ c ≤ i ∧ Hid (m = 1000 * d + i) ∧ Hid (c = cntR x (1000 * d) i) ∧ HT B0 Low Shr S w) (fun a => 10000 - (intOf (a.tmps.getD 6 undef)).toNat) (N := 10000)
  case h₀ => exact ⟨0, a0, 0, _, _, _, _, _, _, _, _, _, _, _, _, _, _, _, _, _, _, _, _, _, _, _, _, _, _, _, _, rfl, by omega, by omega, Lib.hid (by rw [Ha0.out]; rfl), Lib.hid rfl, hF⟩
  case hN => exact Nat.sub_le _ _
  clear hF
  rintro S a w ⟨i, m, c, x2, x3, x7, x8, x9, x10, x11, x12, x13, x14, x15, x16, x17, x18, x19, x20, x21, x22, x23, x24, x25, x26, x27, x28, x29, x30, x31, x32, rfl, hi, hc, Hm, Hc, hF⟩
  by_cases hlt : i < 1000
  · have hmE : (m : Int) < E1 := by rw [HE1.out, Hm.out]; omega
    have hm9 : m ≤ 9999 := by rw [Hm.out]; omega
    have hstm := hst m hm9
    have Hst : Hid (cntR x (1000 * d) (i + 1) = cntR x (1000 * d) i + if (lens m 4 : Int) = x then 1 else 0) := Lib.hid (by rw [Hm.out]; rfl)
    rw [← Hc.out] at Hst
    have hwm : IntKind.i64.wrap ((m : Int) + 1) = (m : Int) + 1 := by rw [IntKind.wrap_i64]; omega
    have hwc : IntKind.i64.wrap ((c : Int) + 1) = (c : Int) + 1 := by rw [IntKind.wrap_i64]; omega
    have HM2 : Hid (m + 1 = 1000 * d + (i + 1)) := Lib.hid (by rw [Hm.out]; omega)
    generalize lens m 4 = L at *
    by_cases hx : (L : Int) = x
    · have hb : ((L : Int) == x) = true := by rw [beq_iff_eq]; exact hx
      rw [if_pos hx] at Hst
      clear hx
      first | co_apply codeT_seq fairH | co_apply codeT_block fairH | co_apply codeT_skip fairH | co_apply codeT_label fairH | co_apply codeT_ret fairH | co_apply codeT_exit fairH | co_apply opsT_nil fairH
      first | co_apply codeT_seq fairH | co_apply codeT_block fairH | co_apply codeT_skip fairH | co_apply codeT_label fairH | co_apply codeT_ret fairH | co_apply codeT_exit fairH | co_apply opsT_nil fairH
      co_apply codeT_region fairH
      simp only [List.size_toArray, List.length_cons, List.length_nil, Nat.reduceAdd, Nat.zero_add, List.range, List.range.loop]
      co_apply opsT_look rfl (by rfl)
      intro _ hR K hK
      replace hF := hrely hF hR
      clear hR
      go_simp
      refine hK _ ⟨?_, ?_⟩
      · rw [listed_nil (by simp [go_sem])]; exact DH.read evs_none
      clear hK K
      try walk_nrm
      co_apply opsT_look rfl (by rfl)
      intro _ hR K hK
      replace hF := hrely hF hR
      clear hR
      go_simp
      refine hK _ ⟨?_, ?_⟩
      · rw [listed_nil (by simp [go_sem])]; exact DH.read evs_none
      clear hK K
      try walk_nrm
      co_apply opsT_look rfl (by rfl)
      intro _ hR K hK
      replace hF := hrely hF hR
      clear hR
      go_simp
      refine hK _ ⟨?_, ?_⟩
      · rw [listed_nil (by simp [go_sem])]; exact DH.read evs_none
      clear hK K
      try walk_nrm
      co_apply opsT_look rfl (by rfl)
      intro _ hR K hK
      replace hF := hrely hF hR
      clear hR
      go_simp
      refine hK _ ⟨?_, ?_⟩
      · rw [listed_nil (by simp [go_sem])]; exact DH.read evs_none
      clear hK K
      try walk_nrm
      co_apply opsT_look rfl (by rfl)
      intro _ hR K hK
      replace hF := hrely hF hR
      clear hR
      go_simp
      refine hK _ ⟨?_, ?_⟩
      · rw [listed_nil (by simp [go_sem])]; exact DH.read evs_none
      clear hK K
      try walk_nrm
      co_apply opsT_nil fairH
      simp only [Exit.then, Exit.inBlock, if_true, if_false, reduceIte, Nat.reduceEqDiff]
      co_apply codeT_cond fairH
      focus exact rfl
      simp only [if_true, if_false, reduceIte, Bool.false_eq_true]
      first | co_apply codeT_seq fairH | co_apply codeT_block fairH | co_apply codeT_skip fairH | co_apply codeT_label fairH | co_apply codeT_ret fairH | co_apply codeT_exit fairH | co_apply opsT_nil fairH
      simp only [Exit.then, Exit.inBlock, if_true, if_false, reduceIte, Nat.reduceEqDiff]
      first | co_apply codeT_seq fairH | co_apply codeT_block fairH | co_apply codeT_skip fairH | co_apply codeT_label fairH | co_apply codeT_ret fairH | co_apply codeT_exit fairH | co_apply opsT_nil fairH
      first | co_apply codeT_seq fairH | co_apply codeT_block fairH | co_apply codeT_skip fairH | co_apply codeT_label fairH | co_apply codeT_ret fairH | co_apply codeT_exit fairH | co_apply opsT_nil fairH
      first | co_apply codeT_seq fairH | co_apply codeT_block fairH | co_apply codeT_skip fairH | co_apply codeT_label fairH | co_apply codeT_ret fairH | co_apply codeT_exit fairH | co_apply opsT_nil fairH
      co_apply codeT_region fairH
      simp only [List.size_toArray, List.length_cons, List.length_nil, Nat.reduceAdd, Nat.zero_add, List.range, List.range.loop]
      co_apply opsT_look rfl (by rfl)
      intro _ hR K hK
      replace hF := hrely hF hR
      clear hR
      go_simp
      refine hK _ ⟨?_, ?_⟩
      · rw [listed_nil (by simp [go_sem])]; exact DH.read evs_none
      clear hK K
      try walk_nrm
      co_apply opsT_call_at fairH rfl (by rfl) rfl (hstm S _ hF) (by walk_nrm)
      rintro S' v w' ⟨⟨g, rfl⟩, hF⟩
      try walk_nrm
      co_apply opsT_look rfl (by rfl)
      intro _ hR K hK
      replace hF := hrely hF hR
      clear hR
      go_simp
      refine hK _ ⟨?_, ?_⟩
      · rw [listed_nil (by simp [go_sem])]; exact DH.read evs_none
      clear hK K
      try walk_nrm
      co_apply opsT_look rfl (by rfl)
      intro _ hR K hK
      replace hF := hrely hF hR
      clear hR
      go_simp
      refine hK _ ⟨?_, ?_⟩
      · rw [listed_nil (by simp [go_sem])]; exact DH.read evs_none
      clear hK K
      try walk_nrm
      co_apply opsT_look rfl (by rfl)
      intro _ hR K hK
      replace hF := hrely hF hR
      clear hR
      go_simp
      refine hK _ ⟨?_, ?_⟩
      · rw [listed_nil (by simp [go_sem])]; exact DH.read evs_none
      clear hK K
      try walk_nrm
      co_apply opsT_look rfl (by rfl)
      intro _ hR K hK
      replace hF := hrely hF hR
      clear hR
      go_simp
      refine hK _ ⟨?_, ?_⟩
      · rw [listed_nil (by simp [go_sem])]; exact DH.read evs_none
      clear hK K
      try walk_nrm
      co_apply opsT_look rfl (by rfl)
      intro _ hR K hK
      replace hF := hrely hF hR
      clear hR
      go_simp
      refine hK _ ⟨?_, ?_⟩
      · rw [listed_nil (by simp [go_sem])]; exact DH.read evs_none
      clear hK K
      try walk_nrm
      co_apply opsT_nil fairH
      simp only [Exit.then, Exit.inBlock, if_true, if_false, reduceIte, Nat.reduceEqDiff]
      first | co_apply codeT_seq fairH | co_apply codeT_block fairH | co_apply codeT_skip fairH | co_apply codeT_label fairH | co_apply codeT_ret fairH | co_apply codeT_exit fairH | co_apply opsT_nil fairH
      co_apply codeT_region fairH
      simp only [List.size_toArray, List.length_cons, List.length_nil, Nat.reduceAdd, Nat.zero_add, List.range, List.range.loop]
      co_apply opsT_look rfl (by rfl)
      intro _ hR K hK
      replace hF := hrely hF hR
      clear hR
      go_simp
      refine hK _ ⟨?_, ?_⟩
      · rw [listed_nil (by simp [go_sem])]; exact DH.read evs_none
      clear hK K
      try walk_nrm
      co_apply opsT_look rfl (by rfl)
      intro _ hR K hK
      replace hF := hrely hF hR
      clear hR
      go_simp
      refine hK _ ⟨?_, ?_⟩
      · rw [listed_nil (by simp [go_sem])]; exact DH.read evs_none
      clear hK K
      try walk_nrm
      co_apply opsT_look rfl (by rfl)
      intro _ hR K hK
      replace hF := hrely hF hR
      clear hR
      go_simp
      refine hK _ ⟨?_, ?_⟩
      · rw [listed_nil (by simp [go_sem])]; exact DH.read evs_none
      clear hK K
      try walk_nrm
      co_apply opsT_look rfl (by rfl)
      intro _ hR K hK
      replace hF := hrely hF hR
      clear hR
      go_simp
      refine hK _ ⟨?_, ?_⟩
      · rw [listed_nil (by simp [go_sem])]; exact DH.read evs_none
      clear hK K
      try walk_nrm
      co_apply opsT_look rfl (by rfl)
      intro _ hR K hK
      replace hF := hrely hF hR
      clear hR
      go_simp
      refine hK _ ⟨?_, ?_⟩
      · rw [listed_nil (by simp [go_sem])]; exact DH.read evs_none
      clear hK K
      try walk_nrm
      co_apply opsT_look rfl (by rfl)
      intro _ hR K hK
      replace hF := hrely hF hR
      clear hR
      go_simp
      refine hK _ ⟨?_, ?_⟩
      · rw [listed_nil (by simp [go_sem])]; exact DH.read evs_none
      clear hK K
      try walk_nrm
      co_apply opsT_look rfl (by rfl)
      intro _ hR K hK
      replace hF := hrely hF hR
      clear hR
      go_simp
      refine hK _ ⟨?_, ?_⟩
      · rw [listed_nil (by simp [go_sem])]; exact DH.read evs_none
      clear hK K
      try walk_nrm
      co_apply opsT_nil fairH
      simp only [Exit.then, Exit.inBlock, if_true, if_false, reduceIte, Nat.reduceEqDiff]
      co_apply codeT_cond fairH
      focus exact rfl
      simp only [if_true, if_false, reduceIte, Bool.false_eq_true]
      co_apply codeT_region fairH
      simp only [List.size_toArray, List.length_cons, List.length_nil, Nat.reduceAdd, Nat.zero_add, List.range, List.range.loop]
      co_apply opsT_look rfl (by rfl)
      intro _ hR K hK
      replace hF := hrely hF hR
      clear hR
      go_simp
      refine hK _ ⟨?_, ?_⟩
      · rw [listed_nil (by simp [go_sem])]; exact DH.read evs_none
      clear hK K
      try walk_nrm
      co_apply opsT_look rfl (by rfl)
      intro _ hR K hK
      replace hF := hrely hF hR
      clear hR
      go_simp
      refine hK _ ⟨?_, ?_⟩
      · rw [listed_nil (by simp [go_sem])]; exact DH.read evs_none
      clear hK K
      try walk_nrm
      co_apply opsT_look rfl (by rfl)
      intro _ hR K hK
      replace hF := hrely hF hR
      clear hR
      go_simp
      refine hK _ ⟨?_, ?_⟩
      · rw [listed_nil (by simp [go_sem])]; exact DH.read evs_none
      clear hK K
      try walk_nrm
      co_apply opsT_nil fairH
      simp only [Exit.then, Exit.inBlock, if_true, if_false, reduceIte, Nat.reduceEqDiff]
      co_apply codeT_region fairH
      simp only [List.size_toArray, List.length_cons, List.length_nil, Nat.reduceAdd, Nat.zero_add, List.range, List.range.loop]
      co_apply opsT_look rfl (by rfl)
      intro _ hR K hK
      replace hF := hrely hF hR
      clear hR
      go_simp
      refine hK _ ⟨?_, ?_⟩
      · rw [listed_nil (by simp [go_sem])]; exact DH.read evs_none
      clear hK K
      try walk_nrm
      co_apply opsT_look rfl (by rfl)
      intro _ hR K hK
      replace hF := hrely hF hR
      clear hR
      go_simp
      refine hK _ ⟨?_, ?_⟩
      · rw [listed_nil (by simp [go_sem])]; exact DH.read evs_none
      clear hK K
      try walk_nrm
      co_apply opsT_look rfl (by rfl)
      intro _ hR K hK
      replace hF := hrely hF hR
      clear hR
      go_simp
      refine hK _ ⟨?_, ?_⟩
      · rw [listed_nil (by simp [go_sem])]; exact DH.read evs_none
      clear hK K
      try walk_nrm
      co_apply opsT_nil fairH
      simp only [Exit.then, Exit.inBlock, if_true, if_false, reduceIte, Nat.reduceEqDiff]
      exact ⟨⟨i + 1, m + 1, c + 1, _, _, _, _, _, _, _, _, _, _, _, _, _, _, _, _, _, _, _, _, _, _, _, _, _, _, _, _, by first | rfl | (rw [hwm, hwc]; rfl), by omega, by omega, HM2, Lib.hid Hst.out.symm, hF⟩, by simp [intOf, hwm]; omega⟩
    · have hb : ((L : Int) == x) = false := by rw [beq_eq_false_iff_ne]; exact hx
      rw [if_neg hx] at Hst
      co_apply codeT_more
      first | co_apply codeT_seq fairH | co_apply codeT_block fairH | co_apply codeT_skip fairH | co_apply codeT_label fairH | co_apply codeT_ret fairH | co_apply codeT_exit fairH | co_apply opsT_nil fairH
      first | co_apply codeT_seq fairH | co_apply codeT_block fairH | co_apply codeT_skip fairH | co_apply codeT_label fairH | co_apply codeT_ret fairH | co_apply codeT_exit fairH | co_apply opsT_nil fairH
      co_apply codeT_region fairH
      simp only [List.size_toArray, List.length_cons, List.length_nil, Nat.reduceAdd, Nat.zero_add, List.range, List.range.loop]
      co_apply opsT_look rfl (by rfl)
      intro _ hR K hK
      replace hF := hrely hF hR
      clear hR
      go_simp
      refine hK _ ⟨?_, ?_⟩
      · rw [listed_nil (by simp [go_sem])]; exact DH.read evs_none
      clear hK K
      try walk_nrm
      co_apply opsT_look rfl (by rfl)
      intro _ hR K hK
      replace hF := hrely hF hR
      clear hR
      go_simp
      refine hK _ ⟨?_, ?_⟩
      · rw [listed_nil (by simp [go_sem])]; exact DH.read evs_none
      clear hK K
      try walk_nrm
      co_apply opsT_look rfl (by rfl)
      intro _ hR K hK
      replace hF := hrely hF hR
      clear hR
      go_simp
      refine hK _ ⟨?_, ?_⟩
      · rw [listed_nil (by simp [go_sem])]; exact DH.read evs_none
      clear hK K
      try walk_nrm
      co_apply opsT_look rfl (by rfl)
      intro _ hR K hK
      replace hF := hrely hF hR
      clear hR
      go_simp
      refine hK _ ⟨?_, ?_⟩
      · rw [listed_nil (by simp [go_sem])]; exact DH.read evs_none
      clear hK K
      try walk_nrm
      co_apply opsT_look rfl (by rfl)
      intro _ hR K hK
      replace hF := hrely hF hR
      clear hR
      go_simp
      refine hK _ ⟨?_, ?_⟩
      · rw [listed_nil (by simp [go_sem])]; exact DH.read evs_none
      clear hK K
      try walk_nrm
      co_apply opsT_nil fairH
      simp only [Exit.then, Exit.inBlock, if_true, if_false, reduceIte, Nat.reduceEqDiff]
      co_apply codeT_cond fairH
      focus exact rfl
      simp only [if_true, if_false, reduceIte, Bool.false_eq_true]
      first | co_apply codeT_seq fairH | co_apply codeT_block fairH | co_apply codeT_skip fairH | co_apply codeT_label fairH | co_apply codeT_ret fairH | co_apply codeT_exit fairH | co_apply opsT_nil fairH
      simp only [Exit.then, Exit.inBlock, if_true, if_false, reduceIte, Nat.reduceEqDiff]
      first | co_apply codeT_seq fairH | co_apply codeT_block fairH | co_apply codeT_skip fairH | co_apply codeT_label fairH | co_apply codeT_ret fairH | co_apply codeT_exit fairH | co_apply opsT_nil fairH
      first | co_apply codeT_seq fairH | co_apply codeT_block fairH | co_apply codeT_skip fairH | co_apply codeT_label fairH | co_apply codeT_ret fairH | co_apply codeT_exit fairH | co_apply opsT_nil fairH
      first | co_apply codeT_seq fairH | co_apply codeT_block fairH | co_apply codeT_skip fairH | co_apply codeT_label fairH | co_apply codeT_ret fairH | co_apply codeT_exit fairH | co_apply opsT_nil fairH
      co_apply codeT_region fairH
      simp only [List.size_toArray, List.length_cons, List.length_nil, Nat.reduceAdd, Nat.zero_add, List.range, List.range.loop]
      co_apply opsT_look rfl (by rfl)
      intro _ hR K hK
      replace hF := hrely hF hR
      clear hR
      go_simp
      refine hK _ ⟨?_, ?_⟩
      · rw [listed_nil (by simp [go_sem])]; exact DH.read evs_none
      clear hK K
      try walk_nrm
      co_apply opsT_call_at fairH rfl (by rfl) rfl (hstm S _ hF) (by walk_nrm)
      rintro S' v w' ⟨⟨g, rfl⟩, hF⟩
      try walk_nrm
      co_apply opsT_look rfl (by rfl)
      intro _ hR K hK
      replace hF := hrely hF hR
      clear hR
      go_simp
      refine hK _ ⟨?_, ?_⟩
      · rw [listed_nil (by simp [go_sem])]; exact DH.read evs_none
      clear hK K
      try walk_nrm
      co_apply opsT_look rfl (by rfl)
      intro _ hR K hK
      replace hF := hrely hF hR
      clear hR
      go_simp
      refine hK _ ⟨?_, ?_⟩
      · rw [listed_nil (by simp [go_sem])]; exact DH.read evs_none
      clear hK K
      try walk_nrm
      co_apply opsT_look rfl (by rfl)
      intro _ hR K hK
      replace hF := hrely hF hR
      clear hR
      go_simp
      refine hK _ ⟨?_, ?_⟩
      · rw [listed_nil (by simp [go_sem])]; exact DH.read evs_none
      clear hK K
      try walk_nrm
      co_apply opsT_look rfl (by rfl)
      intro _ hR K hK
      replace hF := hrely hF hR
      clear hR
      go_simp
      refine hK _ ⟨?_, ?_⟩
      · rw [listed_nil (by simp [go_sem])]; exact DH.read evs_none
      clear hK K
      try walk_nrm
      co_apply opsT_look rfl (by rfl)
      intro _ hR K hK
      replace hF := hrely hF hR
      clear hR
      go_simp
      refine hK _ ⟨?_, ?_⟩
      · rw [listed_nil (by simp [go_sem])]; exact DH.read evs_none
      clear hK K
      try walk_nrm
      co_apply opsT_nil fairH
      simp only [Exit.then, Exit.inBlock, if_true, if_false, reduceIte, Nat.reduceEqDiff]
      first | co_apply codeT_seq fairH | co_apply codeT_block fairH | co_apply codeT_skip fairH | co_apply codeT_label fairH | co_apply codeT_ret fairH | co_apply codeT_exit fairH | co_apply opsT_nil fairH
      co_apply codeT_region fairH
      simp only [List.size_toArray, List.length_cons, List.length_nil, Nat.reduceAdd, Nat.zero_add, List.range, List.range.loop]
      co_apply opsT_look rfl (by rfl)
      intro _ hR K hK
      replace hF := hrely hF hR
      clear hR
      go_simp
      refine hK _ ⟨?_, ?_⟩
      · rw [listed_nil (by simp [go_sem])]; exact DH.read evs_none
      clear hK K
      try walk_nrm
      co_apply opsT_look rfl (by rfl)
      intro _ hR K hK
      replace hF := hrely hF hR
      clear hR
      go_simp
      refine hK _ ⟨?_, ?_⟩
      · rw [listed_nil (by simp [go_sem])]; exact DH.read evs_none
      clear hK K
      try walk_nrm
      co_apply opsT_look rfl (by rfl)
      intro _ hR K hK
      replace hF := hrely hF hR
      clear hR
      go_simp
      refine hK _ ⟨?_, ?_⟩
      · rw [listed_nil (by simp [go_sem])]; exact DH.read evs_none
      clear hK K
      try walk_nrm
      co_apply opsT_look rfl (by rfl)
      intro _ hR K hK
      replace hF := hrely hF hR
      clear hR
      go_simp
      refine hK _ ⟨?_, ?_⟩
      · rw [listed_nil (by simp [go_sem])]; exact DH.read evs_none
      clear hK K
      try walk_nrm
      co_apply opsT_look rfl (by rfl)
      intro _ hR K hK
      replace hF := hrely hF hR
      clear hR
      go_simp
      refine hK _ ⟨?_, ?_⟩
      · rw [listed_nil (by simp [go_sem])]; exact DH.read evs_none
      clear hK K
      try walk_nrm
      co_apply opsT_look rfl (by rfl)
      intro _ hR K hK
      replace hF := hrely hF hR
      clear hR
      go_simp
      refine hK _ ⟨?_, ?_⟩
      · rw [listed_nil (by simp [go_sem])]; exact DH.read evs_none
      clear hK K
      try walk_nrm
      co_apply opsT_look rfl (by rfl)
      intro _ hR K hK
      replace hF := hrely hF hR
      clear hR
      go_simp
      refine hK _ ⟨?_, ?_⟩
      · rw [listed_nil (by simp [go_sem])]; exact DH.read evs_none
      clear hK K
      try walk_nrm
      co_apply opsT_nil fairH
      simp only [Exit.then, Exit.inBlock, if_true, if_false, reduceIte, Nat.reduceEqDiff]
      co_apply codeT_cond fairH
      focus exact rfl
      simp only [if_true, if_false, reduceIte, Bool.false_eq_true]
      first | co_apply codeT_seq fairH | co_apply codeT_block fairH | co_apply codeT_skip fairH | co_apply codeT_label fairH | co_apply codeT_ret fairH | co_apply codeT_exit fairH | co_apply opsT_nil fairH
      simp only [Exit.then, Exit.inBlock, if_true, if_false, reduceIte, Nat.reduceEqDiff]
      co_apply codeT_region fairH
      simp only [List.size_toArray, List.length_cons, List.length_nil, Nat.reduceAdd, Nat.zero_add, List.range, List.range.loop]
      co_apply opsT_look rfl (by rfl)
      intro _ hR K hK
      replace hF := hrely hF hR
      clear hR
      go_simp
      refine hK _ ⟨?_, ?_⟩
      · rw [listed_nil (by simp [go_sem])]; exact DH.read evs_none
      clear hK K
      try walk_nrm
      co_apply opsT_look rfl (by rfl)
      intro _ hR K hK
      replace hF := hrely hF hR
      clear hR
      go_simp
      refine hK _ ⟨?_, ?_⟩
      · rw [listed_nil (by simp [go_sem])]; exact DH.read evs_none
      clear hK K
      try walk_nrm
      co_apply opsT_look rfl (by rfl)
      intro _ hR K hK
      replace hF := hrely hF hR
      clear hR
      go_simp
      refine hK _ ⟨?_, ?_⟩
      · rw [listed_nil (by simp [go_sem])]; exact DH.read evs_none
      clear hK K
      try walk_nrm
      co_apply opsT_nil fairH
      simp only [Exit.then, Exit.inBlock, if_true, if_false, reduceIte, Nat.reduceEqDiff]
      exact ⟨⟨i + 1, m + 1, c, _, _, _, _, _, _, _, _, _, _, _, _, _, _, _, _, _, _, _, _, _, _, _, _, _, _, _, _, by first | rfl | (rw [hwm]; rfl), by omega, by omega, HM2, Lib.hid Hst.out.symm, hF⟩, by simp [intOf, hwm]; omega⟩
      omega
  · obtain rfl : i = 1000 := by omega
    have hmE : ¬ (m : Int) < E1 := by rw [HE1.out, Hm.out]; omega
    co_apply codeT_more
    first | co_apply codeT_seq fairH | co_apply codeT_block fairH | co_apply codeT_skip fairH | co_apply codeT_label fairH | co_apply codeT_ret fairH | co_apply codeT_exit fairH | co_apply opsT_nil fairH
    first | co_apply codeT_seq fairH | co_apply codeT_block fairH | co_apply codeT_skip fairH | co_apply codeT_label fairH | co_apply codeT_ret fairH | co_apply codeT_exit fairH | co_apply opsT_nil fairH
    co_apply codeT_region fairH
    simp only [List.size_toArray, List.length_cons, List.length_nil, Nat.reduceAdd, Nat.zero_add, List.range, List.range.loop]
    co_apply opsT_look rfl (by rfl)
    intro _ hR K hK
    replace hF := hrely hF hR
    clear hR
    go_simp
    refine hK _ ⟨?_, ?_⟩
    · rw [listed_nil (by simp [go_sem])]; exact DH.read evs_none
    clear hK K
    try walk_nrm
    co_apply opsT_look rfl (by rfl)
    intro _ hR K hK
    replace hF := hrely hF hR
    clear hR
    go_simp
    refine hK _ ⟨?_, ?_⟩
    · rw [listed_nil (by simp [go_sem])]; exact DH.read evs_none
    clear hK K
    try walk_nrm
    co_apply opsT_look rfl (by rfl)
    intro _ hR K hK
    replace hF := hrely hF hR
    clear hR
    go_simp
    refine hK _ ⟨?_, ?_⟩
    · rw [listed_nil (by simp [go_sem])]; exact DH.read evs_none
    clear hK K
    try walk_nrm
    co_apply opsT_look rfl (by rfl)
    intro _ hR K hK
    replace hF := hrely hF hR
    clear hR
    go_simp
    refine hK _ ⟨?_, ?_⟩
    · rw [listed_nil (by simp [go_sem])]; exact DH.read evs_none
    clear hK K
    try walk_nrm
    co_apply opsT_look rfl (by rfl)
    intro _ hR K hK
    replace hF := hrely hF hR
    clear hR
    go_simp
    refine hK _ ⟨?_, ?_⟩
    · rw [listed_nil (by simp [go_sem])]; exact DH.read evs_none
    clear hK K
    try walk_nrm
    co_apply opsT_nil fairH
    simp only [Exit.then, Exit.inBlock, if_true, if_false, reduceIte, Nat.reduceEqDiff]
    co_apply codeT_cond fairH
    focus exact rfl
    simp only [if_true, if_false, reduceIte, Bool.false_eq_true]
    first | co_apply codeT_seq fairH | co_apply codeT_block fairH | co_apply codeT_skip fairH | co_apply codeT_label fairH | co_apply codeT_ret fairH | co_apply codeT_exit fairH | co_apply opsT_nil fairH
    simp only [Exit.then, Exit.inBlock, if_true, if_false, reduceIte, Nat.reduceEqDiff]
    first | co_apply codeT_seq fairH | co_apply codeT_block fairH | co_apply codeT_skip fairH | co_apply codeT_label fairH | co_apply codeT_ret fairH | co_apply codeT_exit fairH | co_apply opsT_nil fairH
    co_apply codeT_region fairH
    simp only [List.size_toArray, List.length_cons, List.length_nil, Nat.reduceAdd, Nat.zero_add, List.range, List.range.loop]
    co_apply opsT_look rfl (by rfl)
    intro _ hR K hK
    replace hF := hrely hF hR
    clear hR
    go_simp
    refine hK _ ⟨?_, ?_⟩
    · rw [listed_nil (by simp [go_sem])]; exact DH.read evs_none
    clear hK K
    try walk_nrm
    co_apply opsT_look rfl (by rfl)
    intro _ hR K hK
    replace hF := hrely hF hR
    clear hR
    go_simp
    refine hK _ ⟨?_, ?_⟩
    · rw [listed_nil (by simp [go_sem])]; exact DH.read evs_none
    clear hK K
    try walk_nrm
    co_apply opsT_nil fairH
    simp only [Exit.then, Exit.inBlock, if_true, if_false, reduceIte, Nat.reduceEqDiff]
    first | co_apply codeT_seq fairH | co_apply codeT_block fairH | co_apply codeT_skip fairH | co_apply codeT_label fairH | co_apply codeT_ret fairH | co_apply codeT_exit fairH | co_apply opsT_nil fairH
    exact ⟨rfl, _, resultsC_tmp (by rfl) _, by rw [← Hc.out]; rfl, hF⟩
    exact Nat.le_trans (Nat.le_refl (1 + 1 + 1 + 1 + 1 + 1 + 1 + (1 + 1) + 1 + 0 + 1)) (by omega)
end Go.Proofs.YtmphfdibijbjeaaDoor

