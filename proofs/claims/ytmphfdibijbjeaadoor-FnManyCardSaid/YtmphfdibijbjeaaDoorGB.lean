/- The model's StrokeMany in company, second half: l7Count, StrokeMany (printed by gengb.py). -/
import Derived.Test.YtmphfdibijbjeaaDoorGA
import Derived.Test.YtmphfdibijbjeaaDoorVC
namespace Go.Proofs.YtmphfdibijbjeaaDoor
open Go.Conc Go.RowKit
set_option linter.unusedSimpArgs false
set_option linter.unusedVariables false
set_option maxRecDepth 100000
variable {main : Bool} {A : Nat}
set_option maxHeartbeats 4000000 in
theorem l7CountC : ∃ N, ∀ (s : Nat), s < 1048576 → ∀ w, HZ A w → CallsC Tryd.prog main AtRel (DSz A) 12 #[.int .i64 (s : Nat)] N w fun v w' => v = .int .i64 (bc s : Nat) ∧ HZ A w' := by
  co_apply Exists.intro
  intro s hs w hF
  obtain ⟨T, HT⟩ : ∃ T, Hid (bc s = T) := ⟨_, Lib.hid rfl⟩
  rw [HT.out]
  co_apply callsC_of_wpC Tryd.func12 (by rfl) rfl
  simp only [Tryd.ntmps12, List.size_toArray, List.length_cons, List.length_nil, Nat.reduceAdd, Nat.reduceSub, Array.replicate_succ, Array.replicate_zero, List.push_toArray, List.append_toArray, List.nil_append, List.cons_append]
  co_stmt (termsZ A) HZ.rely hF (co_quiet (termsZ A))
  co_stmt (termsZ A) HZ.rely hF (co_quiet (termsZ A))
  co_apply wpC_seq (termsZ A)
  co_apply wpC_block (termsZ A)
  co_apply wpC_loop (termsZ A) (fun a w => ∃ (f y j : Nat) (x1 x2 x4 x5 x6 x7 x8 x9 x10 x11 x12 : Value), a = ⟨#[.int .i64 (y : Nat), x1, x2, .int .i64 (j : Nat), x4, x5, x6, x7, x8, x9, x10, x11, x12], []⟩ ∧ f ≤ 20 ∧ Hid (y < 2 ^ f) ∧ Hid (j + bcF f y = T) ∧ j ≤ 20 - f ∧ HZ A w) (fun a _ => (intOf (a.tmps.getD 0 undef)).toNat) (N := 1048576)
  case h₀ => exact ⟨20, s, 0, _, _, _, _, _, _, _, _, _, _, _, rfl, by omega, Lib.hid hs, Lib.hid (by rw [← HT.out, Nat.zero_add]; rfl), by omega, hF⟩
  case hN => simp [intOf]; omega
  clear hF
  rintro a w ⟨f, y, j, x1, x2, x4, x5, x6, x7, x8, x9, x10, x11, x12, rfl, hf, Hy, Hj, hjf, hF⟩
  by_cases hz : y ≠ 0
  · obtain ⟨g, rfl⟩ : ∃ g, f = g + 1 := ⟨f - 1, by
      rcases f with _ | f
      · have := Hy.out; simp at this; omega
      · omega⟩
    have Hj2 : Hid (j + y % 2 + bcF g (y / 2) = T) := Lib.hid (by have := Hj.out; rw [show bcF (g + 1) y = y % 2 + bcF g (y / 2) from rfl] at this; omega)
    have Hy2 : Hid (y / 2 < 2 ^ g) := Lib.hid (by have hy := Hy.out; rw [Nat.pow_succ] at hy; omega)
    have hy3 : y < 1048576 := by
      have : 2 ^ (g + 1) ≤ 2 ^ 20 := Nat.pow_le_pow_right (by omega) hf
      have e20 : (2 : Nat) ^ 20 = 1048576 := by decide
      have := Hy.out
      omega
    have hp : 0 < y := by omega
    have em : (y : Int).tmod 2 = ((y % 2 : Nat) : Int) := by rw [Int.tmod_eq_emod_of_nonneg (by omega)]; omega
    have ed : (y : Int).tdiv 2 = ((y / 2 : Nat) : Int) := by rw [Int.tdiv_eq_ediv_of_nonneg (by omega)]; omega
    have ew : IntKind.i64.wrap ((y / 2 : Nat) : Int) = ((y / 2 : Nat) : Int) := by rw [IntKind.wrap_i64]; omega
    have hm2 : y % 2 < 2 := by omega
    have hlt2 : y / 2 < y := by omega
    generalize y % 2 = ya at *
    generalize y / 2 = yb at *
    clear Hy Hj hs HT
    obtain ⟨jn, hjn⟩ : ∃ jn : Nat, jn = j + ya := ⟨_, rfl⟩
    have ej : IntKind.i64.wrap ((j : Int) + (ya : Int)) = (jn : Int) := by rw [IntKind.wrap_i64]; omega
    rw [← hjn] at Hj2
    have hjle : jn ≤ 20 - g := by omega
    clear hjn hjf
    co_go (termsZ A) HZ.rely hF (co_quiet (termsZ A))
    co_apply wpC_cond (termsZ A) (t := true)
    focus simp [Act.eval, hp]
    simp only [if_true]
    co_go (termsZ A) HZ.rely hF (co_quiet (termsZ A))
    exact ⟨⟨g, yb, jn, _, _, _, _, _, _, _, _, _, _, _, rfl, by omega, Hy2, Hj2, hjle, hF⟩, by simp [intOf]; omega⟩
  · have hz : y = 0 := Classical.not_not.1 hz
    subst hz
    have Hj2 : Hid (j = T) := Lib.hid (by have := Hj.out; rw [((bcF_zero f 0 Hy.out).2 rfl)] at this; omega)
    co_apply wpC_more
    co_go (termsZ A) HZ.rely hF (co_quiet (termsZ A))
    co_apply wpC_cond (termsZ A)
    focus exact rfl
    try simp only [if_true, if_false, reduceIte, Bool.false_eq_true]
    co_go (termsZ A) HZ.rely hF (co_quiet (termsZ A))
    exact ⟨rfl, _, resultsC_tmp (by rfl) _, by rw [← Hj2.out]; rfl, hF⟩
    exact Nat.le_trans (Nat.le_refl (1 + 1 + 1 + 1 + (1 + 1) + 1 + 0 + 1)) (by omega)

set_option maxHeartbeats 4000000 in
theorem sStrokeManyC (k : Int) : ∃ N, ∀ w, HZ A w → CallsC Tryd.prog main AtRel (DSz A) 7 #[.int .i64 k] N w fun v w' => v = smR k ∧ HZ A w' := by
  obtain ⟨Ni, hIn⟩ := l6InC (main := main) (A := A) k
  obtain ⟨No, hOf⟩ := l7OfC (main := main) (A := A)
  obtain ⟨Nc, hCn⟩ := l7CountC (main := main) (A := A)
  by_cases h : 0 ≤ k ∧ k ≤ 12
  · have hdec : decide (0 ≤ k ∧ k ≤ 12) = true := decide_eq_true h
    rw [hdec] at hIn
    obtain ⟨K, rfl⟩ := Int.eq_ofNat_of_zero_le h.1
    have hT : ∃ T : Nat, Hid (smR (K : Int) = .tuple #[.int .i64 T, .bool true]) ∧ Hid (∀ c, mny K 10000 = c → T = c) := ⟨mny K 10000, Lib.hid (by unfold smR; rw [if_pos h]; rfl), Lib.hid fun c h => h⟩
    obtain ⟨T, Hf, HT⟩ := hT
    clear h hdec
    co_apply Exists.intro
    intro w hF
    co_apply callsC_of_wpC Tryd.func7 (by rfl) rfl
    simp only [Tryd.ntmps7, List.size_toArray, List.length_cons, List.length_nil, Nat.reduceAdd, Nat.reduceSub, Array.replicate_succ, Array.replicate_zero, List.push_toArray, List.append_toArray, List.nil_append, List.cons_append]
    co_apply wpC_seq (termsZ A)
    co_reg (termsZ A)
    co_op HZ.rely hF (co_quiet (termsZ A))
    co_op HZ.rely hF (co_quiet (termsZ A))
    co_apply opsC_nil (termsZ A)
    co_then
    co_apply wpC_seq (termsZ A)
    co_apply wpC_seq (termsZ A)
    co_reg (termsZ A)
    co_op HZ.rely hF (co_quiet (termsZ A))
    co_apply opsC_call_at (termsZ A) rfl (by rfl) rfl (hIn _ hF) (by simp [go_sem])
    rintro _ w' ⟨rfl, hF⟩
    try walk_nrm
    co_op HZ.rely hF (co_quiet (termsZ A))
    co_apply opsC_nil (termsZ A)
    co_then
    co_apply wpC_cond (termsZ A) (t := false)
    focus simp [Act.eval]
    simp only [if_false, Bool.false_eq_true]
    co_go (termsZ A) HZ.rely hF (co_quiet (termsZ A))
    co_apply wpC_loop (termsZ A) (fun a w => ∃ (j c : Nat) (x1 x2 x3 x6 x7 x8 x9 x10 x11 x12 x13 x14 x15 x16 x17 x18 x19 x20 : Value), a = ⟨#[.int .i64 (K : Nat), x1, x2, x3, .int .i64 (c : Nat), .int .i64 (j : Nat), x6, x7, x8, x9, x10, x11, x12, x13, x14, x15, x16, x17, x18, x19, x20], []⟩ ∧ Hid (j ≤ 10000 ∧ c ≤ j) ∧ Hid (mny K j = c) ∧ HZ A w) (fun a _ => 10000 - (intOf (a.tmps.getD 5 undef)).toNat) (N := 10000)
    case h₀ => exact ⟨0, 0, _, _, _, _, _, _, _, _, _, _, _, _, _, _, _, _, _, _, rfl, Lib.hid ⟨by omega, by omega⟩, Lib.hid rfl, hF⟩
    case hN => exact Nat.sub_le _ _
    clear hF
    rintro a w ⟨j, c, x1, x2, x3, x6, x7, x8, x9, x10, x11, x12, x13, x14, x15, x16, x17, x18, x19, x20, rfl, HJ, Hc, hF⟩
    by_cases hlt : j ≤ 9999
    · have hof := hOf j hlt
      have hcn := hCn (vsg j) (sg_lt j)
      have Hs : Hid (mny K (j + 1) = mny K j + (if bc (vsg j) = K then 1 else 0)) := Lib.hid rfl
      rw [Hc.out] at Hs
      have hle : decide ((j : Int) ≤ 9999) = true := decide_eq_true (by omega)
      obtain ⟨jn, hjn⟩ : ∃ jn : Nat, jn = j + 1 := ⟨_, rfl⟩
      have ej : IntKind.i64.wrap ((j : Int) + 1) = (jn : Int) := by rw [IntKind.wrap_i64]; omega
      have HJ2 : Hid (jn ≤ 10000 ∧ c ≤ j) := Lib.hid ⟨by omega, by have := HJ.out; omega⟩
      have hmj : 10000 - jn < 10000 - j := by omega
      rw [← hjn] at Hs
      have Hjn := Lib.hid hjn
      clear hjn
      obtain ⟨cn, hcn2⟩ : ∃ cn : Nat, cn = c + 1 := ⟨_, rfl⟩
      have ec : IntKind.i64.wrap ((c : Int) + 1) = (cn : Int) := by have := HJ.out; rw [IntKind.wrap_i64]; omega
      have Hcn := Lib.hid hcn2
      clear hcn2
      by_cases he : bc (vsg j) = K
      · rw [if_pos he] at Hs
        have hq : (((bc (vsg j) : Nat) : Int) == (K : Int)) = true := by rw [beq_iff_eq]; omega
        generalize bc (vsg j) = y at *
        generalize vsg j = sj at *
        clear he hlt
        co_apply wpC_seq (termsZ A)
        co_apply wpC_seq (termsZ A)
        co_reg (termsZ A)
        co_op HZ.rely hF (co_quiet (termsZ A))
        co_op HZ.rely hF (co_quiet (termsZ A))
        co_apply opsC_nil (termsZ A)
        co_then
        co_apply wpC_cond (termsZ A) (t := true)
        focus simp [Act.eval, hle]
        simp only [if_true]
        co_apply wpC_skip (termsZ A)
        co_then
        co_apply wpC_seq (termsZ A)
        co_apply wpC_block (termsZ A)
        co_apply wpC_seq (termsZ A)
        co_reg (termsZ A)
        co_op HZ.rely hF (co_quiet (termsZ A))
        co_apply opsC_call_at (termsZ A) rfl (by rfl) rfl (hof _ hF) (by simp [go_sem])
        rintro _ w1 ⟨rfl, hF⟩
        try walk_nrm
        co_apply opsC_call_at (termsZ A) rfl (by rfl) rfl (hcn _ hF) (by simp [go_sem])
        rintro _ w2 ⟨rfl, hF⟩
        try walk_nrm
        co_op HZ.rely hF (co_quiet (termsZ A))
        co_op HZ.rely hF (co_quiet (termsZ A))
        co_apply opsC_nil (termsZ A)
        co_then
        co_apply wpC_cond (termsZ A) (t := true)
        focus simp [Act.eval, hq]
        simp only [if_true]
        co_go (termsZ A) HZ.rely hF (co_quiet (termsZ A))
        exact ⟨⟨jn, cn, _, _, _, _, _, _, _, _, _, _, _, _, _, _, _, _, _, _, rfl, Lib.hid (by have := HJ2.out; have := Hcn.out; have := Hjn.out; omega), Lib.hid (by rw [Hs.out, Hcn.out]), hF⟩, by simp [intOf]; omega⟩
      · rw [if_neg he] at Hs
        have hq : (((bc (vsg j) : Nat) : Int) == (K : Int)) = false := by rw [beq_eq_false_iff_ne]; omega
        generalize bc (vsg j) = y at *
        generalize vsg j = sj at *
        clear he hlt
        co_apply wpC_more
        co_apply wpC_seq (termsZ A)
        co_apply wpC_seq (termsZ A)
        co_reg (termsZ A)
        co_op HZ.rely hF (co_quiet (termsZ A))
        co_op HZ.rely hF (co_quiet (termsZ A))
        co_apply opsC_nil (termsZ A)
        co_then
        co_apply wpC_cond (termsZ A) (t := true)
        focus simp [Act.eval, hle]
        simp only [if_true]
        co_apply wpC_skip (termsZ A)
        co_then
        co_apply wpC_seq (termsZ A)
        co_apply wpC_block (termsZ A)
        co_apply wpC_seq (termsZ A)
        co_reg (termsZ A)
        co_op HZ.rely hF (co_quiet (termsZ A))
        co_apply opsC_call_at (termsZ A) rfl (by rfl) rfl (hof _ hF) (by simp [go_sem])
        rintro _ w1 ⟨rfl, hF⟩
        try walk_nrm
        co_apply opsC_call_at (termsZ A) rfl (by rfl) rfl (hcn _ hF) (by simp [go_sem])
        rintro _ w2 ⟨rfl, hF⟩
        try walk_nrm
        co_op HZ.rely hF (co_quiet (termsZ A))
        co_op HZ.rely hF (co_quiet (termsZ A))
        co_apply opsC_nil (termsZ A)
        co_then
        co_apply wpC_cond (termsZ A) (t := false)
        focus simp [Act.eval, hq]
        simp only [if_false, Bool.false_eq_true]
        co_go (termsZ A) HZ.rely hF (co_quiet (termsZ A))
        exact ⟨⟨jn, c, _, _, _, _, _, _, _, _, _, _, _, _, _, _, _, _, _, _, rfl, Lib.hid (by have := HJ2.out; have := Hjn.out; omega), Lib.hid (Hs.out.trans (Nat.add_zero _)), hF⟩, by simp [intOf]; omega⟩
        exact Nat.le_trans (Nat.le_refl (1 + 1 + 1 + 1 + (1 + 1) + 1 + (1 + 1 + 1 + Nc + 3 + No + 3 + 1 + 1 + (1 + 1) + 1 + 2 + (1 + 1 + 1 + 1 + 1) + 1) + 1)) (by omega)
    · have hj : j = 10000 := by have := HJ.out; omega
      subst hj
      obtain rfl := HT.out c Hc.out
      co_apply wpC_more
      co_apply wpC_seq (termsZ A) (n₂ := 0)
      co_apply wpC_seq (termsZ A)
      co_reg (termsZ A)
      co_op HZ.rely hF (co_quiet (termsZ A))
      co_op HZ.rely hF (co_quiet (termsZ A))
      co_apply opsC_nil (termsZ A)
      co_then
      co_apply wpC_cond (termsZ A) (t := false)
      focus simp [Act.eval]
      simp only [if_false, Bool.false_eq_true]
      co_go (termsZ A) HZ.rely hF (co_quiet (termsZ A))
      exact ⟨rfl, _, resultsC_tmp2 (by rfl) _, by rw [Hf.out]; rfl, hF⟩
      exact Nat.le_trans (Nat.le_refl (1 + 1 + 1 + 1 + (1 + 1) + 1 + 0 + 1)) (by omega)
  · have Hf : Hid (smR k = .tuple #[.int .i64 0, .bool false]) := Lib.hid (by unfold smR; rw [if_neg h])
    have hdec : decide (0 ≤ k ∧ k ≤ 12) = false := decide_eq_false h
    rw [hdec] at hIn
    clear h hdec
    co_apply Exists.intro
    intro w hF
    co_apply callsC_of_wpC Tryd.func7 (by rfl) rfl
    simp only [Tryd.ntmps7, List.size_toArray, List.length_cons, List.length_nil, Nat.reduceAdd, Nat.reduceSub, Array.replicate_succ, Array.replicate_zero, List.push_toArray, List.append_toArray, List.nil_append, List.cons_append]
    co_apply wpC_seq (termsZ A)
    co_reg (termsZ A)
    co_op HZ.rely hF (co_quiet (termsZ A))
    co_op HZ.rely hF (co_quiet (termsZ A))
    co_apply opsC_nil (termsZ A)
    co_then
    co_apply wpC_seq (termsZ A) (n₂ := 0)
    co_apply wpC_seq (termsZ A)
    co_reg (termsZ A)
    co_op HZ.rely hF (co_quiet (termsZ A))
    co_apply opsC_call_at (termsZ A) rfl (by rfl) rfl (hIn _ hF) (by simp [go_sem])
    rintro _ w' ⟨rfl, hF⟩
    try walk_nrm
    co_op HZ.rely hF (co_quiet (termsZ A))
    co_apply opsC_nil (termsZ A)
    co_then
    co_apply wpC_cond (termsZ A) (t := true)
    focus simp [Act.eval]
    simp only [if_true]
    co_go (termsZ A) HZ.rely hF (co_quiet (termsZ A))
    exact ⟨rfl, _, resultsC_tmp2 (by rfl) _, by rw [Hf.out]; rfl, hF⟩
end Go.Proofs.YtmphfdibijbjeaaDoor
