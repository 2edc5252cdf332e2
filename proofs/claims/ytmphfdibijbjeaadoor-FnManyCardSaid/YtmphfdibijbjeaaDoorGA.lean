/- The model's StrokeMany in company, where nobody turns anything but the count of draws: l6In, l7Count, l7Marks, l7Of. -/
import Derived.Test.YtmphfdibijbjeaaDoorVP
import Derived.Test.YtmphfdibijbjeaaDoorMa
import Derived.Test.YtmphfdibijbjeaaDoorHW
import Derived.Conc.CompanyMem
import Derived.Conc.Starve
import Derived.Conc.AppendWalk
import Derived.Lib.Hide
import Derived.Test.YtmphfdibijbjeaaDoorK
namespace Go.Proofs.YtmphfdibijbjeaaDoor
open Go.Conc Go.RowKit
set_option linter.unusedSimpArgs false
set_option linter.unusedVariables false
set_option maxRecDepth 100000
/-- what a lone goroutine does: blocks below A stand; it names cells of blocks from A on that are there -/
structure DSz (A : Nat) (w w' : World) (es : Array Event) : Prop where
  size : w.heap.size ≤ w'.heap.size
  os : w'.os = w.os
  tape : w'.tape = w.tape
  output : w'.output = w.output
  low : ∀ b, b < A → w'.heap[b]? = w.heap[b]?
  evs : ∀ e ∈ es, ∃ a, e.loc = .cell a ∧ A ≤ a.block ∧ a.block < w'.heap.size
variable {main : Bool} {A : Nat}
theorem termsZ (A : Nat) : Terms AtRel (DSz A) := ⟨atRel_trans, fun _ => ⟨Nat.le_refl _, rfl, rfl, rfl, fun _ _ => rfl, fun e he => by simp at he⟩⟩
theorem drawZ (A : Nat) : LetsDraw (DSz A) := fun _ => ⟨Nat.le_refl _, rfl, rfl, rfl, fun _ _ => rfl, fun e he => by simp at he⟩
theorem ownDr (w : World) : AtRel w { w with drawn := w.drawn + 1 } := ⟨w.drawn + 1, rfl⟩
def HZ (A : Nat) (w : World) : Prop := A ≤ w.heap.size
theorem HZ.rely {A : Nat} {w w₁ : World} (h : HZ A w) (r : AtRel w w₁) : HZ A w₁ := by
  obtain ⟨d, rfl⟩ := r
  exact h
/-- l7Marks' row in block nb -/
structure HMk (A nb : Nat) (w : World) : Prop where
  ge : A ≤ nb
  lt : nb < w.heap.size
  els : ∀ d, d < 10 → w.cell? ⟨nb, d, none⟩ = some (.int .i64 (mkd d : Nat))
theorem HMk.rely {A nb : Nat} {w w₁ : World} (h : HMk A nb w) (r : AtRel w w₁) : HMk A nb w₁ := by
  obtain ⟨d, rfl⟩ := r
  exact ⟨h.ge, h.lt, h.els⟩
theorem l6InC (k : Int) : ∃ n, ∀ w, HZ A w → CallsC Tryd.prog main AtRel (DSz A) 11 #[.int .i64 k, .int .i64 0, .int .i64 12] n w fun v w' => v = .bool (decide (0 ≤ k ∧ k ≤ 12)) ∧ HZ A w' := by
  by_cases h1 : 0 ≤ k
  · have e1 : decide (0 ≤ k) = true := decide_eq_true h1
    have e2 : decide (0 ≤ k ∧ k ≤ 12) = decide (k ≤ 12) := by simp [h1]
    rw [e2]
    co_apply Exists.intro
    intro w hF
    co_apply callsC_of_wpC Tryd.func11 (by rfl) rfl
    simp only [Tryd.ntmps11, List.size_toArray, List.length_cons, List.length_nil, Nat.reduceAdd, Nat.reduceSub, Array.replicate_succ, Array.replicate_zero, List.push_toArray, List.append_toArray, List.nil_append, List.cons_append]
    co_go (termsZ A) HZ.rely hF (co_quiet (termsZ A))
    exact ⟨rfl, _, resultsC_tmp (by rfl) _, rfl, hF⟩
  · have e1 : decide (0 ≤ k) = false := decide_eq_false h1
    have e2 : decide (0 ≤ k ∧ k ≤ 12) = false := decide_eq_false fun h => h1 h.1
    rw [e2]
    co_apply Exists.intro
    intro w hF
    co_apply callsC_of_wpC Tryd.func11 (by rfl) rfl
    simp only [Tryd.ntmps11, List.size_toArray, List.length_cons, List.length_nil, Nat.reduceAdd, Nat.reduceSub, Array.replicate_succ, Array.replicate_zero, List.push_toArray, List.append_toArray, List.nil_append, List.cons_append]
    co_stmt (termsZ A) HZ.rely hF (co_quiet (termsZ A))
    co_apply wpC_seq (termsZ A)
    co_reg (termsZ A)
    co_op HZ.rely hF (co_quiet (termsZ A))
    co_op HZ.rely hF (co_quiet (termsZ A))
    co_op HZ.rely hF (co_quiet (termsZ A))
    co_op HZ.rely hF (co_quiet (termsZ A))
    co_apply opsC_unwanted (termsZ A) rfl (by rfl)
    walk_nrm
    co_apply opsC_unwanted (termsZ A) rfl (by rfl)
    walk_nrm
    co_apply opsC_unwanted (termsZ A) rfl (by rfl)
    walk_nrm
    co_op HZ.rely hF (co_quiet (termsZ A))
    co_op HZ.rely hF (co_quiet (termsZ A))
    co_go (termsZ A) HZ.rely hF (co_quiet (termsZ A))
    exact ⟨rfl, _, resultsC_tmp (by rfl) _, rfl, hF⟩
theorem l7MarksC : ∃ n, ∀ w, HZ A w → CallsC Tryd.prog main AtRel (DSz A) 19 #[] n w fun v w' => ∃ nb, v = .slice (some ⟨nb, 0, none⟩) 10 10 ∧ HMk A nb w' := by
  co_apply Exists.intro
  intro w hF
  co_apply callsC_of_wpC Tryd.func19 (by rfl) rfl
  simp only [Tryd.ntmps19, List.size_toArray, List.length_cons, List.length_nil, Nat.reduceAdd, Nat.reduceSub, Array.replicate_succ, Array.replicate_zero, List.push_toArray, List.append_toArray, List.nil_append, List.cons_append]
  co_stmt (termsZ A) HZ.rely hF (co_quiet (termsZ A))
  co_apply wpC_seq (termsZ A)
  co_reg (termsZ A)
  co_apply opsC_cons_k rfl (by rfl)
  intro w1 hR K hK
  replace hF := HZ.rely hF hR
  clear hR
  go_simp
  refine hK _ _ ⟨?_, ?_⟩
  · rw [listed_nil (by simp [go_sem])]
    exact ⟨by simp, rfl, rfl, rfl, fun b hb => Below.heap_alloc w1 _ _ (Nat.lt_of_lt_of_le hb hF), fun e he => by simp at he⟩
  clear hK K
  try walk_nrm
  have hM : HMk A w1.heap.size (w1.alloc (.cells #[.int .i64 0, .int .i64 1, .int .i64 2, .int .i64 4, .int .i64 8, .int .i64 9, .int .i64 16, .int .i64 17, .int .i64 18, .int .i64 19] 3)) := by
    refine ⟨hF, by simp, fun d hd => ?_⟩
    have h1 := heap_alloc_new w1 (.cells #[.int .i64 0, .int .i64 1, .int .i64 2, .int .i64 4, .int .i64 8, .int .i64 9, .int .i64 16, .int .i64 17, .int .i64 18, .int .i64 19] 3)
    rcases (show d = 0 ∨ d = 1 ∨ d = 2 ∨ d = 3 ∨ d = 4 ∨ d = 5 ∨ d = 6 ∨ d = 7 ∨ d = 8 ∨ d = 9 by omega) with rfl | rfl | rfl | rfl | rfl | rfl | rfl | rfl | rfl | rfl <;> exact cell_at h1 rfl
  generalize w1.heap.size = nb at *
  generalize w1.alloc _ = w2 at *
  co_op HMk.rely hM (co_quiet (termsZ A))
  co_go (termsZ A) HMk.rely hM (co_quiet (termsZ A))
  exact ⟨rfl, _, resultsC_tmp (by rfl) _, nb, rfl, hM⟩
/-- a call, its arguments told -/
theorem opsC_call_at {P : Program} {main : Bool} {R : World → World → Prop} {D : World → World → Array Event → Prop} {fn : FuncId} {Q : Exit → Act → World → Prop} {a : Act} {w : World} (T : Terms R D) {ops : Array Oper} {i : Nat} {rest : List Nat} {o : Oper} {f : FuncId} {args : Array Operand} {ats : Array TypeId} {nf n : Nat} {vs : Array Value} {Post : Value → World → Prop}
    (ho : ops[i]? = some o) (hw : Region.wanted o (yielded ops a.tmps) = true) (hop : o.op = .call { callee := .value (.func f), args, argTypes := ats })
    (hcall : CallsC P main R D f vs nf w Post) (hargs : args.map a.eval = vs) (hnext : ∀ v w', Post v w' → OpsC P main R D fn ops rest n Q (a.put o.dst v) w') : OpsC P main R D fn ops (i :: rest) (n + nf + 3) Q a w :=
  opsC_call T ho hw hop (by rw [hargs]; exact hcall) hnext
set_option maxHeartbeats 4000000 in
theorem l7OfC : ∃ N, ∀ (n : Nat), n ≤ 9999 → ∀ w, HZ A w → CallsC Tryd.prog main AtRel (DSz A) 13 #[.int .i64 (n : Nat)] N w fun v w' => v = .int .i64 (vsg n : Nat) ∧ HZ A w' := by
  obtain ⟨Nm, hMk⟩ := l7MarksC (main := main) (A := A)
  co_apply Exists.intro
  intro n hn w hF
  have tm : ∀ m : Nat, (m : Int).tmod 10 = ((m % 10 : Nat) : Int) := fun m => by rw [Int.tmod_eq_emod_of_nonneg (by omega)]; omega
  have td : ∀ k : Nat, (n : Int).tdiv (k : Int) = ((n / k : Nat) : Int) := fun k => by rw [Int.tdiv_eq_ediv_of_nonneg (by omega)]; rfl
  have e0 := tm n
  have e1 := tm (n / 10)
  have e2 := tm (n / 100)
  have f1 : (n : Int).tdiv 10 = ((n / 10 : Nat) : Int) := td 10
  have f2 : (n : Int).tdiv 100 = ((n / 100 : Nat) : Int) := td 100
  have e3 : (n : Int).tdiv 1000 = ((n / 1000 : Nat) : Int) := td 1000
  have w1 : IntKind.i64.wrap ((n / 10 : Nat) : Int) = ((n / 10 : Nat) : Int) := by rw [IntKind.wrap_i64]; omega
  have w2 : IntKind.i64.wrap ((n / 100 : Nat) : Int) = ((n / 100 : Nat) : Int) := by rw [IntKind.wrap_i64]; omega
  have w3 : IntKind.i64.wrap ((n / 1000 : Nat) : Int) = ((n / 1000 : Nat) : Int) := by rw [IntKind.wrap_i64]; omega
  clear tm td
  have d0 : n % 10 < 10 := by omega
  have d1 : n / 10 % 10 < 10 := by omega
  have d2 : n / 100 % 10 < 10 := by omega
  have d3 : n / 1000 < 10 := by omega
  obtain ⟨T, hT⟩ : ∃ T, T = vsg n := ⟨_, rfl⟩
  have Hs : T = mkd (n % 10) + 32 * mkd (n / 10 % 10) + 1024 * mkd (n / 100 % 10) + 32768 * mkd (n / 1000) := hT
  rw [← hT]
  clear hT
  generalize n % 10 = x0 at *
  generalize n / 10 % 10 = x1 at *
  generalize n / 100 % 10 = x2 at *
  generalize n / 1000 = x3 at *
  generalize n / 10 = q1 at *
  generalize n / 100 = q2 at *
  have i0 : (x0 : Int) < 10 := by omega
  have i1 : (x1 : Int) < 10 := by omega
  have i2 : (x2 : Int) < 10 := by omega
  have i3 : (x3 : Int) < 10 := by omega
  have m0 := mkd_lt x0
  have m1 := mkd_lt x1
  have m2 := mkd_lt x2
  have m3 := mkd_lt x3
  obtain ⟨z1, hz1⟩ : ∃ z1 : Nat, z1 = 32 * mkd x1 := ⟨_, rfl⟩
  obtain ⟨s1, hs1⟩ : ∃ s1 : Nat, s1 = mkd x0 + z1 := ⟨_, rfl⟩
  obtain ⟨z2, hz2⟩ : ∃ z2 : Nat, z2 = 1024 * mkd x2 := ⟨_, rfl⟩
  obtain ⟨s2, hs2⟩ : ∃ s2 : Nat, s2 = s1 + z2 := ⟨_, rfl⟩
  obtain ⟨z3, hz3⟩ : ∃ z3 : Nat, z3 = 32768 * mkd x3 := ⟨_, rfl⟩
  have a1 : IntKind.i64.wrap (32 * (mkd x1 : Int)) = (z1 : Int) := by rw [IntKind.wrap_i64]; omega
  have a2 : IntKind.i64.wrap ((mkd x0 : Int) + (z1 : Int)) = (s1 : Int) := by rw [IntKind.wrap_i64]; omega
  have a3 : IntKind.i64.wrap (1024 * (mkd x2 : Int)) = (z2 : Int) := by rw [IntKind.wrap_i64]; omega
  have a4 : IntKind.i64.wrap ((s1 : Int) + (z2 : Int)) = (s2 : Int) := by rw [IntKind.wrap_i64]; omega
  have a5 : IntKind.i64.wrap (32768 * (mkd x3 : Int)) = (z3 : Int) := by rw [IntKind.wrap_i64]; omega
  have a6 : IntKind.i64.wrap ((s2 : Int) + (z3 : Int)) = (T : Int) := by rw [IntKind.wrap_i64]; omega
  clear Hs hz1 hs1 hz2 hs2 hz3 m0 m1 m2 m3
  co_apply callsC_of_wpC Tryd.func13 (by rfl) rfl
  simp only [Tryd.ntmps13, List.size_toArray, List.length_cons, List.length_nil, Nat.reduceAdd, Nat.reduceSub, Array.replicate_succ, Array.replicate_zero, List.push_toArray, List.append_toArray, List.nil_append, List.cons_append]
  co_stmt (termsZ A) HZ.rely hF (co_quiet (termsZ A))
  co_apply wpC_seq (termsZ A)
  co_reg (termsZ A)
  co_apply opsC_call_at (termsZ A) rfl (by rfl) rfl (hMk _ hF) (by simp [go_sem])
  rintro _ w' ⟨nb, rfl, hM⟩
  clear hF
  try walk_nrm
  co_op HMk.rely hM (co_quiet (termsZ A))
  co_apply opsC_nil (termsZ A)
  co_then
  co_apply wpC_seq (termsZ A)
  co_held (termsZ A) (drawZ A) ownDr (HMk A nb) HMk.rely hM
  co_take 0 (termsZ A) HMk.rely hM hw (skip) (co_quiet (termsZ A))
  co_take 1 (termsZ A) HMk.rely hM hw (skip) (co_quiet (termsZ A))
  co_take 2 (termsZ A) HMk.rely hM hw (skip) (co_quiet (termsZ A))
  co_take 3 (termsZ A) HMk.rely hM hw (skip) (co_still (termsZ A))
  co_take 4 (termsZ A) HMk.rely hM hw (have hc := hw.els x0 d0) (refine ⟨Nat.le_refl _, rfl, rfl, rfl, fun _ _ => rfl, ?_⟩; co_evs (exact ⟨_, rfl, hw.ge, hw.lt⟩))
  co_take 5 (termsZ A) HMk.rely hM hw (skip) (co_quiet (termsZ A))
  co_take 6 (termsZ A) HMk.rely hM hw (skip) (co_quiet (termsZ A))
  co_take 7 (termsZ A) HMk.rely hM hw (skip) (co_quiet (termsZ A))
  co_take 8 (termsZ A) HMk.rely hM hw (skip) (co_quiet (termsZ A))
  co_take 9 (termsZ A) HMk.rely hM hw (skip) (co_still (termsZ A))
  co_take 10 (termsZ A) HMk.rely hM hw (have hc := hw.els x1 d1) (refine ⟨Nat.le_refl _, rfl, rfl, rfl, fun _ _ => rfl, ?_⟩; co_evs (exact ⟨_, rfl, hw.ge, hw.lt⟩))
  co_take 11 (termsZ A) HMk.rely hM hw (skip) (co_quiet (termsZ A))
  co_take 12 (termsZ A) HMk.rely hM hw (skip) (co_quiet (termsZ A))
  co_take 13 (termsZ A) HMk.rely hM hw (skip) (co_quiet (termsZ A))
  co_take 14 (termsZ A) HMk.rely hM hw (skip) (co_quiet (termsZ A))
  co_take 15 (termsZ A) HMk.rely hM hw (skip) (co_quiet (termsZ A))
  co_take 16 (termsZ A) HMk.rely hM hw (skip) (co_quiet (termsZ A))
  co_take 17 (termsZ A) HMk.rely hM hw (skip) (co_still (termsZ A))
  co_take 18 (termsZ A) HMk.rely hM hw (have hc := hw.els x2 d2) (refine ⟨Nat.le_refl _, rfl, rfl, rfl, fun _ _ => rfl, ?_⟩; co_evs (exact ⟨_, rfl, hw.ge, hw.lt⟩))
  co_take 19 (termsZ A) HMk.rely hM hw (skip) (co_quiet (termsZ A))
  co_take 20 (termsZ A) HMk.rely hM hw (skip) (co_quiet (termsZ A))
  co_take 21 (termsZ A) HMk.rely hM hw (skip) (co_quiet (termsZ A))
  co_take 22 (termsZ A) HMk.rely hM hw (skip) (co_quiet (termsZ A))
  co_take 23 (termsZ A) HMk.rely hM hw (skip) (co_quiet (termsZ A))
  co_take 24 (termsZ A) HMk.rely hM hw (skip) (co_still (termsZ A))
  co_take 25 (termsZ A) HMk.rely hM hw (have hc := hw.els x3 d3) (refine ⟨Nat.le_refl _, rfl, rfl, rfl, fun _ _ => rfl, ?_⟩; co_evs (exact ⟨_, rfl, hw.ge, hw.lt⟩))
  co_take 26 (termsZ A) HMk.rely hM hw (skip) (co_quiet (termsZ A))
  co_take 27 (termsZ A) HMk.rely hM hw (skip) (co_quiet (termsZ A))
  co_take 28 (termsZ A) HMk.rely hM hw (skip) (co_quiet (termsZ A))
  co_done
  co_ctl (termsZ A)
  exact ⟨rfl, _, resultsC_tmp (by rfl) _, rfl, Nat.le_trans hM.ge (Nat.le_of_lt hM.lt)⟩
end Go.Proofs.YtmphfdibijbjeaaDoor
