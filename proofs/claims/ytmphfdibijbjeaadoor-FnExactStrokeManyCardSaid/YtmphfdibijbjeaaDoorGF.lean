/- FnExactStrokeMany where StrokeMany says no: no goroutine is started. -/
import Derived.Test.YtmphfdibijbjeaaDoorGE
namespace Go.Proofs.YtmphfdibijbjeaaDoor
open Go.Conc Go.ConcN Go.RowKit
set_option linter.unusedSimpArgs false
set_option linter.unusedVariables false
set_option maxRecDepth 100000
section
variable {A : Nat} {k T : Int}
/-- StrokeMany has come back -/
def AtBk (k T : Int) (ok : Bool) (g : Goroutine) (w : World) : Prop :=
  g = G ((base 4).at (lwA k T ok (.tuple #[.int .i64 T, .bool ok])) (.inRegion (opsOf lr2) [2, 3, 4, 5, 6] :: [.code lr3])) []
set_option maxHeartbeats 8000000 in
theorem walkOut (hk : ¬ (0 ≤ k ∧ k ≤ 12)) (hT : smR k = .tuple #[.int .i64 0, .bool false]) : ∃ n, ∀ W, HZ A W →
    Goes Tryd.prog true AtRel (DSz A) (AtBk k 0 false) n (G ((base 4).at ⟨#[.int .i64 k] ++ Array.replicate 24 undef, []⟩ [.code lawB]) []) W := by
  obtain ⟨Ns, hS⟩ := sStrokeManyC (main := true) (A := A) k
  rw [hT] at hS
  clear hT
  refine ⟨Ns + 200, fun W hF => ?_⟩
  generalize hK0 : AtBk k 0 false = K0
  simp only [lawB, Tryd.f4, Option.getD_some, Array.replicate_succ, Array.replicate_zero, List.push_toArray, List.append_toArray, List.nil_append, List.cons_append]
  refine Goes.stillZ (termsZ A) rfl (fun _ => stepG_seq) ?_
  (refine Goes.stillZ (termsZ A) rfl (fun _ => stepG_region) ?_; simp only [List.size_toArray, List.length_cons, List.length_nil, Nat.reduceAdd, Nat.zero_add, List.range, List.range.loop])
  (refine Goes.operZ rfl (by rfl) (by decide) ?_; intro wx hx K hK; replace hF := HZ.rely hF hx; clear hx; go_simp; refine hK _ _ ⟨?_, ?_⟩; (· (rw [listed_nil (by simp [go_sem])]; exact (termsZ A).idle _)); clear hK K; try walk_nrm)
  refine Goes.stillZ (termsZ A) rfl (fun _ => stepG_region_end) ?_
  refine Goes.stillZ (termsZ A) rfl (fun _ => stepG_seq) ?_
  (refine Goes.stillZ (termsZ A) rfl (fun _ => stepG_region) ?_; simp only [List.size_toArray, List.length_cons, List.length_nil, Nat.reduceAdd, Nat.zero_add, List.range, List.range.loop])
  (refine Goes.operZ rfl (by rfl) (by decide) ?_; intro wx hx K hK; replace hF := HZ.rely hF hx; clear hx; go_simp; refine hK _ _ ⟨?_, ?_⟩; (· (rw [listed_nil (by simp [go_sem])]; exact (termsZ A).idle _)); clear hK K; try walk_nrm)
  refine Go.Conc.Goes.mono (n := 180 + Ns + 3) ?_ (by omega)
  refine Goes.call (termsZ A) rfl (by rfl) (by decide) rfl (by simpa [go_sem] using hS _ hF) ?_
  rintro _ w1 ⟨rfl, hF⟩
  walk_nrm
  (refine Goes.operZ rfl (by rfl) (by decide) ?_; intro wx hx K hK; replace hF := HZ.rely hF hx; clear hx; go_simp; refine hK _ _ ⟨?_, ?_⟩; (· (rw [listed_nil (by simp [go_sem])]; exact (termsZ A).idle _)); clear hK K; try walk_nrm)
  (refine Goes.operZ rfl (by rfl) (by decide) ?_; intro wx hx K hK; replace hF := HZ.rely hF hx; clear hx; go_simp; refine hK _ _ ⟨?_, ?_⟩; (· (rw [listed_nil (by simp [go_sem])]; exact (termsZ A).idle _)); clear hK K; try walk_nrm)
  (refine Goes.operZ rfl (by rfl) (by decide) ?_; intro wx hx K hK; replace hF := HZ.rely hF hx; clear hx; go_simp; refine hK _ _ ⟨?_, ?_⟩; (· (rw [listed_nil (by simp [go_sem])]; exact (termsZ A).idle _)); clear hK K; try walk_nrm)
  (refine Goes.operZ rfl (by rfl) (by decide) ?_; intro wx hx K hK; replace hF := HZ.rely hF hx; clear hx; go_simp; refine hK _ _ ⟨?_, ?_⟩; (· (rw [listed_nil (by simp [go_sem])]; exact (termsZ A).idle _)); clear hK K; try walk_nrm)
  (refine Goes.operZ rfl (by rfl) (by decide) ?_; intro wx hx K hK; replace hF := HZ.rely hF hx; clear hx; go_simp; refine hK _ _ ⟨?_, ?_⟩; (· (rw [listed_nil (by simp [go_sem])]; exact (termsZ A).idle _)); clear hK K; try walk_nrm)
  refine Goes.stillZ (termsZ A) rfl (fun _ => stepG_region_end) ?_
  refine Goes.stillZ (termsZ A) rfl (fun _ => stepG_seq) ?_
  (refine Goes.stillZ (termsZ A) rfl (fun _ => stepG_region) ?_; simp only [List.size_toArray, List.length_cons, List.length_nil, Nat.reduceAdd, Nat.zero_add, List.range, List.range.loop])
  (refine Goes.operZ rfl (by rfl) (by decide) ?_; intro wx hx K hK; replace hF := HZ.rely hF hx; clear hx; go_simp; refine hK _ _ ⟨?_, ?_⟩; (· (rw [listed_nil (by simp [go_sem])]; exact (termsZ A).idle _)); clear hK K; try walk_nrm)
  refine Goes.enterZ (termsZ A) rfl (by rfl) (by decide) rfl Tryd.func6 (by rfl) rfl ?_
  walk_nrmf Tryd.f6
  refine Goes.stillZ (termsZ A) rfl (fun _ => stepG_seq) ?_
  (refine Goes.stillZ (termsZ A) rfl (fun _ => stepG_region) ?_; simp only [List.size_toArray, List.length_cons, List.length_nil, Nat.reduceAdd, Nat.zero_add, List.range, List.range.loop])
  (refine Goes.operZ rfl (by rfl) (by decide) ?_; intro wx hx K hK; replace hF := HZ.rely hF hx; clear hx; go_simp; refine hK _ _ ⟨?_, ?_⟩; (· (rw [listed_nil (by simp [go_sem])]; exact (termsZ A).idle _)); clear hK K; try walk_nrm)
  (refine Goes.operZ rfl (by rfl) (by decide) ?_; intro wx hx K hK; replace hF := HZ.rely hF hx; clear hx; go_simp; refine hK _ _ ⟨?_, ?_⟩; (· (rw [listed_nil (by simp [go_sem])]; exact (termsZ A).idle _)); clear hK K; try walk_nrm)
  refine Goes.stillZ (termsZ A) rfl (fun _ => stepG_region_end) ?_
  refine Goes.stillZ (termsZ A) rfl (fun _ => stepG_seq) ?_
  refine Goes.stillZ (termsZ A) rfl (fun _ => stepG_seq) ?_
  (refine Goes.stillZ (termsZ A) rfl (fun _ => stepG_region) ?_; simp only [List.size_toArray, List.length_cons, List.length_nil, Nat.reduceAdd, Nat.zero_add, List.range, List.range.loop])
  (refine Goes.operZ rfl (by rfl) (by decide) ?_; intro wx hx K hK; replace hF := HZ.rely hF hx; clear hx; go_simp; refine hK _ _ ⟨?_, ?_⟩; (· (rw [listed_nil (by simp [go_sem])]; exact (termsZ A).idle _)); clear hK K; try walk_nrm)
  by_cases hlt : k < 0
  · replace hlt : decide (k < 0) = true := decide_eq_true hlt
    (refine Goes.operZ rfl (by rfl) (by decide) ?_; intro wx hx K hK; replace hF := HZ.rely hF hx; clear hx; go_simp; refine hK _ _ ⟨?_, ?_⟩; (· (rw [listed_nil (by simp [go_sem])]; exact (termsZ A).idle _)); clear hK K; try walk_nrm)
    (refine Goes.operZ rfl (by rfl) (by decide) ?_; intro wx hx K hK; replace hF := HZ.rely hF hx; clear hx; go_simp; refine hK _ _ ⟨?_, ?_⟩; (· (rw [listed_nil (by simp [go_sem])]; exact (termsZ A).idle _)); clear hK K; try walk_nrm)
    refine Goes.stillZ (termsZ A) rfl (fun _ => stepG_unwanted rfl rfl) ?_
    walk_nrm
    refine Goes.stillZ (termsZ A) rfl (fun _ => stepG_unwanted rfl rfl) ?_
    walk_nrm
    (refine Goes.operZ rfl (by rfl) (by decide) ?_; intro wx hx K hK; replace hF := HZ.rely hF hx; clear hx; go_simp; refine hK _ _ ⟨?_, ?_⟩; (· (rw [listed_nil (by simp [go_sem])]; exact (termsZ A).idle _)); clear hK K; try walk_nrm)
    refine Goes.stillZ (termsZ A) rfl (fun _ => stepG_region_end) ?_
    refine Goes.stillZ (termsZ A) rfl (fun _ => stepG_cond (t := true) (by simp [Act.eval])) ?_
    simp only [if_true]
    refine Goes.stillZ (termsZ A) rfl (fun _ => stepG_seq) ?_
    (refine Goes.stillZ (termsZ A) rfl (fun _ => stepG_region) ?_; simp only [List.size_toArray, List.length_cons, List.length_nil, Nat.reduceAdd, Nat.zero_add, List.range, List.range.loop])
    (refine Goes.operZ rfl (by rfl) (by decide) ?_; intro wx hx K hK; replace hF := HZ.rely hF hx; clear hx; go_simp; refine hK _ _ ⟨?_, ?_⟩; (· (rw [listed_nil (by simp [go_sem])]; exact (termsZ A).idle _)); clear hK K; try walk_nrm)
    (refine Goes.operZ rfl (by rfl) (by decide) ?_; intro wx hx K hK; replace hF := HZ.rely hF hx; clear hx; go_simp; refine hK _ _ ⟨?_, ?_⟩; (· (rw [listed_nil (by simp [go_sem])]; exact (termsZ A).idle _)); clear hK K; try walk_nrm)
    refine Goes.stillZ (termsZ A) rfl (fun _ => stepG_region_end) ?_
    refine Goes.stillZ (termsZ A) rfl (fun _ => stepG_ret') ?_
    refine Goes.leave2Z (termsZ A) rfl rfl Tryd.func6 rfl ?_
    refine Go.Conc.Goes.stop fun w12 hx => ?_
    rw [← hK0]
    rfl
  · have hgt : decide (12 < k) = true := decide_eq_true (by omega)
    have hgt2 : decide (k > 12) = true := decide_eq_true (by omega)
    replace hlt : decide (k < 0) = false := decide_eq_false hlt
    (refine Goes.operZ rfl (by rfl) (by decide) ?_; intro wx hx K hK; replace hF := HZ.rely hF hx; clear hx; go_simp; refine hK _ _ ⟨?_, ?_⟩; (· (rw [listed_nil (by simp [go_sem])]; exact (termsZ A).idle _)); clear hK K; try walk_nrm)
    (refine Goes.operZ rfl (by rfl) (by decide) ?_; intro wx hx K hK; replace hF := HZ.rely hF hx; clear hx; go_simp; refine hK _ _ ⟨?_, ?_⟩; (· (rw [listed_nil (by simp [go_sem])]; exact (termsZ A).idle _)); clear hK K; try walk_nrm)
    (refine Goes.operZ rfl (by rfl) (by decide) ?_; intro wx hx K hK; replace hF := HZ.rely hF hx; clear hx; go_simp; refine hK _ _ ⟨?_, ?_⟩; (· (rw [listed_nil (by simp [go_sem])]; exact (termsZ A).idle _)); clear hK K; try walk_nrm)
    (refine Goes.operZ rfl (by rfl) (by decide) ?_; intro wx hx K hK; replace hF := HZ.rely hF hx; clear hx; go_simp; refine hK _ _ ⟨?_, ?_⟩; (· (rw [listed_nil (by simp [go_sem])]; exact (termsZ A).idle _)); clear hK K; try walk_nrm)
    (refine Goes.operZ rfl (by rfl) (by decide) ?_; intro wx hx K hK; replace hF := HZ.rely hF hx; clear hx; go_simp; refine hK _ _ ⟨?_, ?_⟩; (· (rw [listed_nil (by simp [go_sem])]; exact (termsZ A).idle _)); clear hK K; try walk_nrm)
    refine Goes.stillZ (termsZ A) rfl (fun _ => stepG_region_end) ?_
    refine Goes.stillZ (termsZ A) rfl (fun _ => stepG_cond (t := true) (by simp [Act.eval])) ?_
    simp only [if_true]
    refine Goes.stillZ (termsZ A) rfl (fun _ => stepG_seq) ?_
    (refine Goes.stillZ (termsZ A) rfl (fun _ => stepG_region) ?_; simp only [List.size_toArray, List.length_cons, List.length_nil, Nat.reduceAdd, Nat.zero_add, List.range, List.range.loop])
    (refine Goes.operZ rfl (by rfl) (by decide) ?_; intro wx hx K hK; replace hF := HZ.rely hF hx; clear hx; go_simp; refine hK _ _ ⟨?_, ?_⟩; (· (rw [listed_nil (by simp [go_sem])]; exact (termsZ A).idle _)); clear hK K; try walk_nrm)
    (refine Goes.operZ rfl (by rfl) (by decide) ?_; intro wx hx K hK; replace hF := HZ.rely hF hx; clear hx; go_simp; refine hK _ _ ⟨?_, ?_⟩; (· (rw [listed_nil (by simp [go_sem])]; exact (termsZ A).idle _)); clear hK K; try walk_nrm)
    refine Goes.stillZ (termsZ A) rfl (fun _ => stepG_region_end) ?_
    refine Goes.stillZ (termsZ A) rfl (fun _ => stepG_ret') ?_
    refine Goes.leave2Z (termsZ A) rfl rfl Tryd.func6 rfl ?_
    refine Go.Conc.Goes.stop fun w12 hx => ?_
    rw [← hK0]
    rfl
end
end Go.Proofs.YtmphfdibijbjeaaDoor
