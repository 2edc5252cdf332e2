/- FnExactStrokeMany: into countNumbers' loop, alone; and from its return to the run's end. -/
import Derived.Test.YtmphfdibijbjeaaDoorGB
import Derived.Test.YtmphfdibijbjeaaDoorGC
import Derived.Test.YtmphfdibijbjeaaDoorHZ
namespace Go.Proofs.YtmphfdibijbjeaaDoor
open Go.Conc Go.ConcN Go.RowKit
open Go.ConcR (wgBlock WgAt)
set_option linter.unusedSimpArgs false
set_option linter.unusedVariables false
set_option maxRecDepth 100000
noncomputable def lawB : Code := Tryd.f4.body.getD .skip
noncomputable def lr2 : Code := sL (sR (sR lawB))
noncomputable def lr3 : Code := sR (sR (sR lawB))
/-- the law's slots at the call of StrokeMany -/
def lwA (k T : Int) (ok : Bool) (v : Value) : Act :=
  ⟨#[.int .i64 k, undef, .bool false, .int .i64 T, .bool ok, undef, undef, .tuple #[.int .i64 T, .bool ok], .int .i64 k, .tuple #[.int .i64 T, .bool ok], .int .i64 T, .bool ok, undef, .int .i64 k, v, undef, undef, undef, undef, undef, undef, undef, undef, undef, undef], []⟩
noncomputable def lwF (k T : Int) (ok : Bool) : Frame := (base 4).at (lwA k T ok undef) (.inRegion (opsOf lr2) [1, 2, 3, 4, 5, 6] :: [.code lr3])
theorem putL (k T : Int) (ok : Bool) (v : Value) : (lwA k T ok undef).put (((opsOf lr2)[1]?).bind (·.dst)) v = lwA k T ok v := by
  simp only [lwA, opsOf, lr2, lawB, sL, sR, Tryd.f4, Option.getD_some]
  simp [Act.put]
noncomputable def smB : Code := Tryd.f6.body.getD .skip
noncomputable def sm3 : Code := sL (sR (sR smB))
noncomputable def sm4 : Code := sR (sR (sR smB))
/-- StrokeMany's slots at the call of countNumbers -/
def smA (k : Int) (v : Value) : Act := ⟨#[.int .i64 k, undef, .int .i64 0, .bool false, .int .i64 k, .bool false, .bool false, .int .i64 k, .bool false, .bool false, .int .i64 k, v], []⟩
section
variable {A N Wg n : Nat} {Post : Value → World → Prop} {w : World} {k T : Int} {cs : List Frame}
set_option maxHeartbeats 8000000 in
theorem lawEnd (ok : Bool) (hp : ∀ d, Post (.bool true) (w.at d)) :
    FinG Tryd.prog Wg Post 60 (G ((base 4).at (lwA k T ok (.tuple #[.int .i64 T, .bool ok])) (.inRegion (opsOf lr2) [2, 3, 4, 5, 6] :: [.code lr3])) []) w := by
  cases ok
  all_goals
    simp only [lwA, lr2, lr3, opsOf, lawB, sL, sR, Tryd.f4, Option.getD_some]
    (refine FinG.oper_k rfl (by rfl) (by decide) ?_; intro dx K hK; go_simp; refine hK _ _ ⟨?_, FinG.at ?_ dx⟩; (· (rw [listed_nil (by simp [go_sem])]; exact evP_none)); clear hK K dx; try walk_nrm)
    (refine FinG.oper_k rfl (by rfl) (by decide) ?_; intro dx K hK; go_simp; refine hK _ _ ⟨?_, FinG.at ?_ dx⟩; (· (rw [listed_nil (by simp [go_sem])]; exact evP_none)); clear hK K dx; try walk_nrm)
    (refine FinG.oper_k rfl (by rfl) (by decide) ?_; intro dx K hK; go_simp; refine hK _ _ ⟨?_, FinG.at ?_ dx⟩; (· (rw [listed_nil (by simp [go_sem])]; exact evP_none)); clear hK K dx; try walk_nrm)
    (refine FinG.oper_k rfl (by rfl) (by decide) ?_; intro dx K hK; go_simp; refine hK _ _ ⟨?_, FinG.at ?_ dx⟩; (· (rw [listed_nil (by simp [go_sem])]; exact evP_none)); clear hK K dx; try walk_nrm)
    (refine FinG.oper_k rfl (by rfl) (by decide) ?_; intro dx K hK; go_simp; refine hK _ _ ⟨?_, FinG.at ?_ dx⟩; (· (rw [listed_nil (by simp [go_sem])]; exact evP_none)); clear hK K dx; try walk_nrm)
    refine FinG.still rfl (fun _ => stepG_region_end) ?_
    refine FinG.still rfl (fun _ => stepG_seq) ?_
    refine FinG.still rfl (fun _ => stepG_seq) ?_
    (refine FinG.still rfl (fun _ => stepG_region) ?_; simp only [List.size_toArray, List.length_cons, List.length_nil, Nat.reduceAdd, Nat.zero_add, List.range, List.range.loop])
    (refine FinG.oper_k rfl (by rfl) (by decide) ?_; intro dx K hK; go_simp; refine hK _ _ ⟨?_, FinG.at ?_ dx⟩; (· (rw [listed_nil (by simp [go_sem])]; exact evP_none)); clear hK K dx; try walk_nrm)
    (refine FinG.oper_k rfl (by rfl) (by decide) ?_; intro dx K hK; go_simp; refine hK _ _ ⟨?_, FinG.at ?_ dx⟩; (· (rw [listed_nil (by simp [go_sem])]; exact evP_none)); clear hK K dx; try walk_nrm)
    (refine FinG.oper_k rfl (by rfl) (by decide) ?_; intro dx K hK; go_simp; refine hK _ _ ⟨?_, FinG.at ?_ dx⟩; (· (rw [listed_nil (by simp [go_sem])]; exact evP_none)); clear hK K dx; try walk_nrm)
    (refine FinG.oper_k rfl (by rfl) (by decide) ?_; intro dx K hK; go_simp; refine hK _ _ ⟨?_, FinG.at ?_ dx⟩; (· (rw [listed_nil (by simp [go_sem])]; exact evP_none)); clear hK K dx; try walk_nrm)
    (refine FinG.oper_k rfl (by rfl) (by decide) ?_; intro dx K hK; go_simp; refine hK _ _ ⟨?_, FinG.at ?_ dx⟩; (· (rw [listed_nil (by simp [go_sem])]; exact evP_none)); clear hK K dx; try walk_nrm)
    (refine FinG.oper_k rfl (by rfl) (by decide) ?_; intro dx K hK; go_simp; refine hK _ _ ⟨?_, FinG.at ?_ dx⟩; (· (rw [listed_nil (by simp [go_sem])]; exact evP_none)); clear hK K dx; try walk_nrm)
    (refine FinG.oper_k rfl (by rfl) (by decide) ?_; intro dx K hK; go_simp; refine hK _ _ ⟨?_, FinG.at ?_ dx⟩; (· (rw [listed_nil (by simp [go_sem]; rfl)]; exact evP_none)); clear hK K dx; try walk_nrm)
    (refine FinG.oper_k rfl (by rfl) (by decide) ?_; intro dx K hK; go_simp; refine hK _ _ ⟨?_, FinG.at ?_ dx⟩; (· (rw [listed_nil (by simp [go_sem])]; exact evP_none)); clear hK K dx; try walk_nrm)
    refine FinG.still rfl (fun _ => stepG_region_end) ?_
    refine FinG.still rfl (fun _ => stepG_cond (t := false) (by simp [Act.eval])) ?_
    simp only [if_false, Bool.false_eq_true]
    refine FinG.still rfl (fun _ => stepG_skip) ?_
    refine FinG.still rfl (fun _ => stepG_seq) ?_
    (refine FinG.still rfl (fun _ => stepG_region) ?_; simp only [List.size_toArray, List.length_cons, List.length_nil, Nat.reduceAdd, Nat.zero_add, List.range, List.range.loop])
    (refine FinG.oper_k rfl (by rfl) (by decide) ?_; intro dx K hK; go_simp; refine hK _ _ ⟨?_, FinG.at ?_ dx⟩; (· (rw [listed_nil (by simp [go_sem])]; exact evP_none)); clear hK K dx; try walk_nrm)
    refine FinG.still rfl (fun _ => stepG_region_end) ?_
    refine FinG.still rfl (fun _ => stepG_ret') ?_
    exact (FinG.done1 (by kernel_rfl) rfl rfl Tryd.func4 rfl hp).mono (by omega)
set_option maxHeartbeats 8000000 in
theorem smEnd {b₀ : Frame} {a₀ : Act} {ops₀ : Array Oper} {i₀ : Nat} {rest₀ : List Nat} {k₀ : List Item} {cs' : List Frame}
    (h : FinG Tryd.prog Wg Post n (G (b₀.at (a₀.put ((ops₀[i₀]?).bind (·.dst)) (.tuple #[.int .i64 T, .bool true])) (.inRegion ops₀ rest₀ :: k₀)) cs') w) :
    FinG Tryd.prog Wg Post (n + 10) (G ((base 6).at (smA k (.int .i64 T)) (.inRegion (opsOf sm3) [2, 3] :: [.code sm4])) (b₀.at a₀ (.inRegion ops₀ (i₀ :: rest₀) :: k₀) :: cs')) w := by
  simp only [smA, sm3, sm4, opsOf, smB, sL, sR, Tryd.f6, Option.getD_some]
  (refine FinG.oper_k rfl (by rfl) (by decide) ?_; intro dx K hK; go_simp; refine hK _ _ ⟨?_, FinG.at ?_ dx⟩; (· (rw [listed_nil (by simp [go_sem])]; exact evP_none)); clear hK K dx; try walk_nrm)
  (refine FinG.oper_k rfl (by rfl) (by decide) ?_; intro dx K hK; go_simp; refine hK _ _ ⟨?_, FinG.at ?_ dx⟩; (· (rw [listed_nil (by simp [go_sem])]; exact evP_none)); clear hK K dx; try walk_nrm)
  refine FinG.still rfl (fun _ => stepG_region_end) ?_
  refine FinG.still rfl (fun _ => stepG_ret') ?_
  exact (FinG.leave2 rfl rfl Tryd.func6 rfl h).mono (by omega)
end
end Go.Proofs.YtmphfdibijbjeaaDoor
