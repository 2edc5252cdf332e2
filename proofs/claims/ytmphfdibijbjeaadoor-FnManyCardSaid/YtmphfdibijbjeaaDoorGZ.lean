/- FnMany: the outer loop, in company (printed by genmw2.py). -/
import Derived.Test.YtmphfdibijbjeaaDoorGY
namespace Go.Proofs.YtmphfdibijbjeaaDoor
open Go.Conc Go.ConcN Go.RowKit
set_option linter.unusedSimpArgs false
set_option linter.unusedVariables false
set_option maxRecDepth 100000
theorem NN.done {Lo bd bw bn i : Nat} {w : World} (h : NN Lo bd bw bn i (3 * i + 1) 0 w) : NW Lo bd bn (i + 1) w :=
  ⟨⟨h.nw.lo.1, h.lo⟩, ⟨h.nw.lt.1, h.lt⟩, h.ne.1, h.nw.dig, fun x hx => by rw [h.cell (by omega), prt_done]⟩
theorem prt_zero (i x : Nat) : prt i 0 0 x = 0 := by rw [prt]
theorem made_get (v : Value) (n x : Nat) (h : x < n) : (madeCells #[v] n)[x]? = some v := by
  unfold madeCells
  rw [Array.getElem?_map]
  simp [h, Nat.mod_one]
theorem mks : (Tryd.prog.info? 3).map (fun i => (i.zero, i.size, i.bytes)) = some (some (.int .i64 0), 1, 8) := by kernel_rfl
theorem mkSliceR (M : Nat) (hM : M ≤ 100) (w : World) : (Instr.makeSlice 26 (.int .i64 (M : Nat)) (.int .i64 (M : Nat))).run Tryd.prog w = .ok (.slice (some ⟨w.heap.size, 0, none⟩) M M) (w.alloc (.cells (madeCells #[.int .i64 0] M) 3)) := by
  obtain ⟨i, hi, he⟩ := Option.map_eq_some_iff.1 mks
  simp only [Prod.mk.injEq] at he
  obtain ⟨h1, h2, h3⟩ := he
  have := run_makeSlice (P := Tryd.prog) w 26 3 i (.int .i64 0) Tryd.underlying26 hi h1 .i64 .i64 (M : Int) (M : Int) (by omega) (by omega) (by rw [h2]; omega) (by rw [h3]; omega) (by omega)
  rw [h2] at this
  simpa [Value.cells] using this
theorem mkSliceE (M : Nat) (hM : M ≤ 100) (hM0 : 0 < M) (w : World) (es : Array Event) : (Instr.makeSlice 26 (.int .i64 (M : Nat)) (.int .i64 (M : Nat))).events Tryd.prog w es = es := by
  obtain ⟨i, hi, he⟩ := Option.map_eq_some_iff.1 mks
  simp only [Prod.mk.injEq] at he
  obtain ⟨h1, h2, h3⟩ := he
  have wc : IntKind.i64.wrap (M : Int) = (M : Int) := by rw [IntKind.wrap_i64]; omega
  have n1 : ¬ (M : Int) < 0 := by omega
  have n2 : ¬ (281474976710656 < (8 : Int) * (M : Int)) := by omega
  have hn : ¬ M = 0 := by omega
  have hr : ¬ roomBytes < M * 8 := by unfold roomBytes; omega
  simp [Instr.makeSlice, run_underlying Tryd.underlying26, asInt, asIntOf, typeInfo, hi, h1, h2, h3, sizeOf, zeroValue, newRow, wc, n1, n2, hn, askRoom, hr]
theorem NW.make {Lo bd bw i M : Nat} {w : World} (h : NW Lo bd bw i w) (hLo : Lo ≤ w.heap.size) (hM : M = 3 * i + 4) : NN Lo bd bw w.heap.size i 0 0 (w.alloc (.cells (madeCells #[.int .i64 0] M) 3)) := by
  have hc : ∀ c, c < w.heap.size → ∀ x, (w.alloc (.cells (madeCells #[.int .i64 0] M) 3)).cell? ⟨c, x, none⟩ = w.cell? ⟨c, x, none⟩ := fun c hc x => World.cell?_of_block (Below.heap_alloc w _ c hc)
  have h1 := h.lt
  refine ⟨⟨h.lo, by simp; omega, h.ne, fun x hx => (hc _ h1.1 x).trans (h.dig x hx), fun x hx => (hc _ h1.2 x).trans (h.ways x hx)⟩, hLo, ⟨by omega, by omega⟩, _, heap_alloc_new w _, by rw [size_madeCells, hM], fun x hx => ?_⟩
  rw [prt_zero]
  exact made_get _ _ _ (by omega)
set_option maxHeartbeats 16000000 in
theorem loop0 {Lo bd bw0 : Nat} {Q : Exit → Act → World → Prop} {w : World} (hF : NW Lo bd bw0 0 w) (v0 v1 v2 v3 v4 v5 v6 v7 v11 v12 v13 v14 v15 v16 v17 v18 v19 v20 v21 v22 v23 v24 v25 v26 v27 v28 v29 v30 v31 v32 v33 v34 v35 v36 v37 v38 v39 v40 v41 v42 v43 v44 v45 v46 v47 v48 v49 v50 v51 v52 v53 v54 v55 v56 v57 v58 v59 v60 v61 v62 v63 v64 v65 v66 v67 v68 v69 v70 v71 v72 v73 v74 v75 v76 v77 v78 v79 v80 v81 v82 v83 v84 v85 v86 v87 v88 v89 v90 v91 v92 v93 v94 v95 v96 : Value)
    (hQ : ∀ (bw : Nat) (v11 v12 v13 v51 v52 v53 v54 v55 v56 v57 v58 v59 v60 v61 v62 v63 v64 v65 v66 v67 v68 v69 v70 v71 v72 v73 v74 v75 v76 v77 v78 v79 v80 v81 v82 v83 v84 v85 v86 v87 v88 v89 v90 : Value) (w : World), NW Lo bd bw 4 w → Q .normal ⟨#[v0, v1, v2, v3, v4, v5, v6, v7, .slice (some ⟨bd, 0, none⟩) 4 4, .slice (some ⟨bw, 0, none⟩) 13 13, .int .i64 (4 : Nat), v11, v12, v13, v14, v15, v16, v17, v18, v19, v20, v21, v22, v23, v24, v25, v26, v27, v28, v29, v30, v31, v32, v33, v34, v35, v36, v37, v38, v39, v40, v41, v42, v43, v44, v45, v46, v47, v48, v49, v50, v51, v52, v53, v54, v55, v56, v57, v58, v59, v60, v61, v62, v63, v64, v65, v66, v67, v68, v69, v70, v71, v72, v73, v74, v75, v76, v77, v78, v79, v80, v81, v82, v83, v84, v85, v86, v87, v88, v89, v90, v91, v92, v93, v94, v95, v96], []⟩ w) :
    (sR (sL x8M)).wpC Tryd.prog true AtRel (DSz Lo) 3 65008 Q ⟨#[v0, v1, v2, v3, v4, v5, v6, v7, .slice (some ⟨bd, 0, none⟩) 4 4, .slice (some ⟨bw0, 0, none⟩) 1 1, .int .i64 (0 : Nat), v11, v12, v13, v14, v15, v16, v17, v18, v19, v20, v21, v22, v23, v24, v25, v26, v27, v28, v29, v30, v31, v32, v33, v34, v35, v36, v37, v38, v39, v40, v41, v42, v43, v44, v45, v46, v47, v48, v49, v50, v51, v52, v53, v54, v55, v56, v57, v58, v59, v60, v61, v62, v63, v64, v65, v66, v67, v68, v69, v70, v71, v72, v73, v74, v75, v76, v77, v78, v79, v80, v81, v82, v83, v84, v85, v86, v87, v88, v89, v90, v91, v92, v93, v94, v95, v96], []⟩ w := by
  have hA : ∀ (i bw bn L M : Nat), L = 3 * i + 1 → M = 3 * i + 4 → i < 4 → ∀ (Q : Exit → Act → World → Prop) (w : World), NN Lo bd bw bn i 0 0 w → ∀ (v0 v1 v2 v3 v4 v5 v6 v7 v13 v14 v15 v16 v17 v18 v19 v20 v21 v22 v23 v24 v25 v26 v27 v28 v29 v30 v31 v32 v33 v34 v35 v36 v37 v38 v39 v40 v41 v42 v43 v44 v45 v46 v47 v48 v49 v50 v51 v52 v53 v54 v55 v56 v57 v58 v59 v60 v61 v62 v63 v64 v65 v66 v67 v68 v69 v70 v71 v72 v73 v74 v75 v76 v77 v78 v79 v80 v81 v82 v83 v84 v85 v86 v87 v88 v89 v90 v91 v92 v93 v94 v95 v96 : Value), (∀ (v12 v13 v59 v60 v61 v62 v63 v64 v65 v66 v67 v68 v69 v70 v71 v72 v73 v74 v75 v76 v77 v78 v79 v80 v81 v82 v83 v84 v85 v86 v87 v88 v89 : Value) (w : World), NN Lo bd bw bn i (3 * i + 1) 0 w → Q .normal ⟨#[v0, v1, v2, v3, v4, v5, v6, v7, .slice (some ⟨bd, 0, none⟩) 4 4, .slice (some ⟨bw, 0, none⟩) L L, .int .i64 (i : Nat), .slice (some ⟨bn, 0, none⟩) M M, v12, v13, v14, v15, v16, v17, v18, v19, v20, v21, v22, v23, v24, v25, v26, v27, v28, v29, v30, v31, v32, v33, v34, v35, v36, v37, v38, v39, v40, v41, v42, v43, v44, v45, v46, v47, v48, v49, v50, v51, v52, v53, v54, v55, v56, v57, v58, v59, v60, v61, v62, v63, v64, v65, v66, v67, v68, v69, v70, v71, v72, v73, v74, v75, v76, v77, v78, v79, v80, v81, v82, v83, v84, v85, v86, v87, v88, v89, v90, v91, v92, v93, v94, v95, v96], []⟩ w) → (sR (sL (sR b1M))).wpC Tryd.prog true AtRel (DSz Lo) 3 12114 Q ⟨#[v0, v1, v2, v3, v4, v5, v6, v7, .slice (some ⟨bd, 0, none⟩) 4 4, .slice (some ⟨bw, 0, none⟩) L L, .int .i64 (i : Nat), .slice (some ⟨bn, 0, none⟩) M M, .int .i64 (0 : Nat), v13, v14, v15, v16, v17, v18, v19, v20, v21, v22, v23, v24, v25, v26, v27, v28, v29, v30, v31, v32, v33, v34, v35, v36, v37, v38, v39, v40, v41, v42, v43, v44, v45, v46, v47, v48, v49, v50, v51, v52, v53, v54, v55, v56, v57, v58, v59, v60, v61, v62, v63, v64, v65, v66, v67, v68, v69, v70, v71, v72, v73, v74, v75, v76, v77, v78, v79, v80, v81, v82, v83, v84, v85, v86, v87, v88, v89, v90, v91, v92, v93, v94, v95, v96], []⟩ w := fun i bw bn L M hL hM hi Q w hF v0 v1 v2 v3 v4 v5 v6 v7 v13 v14 v15 v16 v17 v18 v19 v20 v21 v22 v23 v24 v25 v26 v27 v28 v29 v30 v31 v32 v33 v34 v35 v36 v37 v38 v39 v40 v41 v42 v43 v44 v45 v46 v47 v48 v49 v50 v51 v52 v53 v54 v55 v56 v57 v58 v59 v60 v61 v62 v63 v64 v65 v66 v67 v68 v69 v70 v71 v72 v73 v74 v75 v76 v77 v78 v79 v80 v81 v82 v83 v84 v85 v86 v87 v88 v89 v90 v91 v92 v93 v94 v95 v96 hQ => loopA hL hM hi hF v0 v1 v2 v3 v4 v5 v6 v7 v13 v14 v15 v16 v17 v18 v19 v20 v21 v22 v23 v24 v25 v26 v27 v28 v29 v30 v31 v32 v33 v34 v35 v36 v37 v38 v39 v40 v41 v42 v43 v44 v45 v46 v47 v48 v49 v50 v51 v52 v53 v54 v55 v56 v57 v58 v59 v60 v61 v62 v63 v64 v65 v66 v67 v68 v69 v70 v71 v72 v73 v74 v75 v76 v77 v78 v79 v80 v81 v82 v83 v84 v85 v86 v87 v88 v89 v90 v91 v92 v93 v94 v95 v96 hQ
  simp only [b1M, l0M, x8M, x6M, lIn, bIn, sL, sR, bodyM, Tryd.f3, Option.getD_some] at hA ⊢
  co_apply wpC_block (termsZ Lo)
  refine wpC_loop (termsZ Lo) (fun act w => ∃ (i bw L : Nat) (v11 v12 v13 v51 v52 v53 v54 v55 v56 v57 v58 v59 v60 v61 v62 v63 v64 v65 v66 v67 v68 v69 v70 v71 v72 v73 v74 v75 v76 v77 v78 v79 v80 v81 v82 v83 v84 v85 v86 v87 v88 v89 v90 : Value), act = ⟨#[v0, v1, v2, v3, v4, v5, v6, v7, .slice (some ⟨bd, 0, none⟩) 4 4, .slice (some ⟨bw, 0, none⟩) L L, .int .i64 (i : Nat), v11, v12, v13, v14, v15, v16, v17, v18, v19, v20, v21, v22, v23, v24, v25, v26, v27, v28, v29, v30, v31, v32, v33, v34, v35, v36, v37, v38, v39, v40, v41, v42, v43, v44, v45, v46, v47, v48, v49, v50, v51, v52, v53, v54, v55, v56, v57, v58, v59, v60, v61, v62, v63, v64, v65, v66, v67, v68, v69, v70, v71, v72, v73, v74, v75, v76, v77, v78, v79, v80, v81, v82, v83, v84, v85, v86, v87, v88, v89, v90, v91, v92, v93, v94, v95, v96], []⟩ ∧ i ≤ 4 ∧ Hid (L = 3 * i + 1) ∧ NW Lo bd bw i w) (fun act _ => 4 - (intOf (act.tmps.getD 10 undef)).toNat) 13000 4 ?_ ?_ ?_
  · exact ⟨0, bw0, 1, _, _, _, _, _, _, _, _, _, _, _, _, _, _, _, _, _, _, _, _, _, _, _, _, _, _, _, _, _, _, _, _, _, _, _, _, _, _, _, _, _, _, _, rfl, by omega, Lib.hid (by omega), hF⟩
  · exact Nat.sub_le _ _
  clear hF
  rintro act w ⟨i, bw, L, v11, v12, v13, v51, v52, v53, v54, v55, v56, v57, v58, v59, v60, v61, v62, v63, v64, v65, v66, v67, v68, v69, v70, v71, v72, v73, v74, v75, v76, v77, v78, v79, v80, v81, v82, v83, v84, v85, v86, v87, v88, v89, v90, rfl, hi4, HL, hF⟩
  by_cases hi : i < 4
  · have hlt : decide ((i : Int) < 4) = true := decide_eq_true (by omega)
    obtain ⟨ii, hii⟩ : ∃ ii : Nat, ii = i + 1 := ⟨_, rfl⟩
    have e4 : IntKind.i64.wrap ((i : Int) + 1) = (ii : Int) := by rw [IntKind.wrap_i64]; omega
    obtain ⟨M, hM⟩ : ∃ M : Nat, M = L + 3 := ⟨_, rfl⟩
    have e5 : IntKind.i64.wrap ((L : Int) + 3) = (M : Int) := by have := HL.out; rw [IntKind.wrap_i64]; omega
    have hMb : M ≤ 100 := by have := HL.out; omega
    have HM : Hid (M = 3 * i + 4) := Lib.hid (by have := HL.out; omega)
    have HI := Lib.hid hii
    have Hi := Lib.hid hi
    clear hM hii
    co_apply wpC_more
    co_apply wpC_seq (termsZ Lo)
    co_apply wpC_seq (termsZ Lo)
    co_reg (termsZ Lo)
    co_op NW.rely hF (co_quiet (termsZ Lo))
    co_op NW.rely hF (co_quiet (termsZ Lo))
    co_apply opsC_nil (termsZ Lo)
    co_then
    co_apply wpC_cond (termsZ Lo) (t := true)
    focus simp [Act.eval, hlt, hi]
    simp only [if_true]
    co_apply wpC_skip (termsZ Lo)
    co_then
    co_apply wpC_seq (termsZ Lo)
    co_apply wpC_block (termsZ Lo)
    co_apply wpC_seq (termsZ Lo)
    co_reg (termsZ Lo)
    co_op NW.rely hF (co_quiet (termsZ Lo))
    co_op NW.rely hF (co_quiet (termsZ Lo))
    co_op NW.rely hF (co_quiet (termsZ Lo))
    co_apply opsC_cons_k rfl (by rfl)
    intro w1 hx K hK
    replace hF := NW.rely hF hx
    clear hx
    have hmr := mkSliceR M hMb w1
    have hme := mkSliceE M hMb (by have := HM.out; omega) w1
    go_simp
    refine hK _ _ ⟨?_, ?_⟩
    · rw [listed_nil (by simp [go_sem, hme])]
      exact dz_alloc (by have := hF.lo; have := hF.lt; omega) _
    clear hK K hmr hme
    try walk_nrm
    have hN := hF.make (by have := hF.lo; have := hF.lt; omega) HM.out
    generalize w1.heap.size = bn at *
    generalize w1.alloc _ = w2 at *
    clear hF
    co_op NN.rely hN (co_quiet (termsZ Lo))
    co_apply opsC_nil (termsZ Lo)
    co_then
    co_apply wpC_seq (termsZ Lo)
    co_apply wpC_seq (termsZ Lo)
    co_reg (termsZ Lo)
    co_op NN.rely hN (co_quiet (termsZ Lo))
    co_apply opsC_nil (termsZ Lo)
    co_then
    refine hA i bw bn L M HL.out HM.out Hi.out _ _ hN _ _ _ _ _ _ _ _ _ _ _ _ _ _ _ _ _ _ _ _ _ _ _ _ _ _ _ _ _ _ _ _ _ _ _ _ _ _ _ _ _ _ _ _ _ _ _ _ _ _ _ _ _ _ _ _ _ _ _ _ _ _ _ _ _ _ _ _ _ _ _ _ _ _ _ _ _ _ _ _ _ _ _ _ _ _ _ _ _ _ _ _ ?_
    clear hN
    intro v12 v13 v59 v60 v61 v62 v63 v64 v65 v66 v67 v68 v69 v70 v71 v72 v73 v74 v75 v76 v77 v78 v79 v80 v81 v82 v83 v84 v85 v86 v87 v88 v89 w hN
    try co_then
    co_reg (termsZ Lo)
    co_op NN.rely hN (co_quiet (termsZ Lo))
    co_op NN.rely hN (co_quiet (termsZ Lo))
    co_apply opsC_nil (termsZ Lo)
    co_then
    co_reg (termsZ Lo)
    co_op NN.rely hN (co_quiet (termsZ Lo))
    co_op NN.rely hN (co_quiet (termsZ Lo))
    co_op NN.rely hN (co_quiet (termsZ Lo))
    co_apply opsC_nil (termsZ Lo)
    co_then
    exact ⟨⟨ii, bn, M, _, _, _, _, _, _, _, _, _, _, _, _, _, _, _, _, _, _, _, _, _, _, _, _, _, _, _, _, _, _, _, _, _, _, _, _, _, _, _, _, _, _, _, rfl, by have := HI.out; have := Hi.out; omega, Lib.hid (by have := HI.out; have := HM.out; omega), by rw [HI.out]; exact hN.done⟩, by have := HI.out; have := Hi.out; simp [intOf]; omega⟩
    omega
  · obtain rfl : i = 4 := by omega
    obtain rfl : L = 13 := by have := HL.out; omega
    co_apply wpC_more
    co_apply wpC_seq (termsZ Lo) (n₂ := 0)
    co_apply wpC_seq (termsZ Lo)
    co_reg (termsZ Lo)
    co_op NW.rely hF (co_quiet (termsZ Lo))
    co_op NW.rely hF (co_quiet (termsZ Lo))
    co_apply opsC_nil (termsZ Lo)
    co_then
    co_apply wpC_cond (termsZ Lo) (t := false)
    focus simp [Act.eval]
    simp only [if_false, Bool.false_eq_true]
    co_ctl (termsZ Lo)
    co_then
    exact hQ bw _ _ _ _ _ _ _ _ _ _ _ _ _ _ _ _ _ _ _ _ _ _ _ _ _ _ _ _ _ _ _ _ _ _ _ _ _ _ _ _ _ _ _ _ hF
    omega
end Go.Proofs.YtmphfdibijbjeaaDoor
