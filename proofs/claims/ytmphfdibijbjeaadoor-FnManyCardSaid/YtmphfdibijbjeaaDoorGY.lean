/- FnMany: the loops that put the ways together, in company (printed by genmw.py). -/
import Derived.Test.YtmphfdibijbjeaaDoorGX
import Derived.Test.YtmphfdibijbjeaaDoorMc
import Derived.Test.YtmphfdibijbjeaaDoorVM
namespace Go.Proofs.YtmphfdibijbjeaaDoor
open Go.Conc Go.ConcN Go.RowKit
set_option linter.unusedSimpArgs false
set_option linter.unusedVariables false
set_option maxRecDepth 100000
noncomputable def bodyM : Code := Tryd.f3.body.getD .skip
noncomputable def x6M : Code := sR (sR (sR (sR (sR (sR bodyM)))))
noncomputable def x8M : Code := sR (sR x6M)
noncomputable def l0M : Code := lIn (bIn (sR (sL x8M)))
noncomputable def b1M : Code := bIn (sL (sR l0M))
noncomputable def l2M : Code := lIn (bIn (sR (sL (sR b1M))))
noncomputable def b3M : Code := bIn (sL (sR l2M))
noncomputable def l4M : Code := lIn (bIn (sR b3M))
/-- cells with numbers -/
def CellsAt (b : Nat) (f : Nat → Nat) (n : Nat) (w : World) : Prop := ∀ x, x < n → w.cell? ⟨b, x, none⟩ = some (.int .i64 (f x : Nat))
structure NW (Lo bd bw i : Nat) (w : World) : Prop where
  lo : Lo ≤ bd ∧ Lo ≤ bw
  lt : bd < w.heap.size ∧ bw < w.heap.size
  ne : bd ≠ bw
  dig : CellsAt bd dgc 4 w
  ways : CellsAt bw (wys i) (3 * i + 1) w
structure NN (Lo bd bw bn i a b : Nat) (w : World) : Prop where
  nw : NW Lo bd bw i w
  lo : Lo ≤ bn
  ne : bd ≠ bn ∧ bw ≠ bn
  blk : ∃ xs : Array Value, w.heap[bn]? = some (.cells xs 3) ∧ xs.size = 3 * i + 4 ∧ ∀ x, x < 3 * i + 4 → xs[x]? = some (.int .i64 (prt i a b x : Nat))
section
variable {Lo bd bw bn i a b : Nat} {w w₁ : World}
theorem NW.rely (h : NW Lo bd bw i w) (r : AtRel w w₁) : NW Lo bd bw i w₁ := by
  obtain ⟨d, rfl⟩ := r
  exact ⟨h.lo, h.lt, h.ne, h.dig, h.ways⟩
theorem NN.rely (h : NN Lo bd bw bn i a b w) (r : AtRel w w₁) : NN Lo bd bw bn i a b w₁ := by
  obtain ⟨d, rfl⟩ := r
  exact ⟨⟨h.nw.lo, h.nw.lt, h.nw.ne, h.nw.dig, h.nw.ways⟩, h.lo, h.ne, h.blk⟩
theorem NN.lt (h : NN Lo bd bw bn i a b w) : bn < w.heap.size := by
  obtain ⟨xs, e, _⟩ := h.blk
  exact (Array.getElem?_eq_some_iff.1 e).1
theorem NN.cell (h : NN Lo bd bw bn i a b w) {x : Nat} (hx : x < 3 * i + 4) : w.cell? ⟨bn, x, none⟩ = some (.int .i64 (prt i a b x : Nat)) := by
  obtain ⟨xs, e, _, f⟩ := h.blk
  simp [World.cell?, e, f x hx]
theorem NN.thaw (h : NN Lo bd bw bn i a b w) {x : Nat} : w.frozen? ⟨bn, x, none⟩ = false := by
  obtain ⟨xs, e, _, f⟩ := h.blk
  simp [World.frozen?, e]
theorem wys_le (i : Nat) : ∀ k, wys i k ≤ 10 ^ i := by
  induction i with
  | zero => intro k; unfold wys; split <;> simp
  | succ i ih =>
    intro k
    rw [wys, Nat.pow_succ]
    have h0 := ih k
    have h1 := ih (k - 1)
    have h2 := ih (k - 2)
    have h3 := ih (k - 3)
    generalize 10 ^ i = p at *
    split <;> split <;> split <;> omega
theorem dgc_le (b : Nat) : dgc b ≤ 5 := by
  unfold dgc
  rcases b with _ | _ | _ | _ | b <;> simp
theorem prt_le (hi : i < 4) : ∀ a b x, b ≤ 4 → prt i a b x ≤ (4 * a + b) * 5000
  | 0, 0, x, _ => by simp [prt]
  | a + 1, 0, x, _ => by
    rw [prt]
    have := prt_le hi a 4 x (Nat.le_refl _)
    omega
  | a, b + 1, x, h => by
    have e : prt i a (b + 1) x = prt i a b x + atV x (a + b) (wys i a * dgc b) := by rw [prt]
    rw [e]
    have h1 := prt_le hi a b x (by omega)
    have h2 : atV x (a + b) (wys i a * dgc b) ≤ 5000 := by
      have hw := wys_le i a
      have hd := dgc_le b
      have hp : 10 ^ i ≤ 1000 := by
        have := Nat.pow_le_pow_right (n := 10) (by omega) (show i ≤ 3 by omega)
        simpa using this
      have hm : wys i a * dgc b ≤ 1000 * 5 := Nat.mul_le_mul (Nat.le_trans hw hp) hd
      unfold atV
      split <;> omega
    omega
theorem NN.set (h : NN Lo bd bw bn i a b w) (hb : b < 4) (ha : a < 3 * i + 1) : NN Lo bd bw bn i a (b + 1) (w.setCell ⟨bn, a + b, none⟩ (.int .i64 (prt i a b (a + b) + wys i a * dgc b : Nat))) := by
  have hne := h.ne
  have hc : ∀ c, c ≠ bn → ∀ x, (w.setCell ⟨bn, a + b, none⟩ (.int .i64 (prt i a b (a + b) + wys i a * dgc b : Nat))).cell? ⟨c, x, none⟩ = w.cell? ⟨c, x, none⟩ := fun c hc x => by
    simp [World.cell?, World.setCell, Array.getElem?_modify, Ne.symm hc]
  refine ⟨⟨h.nw.lo, by simpa [World.setCell] using h.nw.lt, h.nw.ne, fun x hx => (hc _ hne.1 x).trans (h.nw.dig x hx), fun x hx => (hc _ hne.2 x).trans (h.nw.ways x hx)⟩, h.lo, h.ne, ?_⟩
  obtain ⟨xs, e, es, f⟩ := h.blk
  refine ⟨xs.setIfInBounds (a + b) (.int .i64 (prt i a b (a + b) + wys i a * dgc b : Nat)), by simp [World.setCell, Array.getElem?_modify, e], by simpa using es, fun x hx => ?_⟩
  have ep : prt i a (b + 1) x = prt i a b x + atV x (a + b) (wys i a * dgc b) := by rw [prt]
  rw [ep]
  by_cases hxe : a + b = x
  · subst hxe
    rw [Array.getElem?_setIfInBounds_self_of_lt (by omega)]
    simp [atV]
  · rw [Array.getElem?_setIfInBounds_ne hxe, f x hx]
    unfold atV
    rw [if_neg (Ne.symm hxe), Nat.add_zero]
theorem NN.next (h : NN Lo bd bw bn i a 4 w) : NN Lo bd bw bn i (a + 1) 0 w := by
  have e : ∀ x, prt i (a + 1) 0 x = prt i a 4 x := fun x => by simp only [prt]
  obtain ⟨xs, e1, e2, e3⟩ := h.blk
  exact ⟨h.nw, h.lo, h.ne, xs, e1, e2, fun x hx => by rw [e]; exact e3 x hx⟩
end
theorem Exit.thenN {Q1 : Act → World → Prop} {Q2 : Exit → Act → World → Prop} : Exit.then Q1 Q2 .normal = Q1 := rfl
set_option maxHeartbeats 16000000 in
/-- the digits, b = 0 .. 3 -/
theorem loopB {Lo bd bw bn i a L M : Nat} (hL : L = 3 * i + 1) (hM : M = 3 * i + 4) (hi : i < 4) (ha : a < 3 * i + 1) {Q : Exit → Act → World → Prop} {w : World} (hF : NN Lo bd bw bn i a 0 w) (v0 v1 v2 v3 v4 v5 v6 v7 v14 v15 v16 v17 v18 v19 v20 v21 v22 v23 v24 v25 v26 v27 v28 v29 v30 v31 v32 v33 v34 v35 v36 v37 v38 v39 v40 v41 v42 v43 v44 v45 v46 v47 v48 v49 v50 v51 v52 v53 v54 v55 v56 v57 v58 v59 v60 v61 v62 v63 v64 v65 v66 v67 v68 v69 v70 v71 v72 v73 v74 v75 v76 v77 v78 v79 v80 v81 v82 v83 v84 v85 v86 v87 v88 v89 v90 v91 v92 v93 v94 v95 v96 : Value)
    (hQ : ∀ (v13 v65 v66 v67 v68 v69 v70 v71 v72 v73 v74 v75 v76 v77 v78 v79 v80 v81 v82 v83 v84 v85 v86 v87 v88 v89 : Value) (w : World), NN Lo bd bw bn i (a + 1) 0 w → Q .normal ⟨#[v0, v1, v2, v3, v4, v5, v6, v7, .slice (some ⟨bd, 0, none⟩) 4 4, .slice (some ⟨bw, 0, none⟩) L L, .int .i64 (i : Nat), .slice (some ⟨bn, 0, none⟩) M M, .int .i64 (a : Nat), v13, v14, v15, v16, v17, v18, v19, v20, v21, v22, v23, v24, v25, v26, v27, v28, v29, v30, v31, v32, v33, v34, v35, v36, v37, v38, v39, v40, v41, v42, v43, v44, v45, v46, v47, v48, v49, v50, v51, v52, v53, v54, v55, v56, v57, v58, v59, v60, v61, v62, v63, v64, v65, v66, v67, v68, v69, v70, v71, v72, v73, v74, v75, v76, v77, v78, v79, v80, v81, v82, v83, v84, v85, v86, v87, v88, v89, v90, v91, v92, v93, v94, v95, v96], []⟩ w) :
    (sR b3M).wpC Tryd.prog true AtRel (DSz Lo) 3 1008 Q ⟨#[v0, v1, v2, v3, v4, v5, v6, v7, .slice (some ⟨bd, 0, none⟩) 4 4, .slice (some ⟨bw, 0, none⟩) L L, .int .i64 (i : Nat), .slice (some ⟨bn, 0, none⟩) M M, .int .i64 (a : Nat), .int .i64 (0 : Nat), v14, v15, v16, v17, v18, v19, v20, v21, v22, v23, v24, v25, v26, v27, v28, v29, v30, v31, v32, v33, v34, v35, v36, v37, v38, v39, v40, v41, v42, v43, v44, v45, v46, v47, v48, v49, v50, v51, v52, v53, v54, v55, v56, v57, v58, v59, v60, v61, v62, v63, v64, v65, v66, v67, v68, v69, v70, v71, v72, v73, v74, v75, v76, v77, v78, v79, v80, v81, v82, v83, v84, v85, v86, v87, v88, v89, v90, v91, v92, v93, v94, v95, v96], []⟩ w := by
  have HL := Lib.hid hL
  have HM := Lib.hid hM
  clear hL hM
  simp only [b3M, l2M, b1M, l0M, x8M, x6M, lIn, bIn, sL, sR, bodyM, Tryd.f3, Option.getD_some]
  co_apply wpC_block (termsZ Lo)
  refine wpC_loop (termsZ Lo) (fun act w => ∃ (b : Nat) (v65 v66 v67 v68 v69 v70 v71 v72 v73 v74 v75 v76 v77 v78 v79 v80 v81 v82 v83 v84 v85 v86 v87 v88 v89 : Value), act = ⟨#[v0, v1, v2, v3, v4, v5, v6, v7, .slice (some ⟨bd, 0, none⟩) 4 4, .slice (some ⟨bw, 0, none⟩) L L, .int .i64 (i : Nat), .slice (some ⟨bn, 0, none⟩) M M, .int .i64 (a : Nat), .int .i64 (b : Nat), v14, v15, v16, v17, v18, v19, v20, v21, v22, v23, v24, v25, v26, v27, v28, v29, v30, v31, v32, v33, v34, v35, v36, v37, v38, v39, v40, v41, v42, v43, v44, v45, v46, v47, v48, v49, v50, v51, v52, v53, v54, v55, v56, v57, v58, v59, v60, v61, v62, v63, v64, v65, v66, v67, v68, v69, v70, v71, v72, v73, v74, v75, v76, v77, v78, v79, v80, v81, v82, v83, v84, v85, v86, v87, v88, v89, v90, v91, v92, v93, v94, v95, v96], []⟩ ∧ b ≤ 4 ∧ NN Lo bd bw bn i a b w) (fun act _ => 4 - (intOf (act.tmps.getD 13 undef)).toNat) 200 4 ?_ ?_ ?_
  · exact ⟨0, _, _, _, _, _, _, _, _, _, _, _, _, _, _, _, _, _, _, _, _, _, _, _, _, _, rfl, by omega, hF⟩
  · exact Nat.sub_le _ _
  clear hF
  rintro act w ⟨b, v65, v66, v67, v68, v69, v70, v71, v72, v73, v74, v75, v76, v77, v78, v79, v80, v81, v82, v83, v84, v85, v86, v87, v88, v89, rfl, hb4, hF⟩
  by_cases hb : b < 4
  · have hlt : decide ((b : Int) < 4) = true := decide_eq_true (by omega)
    co_apply wpC_more
    co_apply wpC_seq (termsZ Lo)
    co_apply wpC_seq (termsZ Lo)
    co_reg (termsZ Lo)
    co_op NN.rely hF (co_quiet (termsZ Lo))
    co_op NN.rely hF (co_quiet (termsZ Lo))
    co_apply opsC_nil (termsZ Lo)
    co_then
    co_apply wpC_cond (termsZ Lo) (t := true)
    focus simp [Act.eval, hlt]
    simp only [if_true]
    co_apply wpC_skip (termsZ Lo)
    co_then
    co_apply wpC_seq (termsZ Lo)
    co_apply wpC_block (termsZ Lo)
    obtain ⟨c, hc⟩ : ∃ c : Nat, c = a + b := ⟨_, rfl⟩
    obtain ⟨p, hp⟩ : ∃ p : Nat, p = prt i a b c := ⟨_, rfl⟩
    obtain ⟨y, hy⟩ : ∃ y : Nat, y = wys i a := ⟨_, rfl⟩
    obtain ⟨d, hd⟩ : ∃ d : Nat, d = dgc b := ⟨_, rfl⟩
    obtain ⟨z, hz⟩ : ∃ z : Nat, z = y * d := ⟨_, rfl⟩
    obtain ⟨s, hs⟩ : ∃ s : Nat, s = p + z := ⟨_, rfl⟩
    have Hn : Hid (∀ w, NN Lo bd bw bn i a b w → w.cell? ⟨bn, c, none⟩ = some (.int .i64 (p : Nat))) := Lib.hid fun w h => by rw [hp]; exact h.cell (by omega)
    have Hw : Hid (∀ w, NN Lo bd bw bn i a b w → w.cell? ⟨bw, a, none⟩ = some (.int .i64 (y : Nat))) := Lib.hid fun w h => by rw [hy]; exact h.nw.ways a ha
    have Hd : Hid (∀ w, NN Lo bd bw bn i a b w → w.cell? ⟨bd, b, none⟩ = some (.int .i64 (d : Nat))) := Lib.hid fun w h => by rw [hd]; exact h.nw.dig b hb
    have Hset : Hid (∀ w, NN Lo bd bw bn i a b w → NN Lo bd bw bn i a (b + 1) (w.setCell ⟨bn, c, none⟩ (.int .i64 (s : Nat)))) := Lib.hid fun w h => by rw [hs, hz, hy, hd, hp, hc]; exact h.set hb ha
    have hpb : p ≤ 1000000 := by
      have := prt_le hi a b c (by omega)
      omega
    have hzb : z ≤ 5000 := by
      have hwl := wys_le i a
      have hdl := dgc_le b
      have hpw : 10 ^ i ≤ 1000 := by
        have := Nat.pow_le_pow_right (n := 10) (by omega) (show i ≤ 3 by omega)
        simpa using this
      rw [hz, hy, hd]
      exact Nat.mul_le_mul (Nat.le_trans hwl hpw) hdl
    have e1 : IntKind.i64.wrap ((a : Int) + (b : Int)) = (c : Int) := by rw [IntKind.wrap_i64]; omega
    have e2 : IntKind.i64.wrap ((y : Int) * (d : Int)) = (z : Int) := by
      have : (y : Int) * (d : Int) = ((z : Nat) : Int) := by rw [hz]; simp
      rw [this, IntKind.wrap_i64]; omega
    have e3 : IntKind.i64.wrap ((p : Int) + (z : Int)) = (s : Int) := by rw [IntKind.wrap_i64]; omega
    have i1 : (c : Int) < (M : Int) := by have := HM.out; omega
    have i2 : (a : Int) < (L : Int) := by have := HL.out; omega
    have i3 : (b : Int) < 4 := by omega
    clear hp hy hd hz hs hpb hzb
    have HC := Lib.hid hc
    clear hc
    co_apply wpC_region_last (termsZ Lo) (drawZ Lo) (x := 21) (S := NN Lo bd bw bn i a b) (by first | kernel_rfl | rfl)
    intro _ hR
    replace hF := NN.rely (NN.rely hF hR) (ownDr _)
    clear hR
    simp only [List.size_toArray, List.length_cons, List.length_nil, Nat.reduceAdd, Nat.zero_add]
    co_applyP anyX_take (termsZ Lo) (fun _ _ h r => NN.rely h r) (fun _ _ _ h r => wpC_rely (termsZ Lo) h r) (i := 0) rfl (by first | kernel_rfl | decide +kernel) (by first | kernel_rfl | decide +kernel) (by first | kernel_rfl | decide +kernel) (by first | kernel_rfl | decide +kernel) (.inl ⟨by rfl, fun _ hw => ⟨run_eq_of ?run0, ?guar0⟩⟩) hF ?_
    case run0 =>
      intro K hK
      skip
      go_simp
      exact hK
    case guar0 =>
      skip
      co_quiet (termsZ Lo)
    try walk_nrm
    co_applyP anyX_take (termsZ Lo) (fun _ _ h r => NN.rely h r) (fun _ _ _ h r => wpC_rely (termsZ Lo) h r) (i := 1) rfl (by first | kernel_rfl | decide +kernel) (by first | kernel_rfl | decide +kernel) (by first | kernel_rfl | decide +kernel) (by first | kernel_rfl | decide +kernel) (.inl ⟨by rfl, fun _ hw => ⟨run_eq_of ?run1, ?guar1⟩⟩) hF ?_
    case run1 =>
      intro K hK
      skip
      go_simp
      exact hK
    case guar1 =>
      skip
      co_quiet (termsZ Lo)
    try walk_nrm
    co_applyP anyX_take (termsZ Lo) (fun _ _ h r => NN.rely h r) (fun _ _ _ h r => wpC_rely (termsZ Lo) h r) (i := 2) rfl (by first | kernel_rfl | decide +kernel) (by first | kernel_rfl | decide +kernel) (by first | kernel_rfl | decide +kernel) (by first | kernel_rfl | decide +kernel) (.inl ⟨by rfl, fun _ hw => ⟨run_eq_of ?run2, ?guar2⟩⟩) hF ?_
    case run2 =>
      intro K hK
      skip
      go_simp
      exact hK
    case guar2 =>
      skip
      co_quiet (termsZ Lo)
    try walk_nrm
    co_applyP anyX_take (termsZ Lo) (fun _ _ h r => NN.rely h r) (fun _ _ _ h r => wpC_rely (termsZ Lo) h r) (i := 3) rfl (by first | kernel_rfl | decide +kernel) (by first | kernel_rfl | decide +kernel) (by first | kernel_rfl | decide +kernel) (by first | kernel_rfl | decide +kernel) (.inl ⟨by rfl, fun _ hw => ⟨run_eq_of ?run3, ?guar3⟩⟩) hF ?_
    case run3 =>
      intro K hK
      skip
      go_simp
      exact hK
    case guar3 =>
      skip
      co_quiet (termsZ Lo)
    try walk_nrm
    co_applyP anyX_take (termsZ Lo) (fun _ _ h r => NN.rely h r) (fun _ _ _ h r => wpC_rely (termsZ Lo) h r) (i := 4) rfl (by first | kernel_rfl | decide +kernel) (by first | kernel_rfl | decide +kernel) (by first | kernel_rfl | decide +kernel) (by first | kernel_rfl | decide +kernel) (.inl ⟨by rfl, fun _ hw => ⟨run_eq_of ?run4, ?guar4⟩⟩) hF ?_
    case run4 =>
      intro K hK
      skip
      go_simp
      exact hK
    case guar4 =>
      skip
      co_quiet (termsZ Lo)
    try walk_nrm
    co_applyP anyX_take (termsZ Lo) (fun _ _ h r => NN.rely h r) (fun _ _ _ h r => wpC_rely (termsZ Lo) h r) (i := 5) rfl (by first | kernel_rfl | decide +kernel) (by first | kernel_rfl | decide +kernel) (by first | kernel_rfl | decide +kernel) (by first | kernel_rfl | decide +kernel) (.inl ⟨by rfl, fun _ hw => ⟨run_eq_of ?run5, ?guar5⟩⟩) hF ?_
    case run5 =>
      intro K hK
      skip
      go_simp
      exact hK
    case guar5 =>
      skip
      co_quiet (termsZ Lo)
    try walk_nrm
    co_applyP anyX_take (termsZ Lo) (fun _ _ h r => NN.rely h r) (fun _ _ _ h r => wpC_rely (termsZ Lo) h r) (i := 6) rfl (by first | kernel_rfl | decide +kernel) (by first | kernel_rfl | decide +kernel) (by first | kernel_rfl | decide +kernel) (by first | kernel_rfl | decide +kernel) (.inl ⟨by rfl, fun _ hw => ⟨run_eq_of ?run6, ?guar6⟩⟩) hF ?_
    case run6 =>
      intro K hK
      skip
      go_simp
      exact hK
    case guar6 =>
      skip
      co_quiet (termsZ Lo)
    try walk_nrm
    co_applyP anyX_take (termsZ Lo) (fun _ _ h r => NN.rely h r) (fun _ _ _ h r => wpC_rely (termsZ Lo) h r) (i := 7) rfl (by first | kernel_rfl | decide +kernel) (by first | kernel_rfl | decide +kernel) (by first | kernel_rfl | decide +kernel) (by first | kernel_rfl | decide +kernel) (.inl ⟨by rfl, fun _ hw => ⟨run_eq_of ?run7, ?guar7⟩⟩) hF ?_
    case run7 =>
      intro K hK
      skip
      go_simp
      exact hK
    case guar7 =>
      skip
      co_quiet (termsZ Lo)
    try walk_nrm
    co_applyP anyX_take (termsZ Lo) (fun _ _ h r => NN.rely h r) (fun _ _ _ h r => wpC_rely (termsZ Lo) h r) (i := 8) rfl (by first | kernel_rfl | decide +kernel) (by first | kernel_rfl | decide +kernel) (by first | kernel_rfl | decide +kernel) (by first | kernel_rfl | decide +kernel) (.inl ⟨by rfl, fun _ hw => ⟨run_eq_of ?run8, ?guar8⟩⟩) hF ?_
    case run8 =>
      intro K hK
      skip
      go_simp
      exact hK
    case guar8 =>
      skip
      co_still (termsZ Lo)
    try walk_nrm
    co_applyP anyX_take (termsZ Lo) (fun _ _ h r => NN.rely h r) (fun _ _ _ h r => wpC_rely (termsZ Lo) h r) (i := 9) rfl (by first | kernel_rfl | decide +kernel) (by first | kernel_rfl | decide +kernel) (by first | kernel_rfl | decide +kernel) (by first | kernel_rfl | decide +kernel) (.inl ⟨by rfl, fun _ hw => ⟨run_eq_of ?run9, ?guar9⟩⟩) hF ?_
    case run9 =>
      intro K hK
      have hc := Hn.out _ hw
      go_simp
      exact hK
    case guar9 =>
      have hc := Hn.out _ hw
      refine ⟨Nat.le_refl _, rfl, rfl, rfl, fun _ _ => rfl, ?_⟩; co_evs (exact ⟨_, rfl, hw.lo, hw.lt⟩)
    try walk_nrm
    co_applyP anyX_take (termsZ Lo) (fun _ _ h r => NN.rely h r) (fun _ _ _ h r => wpC_rely (termsZ Lo) h r) (i := 10) rfl (by first | kernel_rfl | decide +kernel) (by first | kernel_rfl | decide +kernel) (by first | kernel_rfl | decide +kernel) (by first | kernel_rfl | decide +kernel) (.inl ⟨by rfl, fun _ hw => ⟨run_eq_of ?run10, ?guar10⟩⟩) hF ?_
    case run10 =>
      intro K hK
      skip
      go_simp
      exact hK
    case guar10 =>
      skip
      co_quiet (termsZ Lo)
    try walk_nrm
    co_applyP anyX_take (termsZ Lo) (fun _ _ h r => NN.rely h r) (fun _ _ _ h r => wpC_rely (termsZ Lo) h r) (i := 11) rfl (by first | kernel_rfl | decide +kernel) (by first | kernel_rfl | decide +kernel) (by first | kernel_rfl | decide +kernel) (by first | kernel_rfl | decide +kernel) (.inl ⟨by rfl, fun _ hw => ⟨run_eq_of ?run11, ?guar11⟩⟩) hF ?_
    case run11 =>
      intro K hK
      skip
      go_simp
      exact hK
    case guar11 =>
      skip
      co_quiet (termsZ Lo)
    try walk_nrm
    co_applyP anyX_take (termsZ Lo) (fun _ _ h r => NN.rely h r) (fun _ _ _ h r => wpC_rely (termsZ Lo) h r) (i := 12) rfl (by first | kernel_rfl | decide +kernel) (by first | kernel_rfl | decide +kernel) (by first | kernel_rfl | decide +kernel) (by first | kernel_rfl | decide +kernel) (.inl ⟨by rfl, fun _ hw => ⟨run_eq_of ?run12, ?guar12⟩⟩) hF ?_
    case run12 =>
      intro K hK
      skip
      go_simp
      exact hK
    case guar12 =>
      skip
      co_still (termsZ Lo)
    try walk_nrm
    co_applyP anyX_take (termsZ Lo) (fun _ _ h r => NN.rely h r) (fun _ _ _ h r => wpC_rely (termsZ Lo) h r) (i := 13) rfl (by first | kernel_rfl | decide +kernel) (by first | kernel_rfl | decide +kernel) (by first | kernel_rfl | decide +kernel) (by first | kernel_rfl | decide +kernel) (.inl ⟨by rfl, fun _ hw => ⟨run_eq_of ?run13, ?guar13⟩⟩) hF ?_
    case run13 =>
      intro K hK
      have hc := Hw.out _ hw
      go_simp
      exact hK
    case guar13 =>
      have hc := Hw.out _ hw
      refine ⟨Nat.le_refl _, rfl, rfl, rfl, fun _ _ => rfl, ?_⟩; co_evs (exact ⟨_, rfl, hw.nw.lo.2, hw.nw.lt.2⟩)
    try walk_nrm
    co_applyP anyX_take (termsZ Lo) (fun _ _ h r => NN.rely h r) (fun _ _ _ h r => wpC_rely (termsZ Lo) h r) (i := 14) rfl (by first | kernel_rfl | decide +kernel) (by first | kernel_rfl | decide +kernel) (by first | kernel_rfl | decide +kernel) (by first | kernel_rfl | decide +kernel) (.inl ⟨by rfl, fun _ hw => ⟨run_eq_of ?run14, ?guar14⟩⟩) hF ?_
    case run14 =>
      intro K hK
      skip
      go_simp
      exact hK
    case guar14 =>
      skip
      co_quiet (termsZ Lo)
    try walk_nrm
    co_applyP anyX_take (termsZ Lo) (fun _ _ h r => NN.rely h r) (fun _ _ _ h r => wpC_rely (termsZ Lo) h r) (i := 15) rfl (by first | kernel_rfl | decide +kernel) (by first | kernel_rfl | decide +kernel) (by first | kernel_rfl | decide +kernel) (by first | kernel_rfl | decide +kernel) (.inl ⟨by rfl, fun _ hw => ⟨run_eq_of ?run15, ?guar15⟩⟩) hF ?_
    case run15 =>
      intro K hK
      skip
      go_simp
      exact hK
    case guar15 =>
      skip
      co_quiet (termsZ Lo)
    try walk_nrm
    co_applyP anyX_take (termsZ Lo) (fun _ _ h r => NN.rely h r) (fun _ _ _ h r => wpC_rely (termsZ Lo) h r) (i := 16) rfl (by first | kernel_rfl | decide +kernel) (by first | kernel_rfl | decide +kernel) (by first | kernel_rfl | decide +kernel) (by first | kernel_rfl | decide +kernel) (.inl ⟨by rfl, fun _ hw => ⟨run_eq_of ?run16, ?guar16⟩⟩) hF ?_
    case run16 =>
      intro K hK
      skip
      go_simp
      exact hK
    case guar16 =>
      skip
      co_still (termsZ Lo)
    try walk_nrm
    co_applyP anyX_take (termsZ Lo) (fun _ _ h r => NN.rely h r) (fun _ _ _ h r => wpC_rely (termsZ Lo) h r) (i := 17) rfl (by first | kernel_rfl | decide +kernel) (by first | kernel_rfl | decide +kernel) (by first | kernel_rfl | decide +kernel) (by first | kernel_rfl | decide +kernel) (.inl ⟨by rfl, fun _ hw => ⟨run_eq_of ?run17, ?guar17⟩⟩) hF ?_
    case run17 =>
      intro K hK
      have hc := Hd.out _ hw
      go_simp
      exact hK
    case guar17 =>
      have hc := Hd.out _ hw
      refine ⟨Nat.le_refl _, rfl, rfl, rfl, fun _ _ => rfl, ?_⟩; co_evs (exact ⟨_, rfl, hw.nw.lo.1, hw.nw.lt.1⟩)
    try walk_nrm
    co_applyP anyX_take (termsZ Lo) (fun _ _ h r => NN.rely h r) (fun _ _ _ h r => wpC_rely (termsZ Lo) h r) (i := 18) rfl (by first | kernel_rfl | decide +kernel) (by first | kernel_rfl | decide +kernel) (by first | kernel_rfl | decide +kernel) (by first | kernel_rfl | decide +kernel) (.inl ⟨by rfl, fun _ hw => ⟨run_eq_of ?run18, ?guar18⟩⟩) hF ?_
    case run18 =>
      intro K hK
      skip
      go_simp
      exact hK
    case guar18 =>
      skip
      co_quiet (termsZ Lo)
    try walk_nrm
    co_applyP anyX_take (termsZ Lo) (fun _ _ h r => NN.rely h r) (fun _ _ _ h r => wpC_rely (termsZ Lo) h r) (i := 19) rfl (by first | kernel_rfl | decide +kernel) (by first | kernel_rfl | decide +kernel) (by first | kernel_rfl | decide +kernel) (by first | kernel_rfl | decide +kernel) (.inl ⟨by rfl, fun _ hw => ⟨run_eq_of ?run19, ?guar19⟩⟩) hF ?_
    case run19 =>
      intro K hK
      skip
      go_simp
      exact hK
    case guar19 =>
      skip
      co_quiet (termsZ Lo)
    try walk_nrm
    co_applyP anyX_take (termsZ Lo) (fun _ _ h r => NN.rely h r) (fun _ _ _ h r => wpC_rely (termsZ Lo) h r) (i := 20) rfl (by first | kernel_rfl | decide +kernel) (by first | kernel_rfl | decide +kernel) (by first | kernel_rfl | decide +kernel) (by first | kernel_rfl | decide +kernel) (.inl ⟨by rfl, fun _ hw => ⟨run_eq_of ?run20, ?guar20⟩⟩) hF ?_
    case run20 =>
      intro K hK
      skip
      go_simp
      exact hK
    case guar20 =>
      skip
      co_still (termsZ Lo)
    try walk_nrm
    refine anyX_last (by first | kernel_rfl | decide +kernel) (by first | kernel_rfl | decide +kernel) ?_
    refine opC_k rfl (by rfl) ?_
    intro w5 hx K hK
    replace hF := NN.rely hF hx
    clear hx
    have hc1 := Hn.out _ hF
    have hc2 := hF.thaw (x := c)
    go_simp
    refine hK _ _ ⟨?_, ?_⟩
    · refine ⟨by simp [World.setCell], rfl, rfl, rfl, fun b' hb' => ?_, fun e he => ?_⟩
      · have : bn ≠ b' := by have := hF.lo; omega
        simp [World.setCell, Array.getElem?_modify, this]
      · have hm := mem_listed he
        simp [go_sem, storedEv, *] at hm
        subst hm
        exact ⟨_, rfl, hF.lo, by simpa [World.setCell] using hF.lt⟩
    clear hK K hc1 hc2
    try walk_nrm
    replace hF := Hset.out _ hF
    generalize w5.setCell ⟨bn, c, none⟩ (.int .i64 (s : Nat)) = w6 at *
    co_then
    obtain ⟨bb, hbb⟩ : ∃ bb : Nat, bb = b + 1 := ⟨_, rfl⟩
    have e4 : IntKind.i64.wrap ((b : Int) + 1) = (bb : Int) := by rw [IntKind.wrap_i64]; omega
    rw [← hbb] at hF
    have HB := Lib.hid hbb
    clear hbb
    co_reg (termsZ Lo)
    co_op NN.rely hF (co_quiet (termsZ Lo))
    co_op NN.rely hF (co_quiet (termsZ Lo))
    co_op NN.rely hF (co_quiet (termsZ Lo))
    co_apply opsC_nil (termsZ Lo)
    co_then
    exact ⟨⟨bb, _, _, _, _, _, _, _, _, _, _, _, _, _, _, _, _, _, _, _, _, _, _, _, _, _, rfl, by have := HB.out; omega, hF⟩, by have := HB.out; simp [intOf]; omega⟩
    · simp only [List.size_toArray, List.length_cons, List.length_nil]
      omega
  · obtain rfl : b = 4 := by omega
    co_apply wpC_more
    co_apply wpC_seq (termsZ Lo) (n₂ := 0)
    co_apply wpC_seq (termsZ Lo)
    co_reg (termsZ Lo)
    co_op NN.rely hF (co_quiet (termsZ Lo))
    co_op NN.rely hF (co_quiet (termsZ Lo))
    co_apply opsC_nil (termsZ Lo)
    co_then
    co_apply wpC_cond (termsZ Lo) (t := false)
    focus simp [Act.eval]
    simp only [if_false, Bool.false_eq_true]
    co_ctl (termsZ Lo)
    co_then
    exact hQ _ _ _ _ _ _ _ _ _ _ _ _ _ _ _ _ _ _ _ _ _ _ _ _ _ _ _ hF.next
    omega
set_option maxHeartbeats 16000000 in
/-- the values of the digits before, a = 0 .. 3 i -/
theorem loopA {Lo bd bw bn i L M : Nat} (hL : L = 3 * i + 1) (hM : M = 3 * i + 4) (hi : i < 4) {Q : Exit → Act → World → Prop} {w : World} (hF : NN Lo bd bw bn i 0 0 w) (v0 v1 v2 v3 v4 v5 v6 v7 v13 v14 v15 v16 v17 v18 v19 v20 v21 v22 v23 v24 v25 v26 v27 v28 v29 v30 v31 v32 v33 v34 v35 v36 v37 v38 v39 v40 v41 v42 v43 v44 v45 v46 v47 v48 v49 v50 v51 v52 v53 v54 v55 v56 v57 v58 v59 v60 v61 v62 v63 v64 v65 v66 v67 v68 v69 v70 v71 v72 v73 v74 v75 v76 v77 v78 v79 v80 v81 v82 v83 v84 v85 v86 v87 v88 v89 v90 v91 v92 v93 v94 v95 v96 : Value)
    (hQ : ∀ (v12 v13 v59 v60 v61 v62 v63 v64 v65 v66 v67 v68 v69 v70 v71 v72 v73 v74 v75 v76 v77 v78 v79 v80 v81 v82 v83 v84 v85 v86 v87 v88 v89 : Value) (w : World), NN Lo bd bw bn i (3 * i + 1) 0 w → Q .normal ⟨#[v0, v1, v2, v3, v4, v5, v6, v7, .slice (some ⟨bd, 0, none⟩) 4 4, .slice (some ⟨bw, 0, none⟩) L L, .int .i64 (i : Nat), .slice (some ⟨bn, 0, none⟩) M M, v12, v13, v14, v15, v16, v17, v18, v19, v20, v21, v22, v23, v24, v25, v26, v27, v28, v29, v30, v31, v32, v33, v34, v35, v36, v37, v38, v39, v40, v41, v42, v43, v44, v45, v46, v47, v48, v49, v50, v51, v52, v53, v54, v55, v56, v57, v58, v59, v60, v61, v62, v63, v64, v65, v66, v67, v68, v69, v70, v71, v72, v73, v74, v75, v76, v77, v78, v79, v80, v81, v82, v83, v84, v85, v86, v87, v88, v89, v90, v91, v92, v93, v94, v95, v96], []⟩ w) :
    (sR (sL (sR b1M))).wpC Tryd.prog true AtRel (DSz Lo) 3 12114 Q ⟨#[v0, v1, v2, v3, v4, v5, v6, v7, .slice (some ⟨bd, 0, none⟩) 4 4, .slice (some ⟨bw, 0, none⟩) L L, .int .i64 (i : Nat), .slice (some ⟨bn, 0, none⟩) M M, .int .i64 (0 : Nat), v13, v14, v15, v16, v17, v18, v19, v20, v21, v22, v23, v24, v25, v26, v27, v28, v29, v30, v31, v32, v33, v34, v35, v36, v37, v38, v39, v40, v41, v42, v43, v44, v45, v46, v47, v48, v49, v50, v51, v52, v53, v54, v55, v56, v57, v58, v59, v60, v61, v62, v63, v64, v65, v66, v67, v68, v69, v70, v71, v72, v73, v74, v75, v76, v77, v78, v79, v80, v81, v82, v83, v84, v85, v86, v87, v88, v89, v90, v91, v92, v93, v94, v95, v96], []⟩ w := by
  have HL := Lib.hid hL
  have HM := Lib.hid hM
  have hB : ∀ (a : Nat), a < 3 * i + 1 → ∀ (Q : Exit → Act → World → Prop) (w : World), NN Lo bd bw bn i a 0 w → ∀ (v0 v1 v2 v3 v4 v5 v6 v7 v14 v15 v16 v17 v18 v19 v20 v21 v22 v23 v24 v25 v26 v27 v28 v29 v30 v31 v32 v33 v34 v35 v36 v37 v38 v39 v40 v41 v42 v43 v44 v45 v46 v47 v48 v49 v50 v51 v52 v53 v54 v55 v56 v57 v58 v59 v60 v61 v62 v63 v64 v65 v66 v67 v68 v69 v70 v71 v72 v73 v74 v75 v76 v77 v78 v79 v80 v81 v82 v83 v84 v85 v86 v87 v88 v89 v90 v91 v92 v93 v94 v95 v96 : Value), (∀ (v13 v65 v66 v67 v68 v69 v70 v71 v72 v73 v74 v75 v76 v77 v78 v79 v80 v81 v82 v83 v84 v85 v86 v87 v88 v89 : Value) (w : World), NN Lo bd bw bn i (a + 1) 0 w → Q .normal ⟨#[v0, v1, v2, v3, v4, v5, v6, v7, .slice (some ⟨bd, 0, none⟩) 4 4, .slice (some ⟨bw, 0, none⟩) L L, .int .i64 (i : Nat), .slice (some ⟨bn, 0, none⟩) M M, .int .i64 (a : Nat), v13, v14, v15, v16, v17, v18, v19, v20, v21, v22, v23, v24, v25, v26, v27, v28, v29, v30, v31, v32, v33, v34, v35, v36, v37, v38, v39, v40, v41, v42, v43, v44, v45, v46, v47, v48, v49, v50, v51, v52, v53, v54, v55, v56, v57, v58, v59, v60, v61, v62, v63, v64, v65, v66, v67, v68, v69, v70, v71, v72, v73, v74, v75, v76, v77, v78, v79, v80, v81, v82, v83, v84, v85, v86, v87, v88, v89, v90, v91, v92, v93, v94, v95, v96], []⟩ w) → (sR b3M).wpC Tryd.prog true AtRel (DSz Lo) 3 1008 Q ⟨#[v0, v1, v2, v3, v4, v5, v6, v7, .slice (some ⟨bd, 0, none⟩) 4 4, .slice (some ⟨bw, 0, none⟩) L L, .int .i64 (i : Nat), .slice (some ⟨bn, 0, none⟩) M M, .int .i64 (a : Nat), .int .i64 (0 : Nat), v14, v15, v16, v17, v18, v19, v20, v21, v22, v23, v24, v25, v26, v27, v28, v29, v30, v31, v32, v33, v34, v35, v36, v37, v38, v39, v40, v41, v42, v43, v44, v45, v46, v47, v48, v49, v50, v51, v52, v53, v54, v55, v56, v57, v58, v59, v60, v61, v62, v63, v64, v65, v66, v67, v68, v69, v70, v71, v72, v73, v74, v75, v76, v77, v78, v79, v80, v81, v82, v83, v84, v85, v86, v87, v88, v89, v90, v91, v92, v93, v94, v95, v96], []⟩ w := fun a ha Q w hF v0 v1 v2 v3 v4 v5 v6 v7 v14 v15 v16 v17 v18 v19 v20 v21 v22 v23 v24 v25 v26 v27 v28 v29 v30 v31 v32 v33 v34 v35 v36 v37 v38 v39 v40 v41 v42 v43 v44 v45 v46 v47 v48 v49 v50 v51 v52 v53 v54 v55 v56 v57 v58 v59 v60 v61 v62 v63 v64 v65 v66 v67 v68 v69 v70 v71 v72 v73 v74 v75 v76 v77 v78 v79 v80 v81 v82 v83 v84 v85 v86 v87 v88 v89 v90 v91 v92 v93 v94 v95 v96 hQ => loopB hL hM hi ha hF v0 v1 v2 v3 v4 v5 v6 v7 v14 v15 v16 v17 v18 v19 v20 v21 v22 v23 v24 v25 v26 v27 v28 v29 v30 v31 v32 v33 v34 v35 v36 v37 v38 v39 v40 v41 v42 v43 v44 v45 v46 v47 v48 v49 v50 v51 v52 v53 v54 v55 v56 v57 v58 v59 v60 v61 v62 v63 v64 v65 v66 v67 v68 v69 v70 v71 v72 v73 v74 v75 v76 v77 v78 v79 v80 v81 v82 v83 v84 v85 v86 v87 v88 v89 v90 v91 v92 v93 v94 v95 v96 hQ
  clear hL hM
  simp only [b3M, l2M, b1M, l0M, x8M, x6M, lIn, bIn, sL, sR, bodyM, Tryd.f3, Option.getD_some] at hB ⊢
  co_apply wpC_block (termsZ Lo)
  refine wpC_loop (termsZ Lo) (fun act w => ∃ (a : Nat) (v13 v59 v60 v61 v62 v63 v64 v65 v66 v67 v68 v69 v70 v71 v72 v73 v74 v75 v76 v77 v78 v79 v80 v81 v82 v83 v84 v85 v86 v87 v88 v89 : Value), act = ⟨#[v0, v1, v2, v3, v4, v5, v6, v7, .slice (some ⟨bd, 0, none⟩) 4 4, .slice (some ⟨bw, 0, none⟩) L L, .int .i64 (i : Nat), .slice (some ⟨bn, 0, none⟩) M M, .int .i64 (a : Nat), v13, v14, v15, v16, v17, v18, v19, v20, v21, v22, v23, v24, v25, v26, v27, v28, v29, v30, v31, v32, v33, v34, v35, v36, v37, v38, v39, v40, v41, v42, v43, v44, v45, v46, v47, v48, v49, v50, v51, v52, v53, v54, v55, v56, v57, v58, v59, v60, v61, v62, v63, v64, v65, v66, v67, v68, v69, v70, v71, v72, v73, v74, v75, v76, v77, v78, v79, v80, v81, v82, v83, v84, v85, v86, v87, v88, v89, v90, v91, v92, v93, v94, v95, v96], []⟩ ∧ a ≤ 3 * i + 1 ∧ NN Lo bd bw bn i a 0 w) (fun act _ => 10 - (intOf (act.tmps.getD 12 undef)).toNat) 1100 10 ?_ ?_ ?_
  · exact ⟨0, _, _, _, _, _, _, _, _, _, _, _, _, _, _, _, _, _, _, _, _, _, _, _, _, _, _, _, _, _, _, _, _, rfl, by omega, hF⟩
  · exact Nat.sub_le _ _
  clear hF
  rintro act w ⟨a, v13, v59, v60, v61, v62, v63, v64, v65, v66, v67, v68, v69, v70, v71, v72, v73, v74, v75, v76, v77, v78, v79, v80, v81, v82, v83, v84, v85, v86, v87, v88, v89, rfl, ha1, hF⟩
  by_cases ha : a < 3 * i + 1
  · have hlt : decide ((a : Int) < (L : Int)) = true := decide_eq_true (by have := HL.out; omega)
    have h3 : a < L := by have := HL.out; omega
    obtain ⟨c, hc⟩ : ∃ c : Nat, c = a + 1 := ⟨_, rfl⟩
    have e4 : IntKind.i64.wrap ((a : Int) + 1) = (c : Int) := by rw [IntKind.wrap_i64]; omega
    have HC := Lib.hid hc
    clear hc
    have Ha := Lib.hid ha
    have Ha1 := Lib.hid ha1
    clear ha ha1
    co_apply wpC_more
    co_apply wpC_seq (termsZ Lo)
    co_apply wpC_seq (termsZ Lo)
    co_reg (termsZ Lo)
    co_op NN.rely hF (co_quiet (termsZ Lo))
    co_op NN.rely hF (co_quiet (termsZ Lo))
    co_op NN.rely hF (co_quiet (termsZ Lo))
    co_op NN.rely hF (co_quiet (termsZ Lo))
    co_apply opsC_nil (termsZ Lo)
    co_then
    co_apply wpC_cond (termsZ Lo) (t := true)
    focus simp [Act.eval, hlt, h3]
    simp only [if_true]
    co_apply wpC_skip (termsZ Lo)
    co_then
    co_apply wpC_seq (termsZ Lo)
    co_apply wpC_block (termsZ Lo)
    co_apply wpC_seq (termsZ Lo)
    co_reg (termsZ Lo)
    co_op NN.rely hF (co_quiet (termsZ Lo))
    co_apply opsC_nil (termsZ Lo)
    co_then
    refine hB a Ha.out _ _ hF _ _ _ _ _ _ _ _ _ _ _ _ _ _ _ _ _ _ _ _ _ _ _ _ _ _ _ _ _ _ _ _ _ _ _ _ _ _ _ _ _ _ _ _ _ _ _ _ _ _ _ _ _ _ _ _ _ _ _ _ _ _ _ _ _ _ _ _ _ _ _ _ _ _ _ _ _ _ _ _ _ _ _ _ _ _ _ _ _ _ _ ?_
    clear hF
    intro v13 v65 v66 v67 v68 v69 v70 v71 v72 v73 v74 v75 v76 v77 v78 v79 v80 v81 v82 v83 v84 v85 v86 v87 v88 v89 w hF
    try co_then
    co_reg (termsZ Lo)
    co_op NN.rely hF (co_quiet (termsZ Lo))
    co_op NN.rely hF (co_quiet (termsZ Lo))
    co_op NN.rely hF (co_quiet (termsZ Lo))
    co_apply opsC_nil (termsZ Lo)
    co_then
    exact ⟨⟨c, _, _, _, _, _, _, _, _, _, _, _, _, _, _, _, _, _, _, _, _, _, _, _, _, _, _, _, _, _, _, _, _, rfl, by have := HC.out; have := Ha.out; omega, by rw [HC.out]; exact hF⟩, by have := HC.out; have := Ha.out; simp [intOf]; omega⟩
    omega
  · obtain rfl : a = 3 * i + 1 := by omega
    have hlt : decide (((3 * i + 1 : Nat) : Int) < (L : Int)) = false := decide_eq_false (by have := HL.out; omega)
    have HA : Hid (∀ w, NN Lo bd bw bn i (3 * i + 1) 0 w → NN Lo bd bw bn i (3 * i + 1) 0 w) := Lib.hid fun w h => h
    obtain ⟨c, hc⟩ : ∃ c : Nat, c = 3 * i + 1 := ⟨_, rfl⟩
    rw [← hc] at hlt hF ⊢
    have HC := Lib.hid hc
    have h3 : ¬ c < L := by have := HL.out; have := HC.out; omega
    clear hc ha ha1
    co_apply wpC_more
    co_apply wpC_seq (termsZ Lo) (n₂ := 0)
    co_apply wpC_seq (termsZ Lo)
    co_reg (termsZ Lo)
    co_op NN.rely hF (co_quiet (termsZ Lo))
    co_op NN.rely hF (co_quiet (termsZ Lo))
    co_op NN.rely hF (co_quiet (termsZ Lo))
    co_op NN.rely hF (co_quiet (termsZ Lo))
    co_apply opsC_nil (termsZ Lo)
    co_then
    co_apply wpC_cond (termsZ Lo) (t := false)
    focus simp [Act.eval, hlt, h3]
    simp only [if_false, Bool.false_eq_true]
    co_ctl (termsZ Lo)
    co_then
    rw [HC.out] at hF
    exact hQ _ _ _ _ _ _ _ _ _ _ _ _ _ _ _ _ _ _ _ _ _ _ _ _ _ _ _ _ _ _ _ _ _ _ hF
    omega
end Go.Proofs.YtmphfdibijbjeaaDoor
