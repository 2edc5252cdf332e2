/- countNumbers behind Wait: close, the receives, the sum. -/
import Derived.Test.YtmphfdibijbjeaaDoorHV
import Derived.Test.YtmphfdibijbjeaaDoorHX
namespace Go.Proofs.YtmphfdibijbjeaaDoor
open Go.Conc Go.ConcN Go.RowKit
set_option linter.unusedSimpArgs false
set_option linter.unusedVariables false
set_option maxRecDepth 100000
noncomputable def r12N : Code := sR (sR r10N)
noncomputable def lb2N : Code := lIn (bIn (sR (sL r12N)))
noncomputable def r16N : Code := sR r12N
noncomputable def hd2 (N : Nat) (x : Int) (sum : Nat) (v5 v7 v10 v11 v12 v13 v14 v15 v18 v19 v20 v21 v22 v23 : Value) (cs : List Frame) (lb0 lb r16 : Code) : Goroutine :=
  G ((base 10).at ⟨#[.int .i64 x, .pointer (some ⟨N, 0, none⟩), .int .i64 0, .pointer (some ⟨N + 2, 0, none⟩), .pointer (some ⟨N + 3, 0, none⟩), v5, .int .i64 (sum : Nat), v7, .chan (some (N + 1)), .int .i64 10, v10, v11, v12, v13, v14, v15, .chan (some (N + 1)), .chan (some (N + 1)), v18, v19, v20, v21, v22, v23, undef], []⟩
    [.code lb0, .inLoop lb, .inBlock 2, .code r16]) cs
section
variable {B0 N : Nat} {x : Int} {w₀ : World} {cs : List Frame} {Wg : Nat} {Post : Value → World → Prop} {v5 v10 v11 v12 v13 v14 v15 : Value}
theorem FL.chan {w : World} (h : FL N w₀ w) {cap s r : Nat} {buf : Array Value} {cl tm : Bool} : FL N w₀ (w.setChan (N + 1) cap buf cl s r tm) :=
  ⟨fun b h1 h2 h3 => (chan_other h3).trans (h.low b h1 h2 h3), h.os, h.tape, h.output, by have := h.size; simp [World.setChan]; omega⟩
set_option maxHeartbeats 8000000 in
theorem recvStep {m sum v : Nat} {l : List Nat} {s r : Nat} {lb r16 : Code} {w : World} (hw : w.heap[N + 1]? = some (.chan 10 (((v :: l).map fun x => Value.int .i64 (x : Nat)).toArray) true s r false)) (hb : sum + v < 4611686018427387904)
    (hK : ∀ v7 v18 v19 v20 v21 v22 v23, FinG Tryd.prog Wg Post m (hd2 N x (sum + v) v5 v7 v10 v11 v12 v13 v14 v15 v18 v19 v20 v21 v22 v23 cs lb lb r16) (w.setChan (N + 1) 10 ((l.map fun x => Value.int .i64 (x : Nat)).toArray) true s (r + 1) false))
    (v7 v18 v19 v20 v21 v22 v23 : Value) : FinG Tryd.prog Wg Post (m + 30) (hd2 N x sum v5 v7 v10 v11 v12 v13 v14 v15 v18 v19 v20 v21 v22 v23 cs lb2N lb r16) w := by
  have hadd : IntKind.i64.wrap ((sum : Int) + (v : Int)) = ((sum + v : Nat) : Int) := by rw [IntKind.wrap_i64]; omega
  simp only [hd2, lb2N, r12N, r10N, rstN, lIn, bIn, sR, sL, bodyN, Tryd.f10, Option.getD_some] at hK ⊢
  refine FinG.still rfl (fun _ => stepG_seq) ?_
  (refine FinG.still rfl (fun _ => stepG_region) ?_; simp only [List.size_toArray, List.length_cons, List.length_nil, Nat.reduceAdd, Nat.zero_add, List.range, List.range.loop])
  refine FinG.recv (c := N + 1) (z := .int .i64 0) (f := true) rfl (by rfl) (by decide) (fun w => ?_) (fun w => ?_) hw ?_
  · simp [go_sem, execOp, rcase]
  · rw [listed_nil (by simp [go_sem])]
  simp only [recvd, if_true]
  walk_nrm
  (refine FinG.oper_k rfl (by rfl) (by decide) ?_; intro dx K hK; go_simp; refine hK _ _ ⟨?_, FinG.at ?_ dx⟩; (· (rw [listed_nil (by simp [go_sem])]; exact evP_none)); clear hK K dx; try walk_nrm)
  refine FinG.still rfl (fun _ => stepG_region_end) ?_
  refine FinG.still rfl (fun _ => stepG_seq) ?_
  refine FinG.still rfl (fun _ => stepG_cond (t := true) (by simp [Act.eval])) ?_
  simp only [if_true]
  refine FinG.still rfl (fun _ => stepG_skip) ?_
  refine FinG.still rfl (fun _ => stepG_block) ?_
  refine FinG.still rfl (fun _ => stepG_seq) ?_
  (refine FinG.still rfl (fun _ => stepG_region) ?_; simp only [List.size_toArray, List.length_cons, List.length_nil, Nat.reduceAdd, Nat.zero_add, List.range, List.range.loop])
  (refine FinG.oper_k rfl (by rfl) (by decide) ?_; intro dx K hK; go_simp; refine hK _ _ ⟨?_, FinG.at ?_ dx⟩; (· (rw [listed_nil (by simp [go_sem])]; exact evP_none)); clear hK K dx; try walk_nrm)
  (refine FinG.oper_k rfl (by rfl) (by decide) ?_; intro dx K hK; go_simp; refine hK _ _ ⟨?_, FinG.at ?_ dx⟩; (· (rw [listed_nil (by simp [go_sem])]; exact evP_none)); clear hK K dx; try walk_nrm)
  refine FinG.still rfl (fun _ => stepG_region_end) ?_
  (refine FinG.still rfl (fun _ => stepG_region) ?_; simp only [List.size_toArray, List.length_cons, List.length_nil, Nat.reduceAdd, Nat.zero_add, List.range, List.range.loop])
  (refine FinG.oper_k rfl (by rfl) (by decide) ?_; intro dx K hK; go_simp; refine hK _ _ ⟨?_, FinG.at ?_ dx⟩; (· (rw [listed_nil (by simp [go_sem])]; exact evP_none)); clear hK K dx; try walk_nrm)
  (refine FinG.oper_k rfl (by rfl) (by decide) ?_; intro dx K hK; go_simp; refine hK _ _ ⟨?_, FinG.at ?_ dx⟩; (· (rw [listed_nil (by simp [go_sem])]; exact evP_none)); clear hK K dx; try walk_nrm)
  (refine FinG.oper_k rfl (by rfl) (by decide) ?_; intro dx K hK; go_simp; refine hK _ _ ⟨?_, FinG.at ?_ dx⟩; (· (rw [listed_nil (by simp [go_sem])]; exact evP_none)); clear hK K dx; try walk_nrm)
  (refine FinG.oper_k rfl (by rfl) (by decide) ?_; intro dx K hK; go_simp; refine hK _ _ ⟨?_, FinG.at ?_ dx⟩; (· (rw [listed_nil (by simp [go_sem])]; exact evP_none)); clear hK K dx; try walk_nrm)
  refine FinG.still rfl (fun _ => stepG_region_end) ?_
  refine FinG.still rfl (fun _ => stepG_inBlock) ?_
  refine FinG.still rfl (fun _ => stepG_inLoop) ?_
  exact (hK _ _ _ _ _ _ _).mono (by omega)
set_option maxHeartbeats 8000000 in
/-- the channel is empty: out of the loop, and the sum is returned -/
theorem recvEnd {m sum : Nat} {s r : Nat} {lb : Code} {w : World} {b₀ : Frame} {a₀ : Act} {ops₀ : Array Oper} {i₀ : Nat} {rest₀ : List Nat} {k₀ : List Item} {cs' : List Frame} (hw : w.heap[N + 1]? = some (.chan 10 #[] true s r false))
    (hK : FinG Tryd.prog Wg Post m (G (b₀.at (a₀.put ((ops₀[i₀]?).bind (·.dst)) (.int .i64 (sum : Nat))) (.inRegion ops₀ rest₀ :: k₀)) cs') w)
    (v7 v18 v19 v20 v21 v22 v23 : Value) : FinG Tryd.prog Wg Post (m + 30) (hd2 N x sum v5 v7 v10 v11 v12 v13 v14 v15 v18 v19 v20 v21 v22 v23 (b₀.at a₀ (.inRegion ops₀ (i₀ :: rest₀) :: k₀) :: cs') lb2N lb r16N) w := by
  simp only [hd2, lb2N, r16N, r12N, r10N, rstN, lIn, bIn, sR, sL, bodyN, Tryd.f10, Option.getD_some]
  refine FinG.still rfl (fun _ => stepG_seq) ?_
  (refine FinG.still rfl (fun _ => stepG_region) ?_; simp only [List.size_toArray, List.length_cons, List.length_nil, Nat.reduceAdd, Nat.zero_add, List.range, List.range.loop])
  refine FinG.shut (c := N + 1) (z := .int .i64 0) (f := true) rfl (by rfl) (by decide) (fun w => ?_) (fun w => ?_) hw ?_
  · simp [go_sem, execOp, rcase]
  · rw [listed_nil (by simp [go_sem])]
  simp only [recvd, if_true]
  walk_nrm
  (refine FinG.oper_k rfl (by rfl) (by decide) ?_; intro dx K hK; go_simp; refine hK _ _ ⟨?_, FinG.at ?_ dx⟩; (· (rw [listed_nil (by simp [go_sem])]; exact evP_none)); clear hK K dx; try walk_nrm)
  refine FinG.still rfl (fun _ => stepG_region_end) ?_
  refine FinG.still rfl (fun _ => stepG_seq) ?_
  refine FinG.still rfl (fun _ => stepG_cond (t := false) (by simp [Act.eval])) ?_
  simp only [if_false, Bool.false_eq_true]
  refine FinG.still rfl (fun _ => stepG_exit rfl) ?_
  first | refine FinG.still rfl (fun _ => stepG_seq) ?_ | skip
  (refine FinG.still rfl (fun _ => stepG_region) ?_; simp only [List.size_toArray, List.length_cons, List.length_nil, Nat.reduceAdd, Nat.zero_add, List.range, List.range.loop])
  (refine FinG.oper_k rfl (by rfl) (by decide) ?_; intro dx K hK; go_simp; refine hK _ _ ⟨?_, FinG.at ?_ dx⟩; (· (rw [listed_nil (by simp [go_sem])]; exact evP_none)); clear hK K dx; try walk_nrm)
  (refine FinG.oper_k rfl (by rfl) (by decide) ?_; intro dx K hK; go_simp; refine hK _ _ ⟨?_, FinG.at ?_ dx⟩; (· (rw [listed_nil (by simp [go_sem])]; exact evP_none)); clear hK K dx; try walk_nrm)
  refine FinG.still rfl (fun _ => stepG_region_end) ?_
  first | refine FinG.still rfl (fun _ => stepG_ret') ?_ | refine FinG.still rfl (fun _ => stepG_end) ?_
  exact (FinG.leave1 rfl rfl Tryd.func10 rfl hK).mono (by omega)
/-- all that is in the channel -/
theorem recvAll {m T : Nat} {b₀ : Frame} {a₀ : Act} {ops₀ : Array Oper} {i₀ : Nat} {rest₀ : List Nat} {k₀ : List Item} {cs' : List Frame} (hT : T < 4611686018427387904)
    (hK : ∀ w, FL N w₀ w → FinG Tryd.prog Wg Post m (G (b₀.at (a₀.put ((ops₀[i₀]?).bind (·.dst)) (.int .i64 (T : Nat))) (.inRegion ops₀ rest₀ :: k₀)) cs') w) :
    ∀ (l : List Nat) (sum s r : Nat) (w : World), FL N w₀ w → w.heap[N + 1]? = some (.chan 10 ((l.map fun x => Value.int .i64 (x : Nat)).toArray) true s r false) → sum + l.sum = T → ∀ v7 v18 v19 v20 v21 v22 v23,
      FinG Tryd.prog Wg Post (m + 30 + 30 * l.length) (hd2 N x sum v5 v7 v10 v11 v12 v13 v14 v15 v18 v19 v20 v21 v22 v23 (b₀.at a₀ (.inRegion ops₀ (i₀ :: rest₀) :: k₀) :: cs') lb2N lb2N r16N) w := by
  intro l
  induction l with
  | nil =>
    intro sum s r w hF hw hs v7 v18 v19 v20 v21 v22 v23
    have e : sum = T := by simpa using hs
    subst e
    exact (recvEnd hw (hK w hF) v7 v18 v19 v20 v21 v22 v23).mono (by simp)
  | cons v l ih =>
    intro sum s r w hF hw hs v7 v18 v19 v20 v21 v22 v23
    simp only [List.sum_cons] at hs
    have hlt : N + 1 < w.heap.size := (Array.getElem?_eq_some_iff.1 hw).1
    refine (recvStep hw (by omega) (fun v7 v18 v19 v20 v21 v22 v23 => ih (sum + v) s (r + 1) _ hF.chan (chan_set hlt) (by omega) v7 v18 v19 v20 v21 v22 v23) v7 v18 v19 v20 v21 v22 v23).mono ?_
    simp only [List.length_cons]
    omega
set_option maxHeartbeats 8000000 in
/-- from Wait's return -/
theorem closeN {m T n : Nat} {b₀ : Frame} {a₀ : Act} {ops₀ : Array Oper} {i₀ : Nat} {rest₀ : List Nat} {k₀ : List Item} {cs' : List Frame} (hT : T < 4611686018427387904) (hWg : Wg ≠ N + 2) (hcc : w₀.cell? ⟨N + 2, 0, none⟩ = some (.chan (some (N + 1))))
    (hK : ∀ w, FL N w₀ w → FinG Tryd.prog Wg Post m (G (b₀.at (a₀.put ((ops₀[i₀]?).bind (·.dst)) (.int .i64 (T : Nat))) (.inRegion ops₀ rest₀ :: k₀)) cs') w)
    {w : World} (hF : FL N w₀ w) (hch : ChanHas (N + 1) 10 n T w) :
    FinG Tryd.prog Wg Post (m + 30 + 30 * n + 30) (G ((base 10).at (aN N x v5 v10 v11 v12 v13 v14 v15) (.inRegion (opsOf r9N) [] :: [.code r10N])) (b₀.at a₀ (.inRegion ops₀ (i₀ :: rest₀) :: k₀) :: cs')) w := by
  obtain ⟨l, s, hw, hl, hs⟩ := hch
  have hlt : N + 1 < w.heap.size := (Array.getElem?_eq_some_iff.1 hw).1
  have hc : w.cell? ⟨N + 2, 0, none⟩ = some (.chan (some (N + 1))) := by
    rw [← hcc]
    simp [World.cell?, hF.low (N + 2) (by omega) (by omega) (by omega)]
  have hgo := recvAll (x := x) (v5 := v5) (v10 := v10) (v11 := v11) (v12 := v12) (v13 := v13) (v14 := v14) (v15 := v15) hT hK l 0 s 0 (w.setChan (N + 1) 10 (l.map fun x => Value.int .i64 (x : Nat)).toArray true s 0 false) hF.chan (chan_set hlt) (by omega)
  rw [hl] at hgo
  simp only [hd2, aN, r9N, r10N, r12N, lb2N, r16N, rstN, opsOf, lIn, bIn, sR, sL, bodyN, Tryd.f10, Option.getD_some] at hgo ⊢
  refine FinG.still rfl (fun _ => stepG_region_end) ?_
  refine FinG.still rfl (fun _ => stepG_seq) ?_
  (refine FinG.still rfl (fun _ => stepG_region) ?_; simp only [List.size_toArray, List.length_cons, List.length_nil, Nat.reduceAdd, Nat.zero_add, List.range, List.range.loop])
  refine FinG.oper_k rfl (by rfl) (by decide) ?_
  intro d K hK
  have hc' : (w.at d).cell? ⟨N + 2, 0, none⟩ = some (.chan (some (N + 1))) := hc
  go_simp
  refine hK _ _ ⟨fun e he => ?_, FinG.at ?_ d⟩
  · have hm := mem_listed he
    simp [go_sem, *] at hm
    subst hm
    exact evP_cell (Ne.symm hWg)
  clear hK K hc'
  try walk_nrm
  refine FinG.oper_k rfl (by rfl) (by decide) ?_
  intro d' K hK
  have hr := fun ats ty => run_close_open (P := Tryd.prog) (w := w.at d') ats ty (show (w.at d').heap[N + 1]? = _ from hw)
  have hev := fun ats ty => events_close_open (P := Tryd.prog) (w := w.at d') (es := #[]) ats ty (show (w.at d').heap[N + 1]? = _ from hw)
  go_simp
  refine hK _ _ ⟨fun e he => ?_, FinG.at (w := w.setChan (N + 1) 10 (l.map fun x => Value.int .i64 (x : Nat)).toArray true s 0 false) ?_ d'⟩
  · have hm := mem_listed he
    simp [go_sem, hev] at hm
    rcases hm with rfl | rfl
    · exact evP_obj
    · exact evP_obj
  clear hK K hr hev
  try walk_nrm
  refine FinG.still rfl (fun _ => stepG_region_end) ?_
  refine FinG.still rfl (fun _ => stepG_seq) ?_
  (refine FinG.still rfl (fun _ => stepG_region) ?_; simp only [List.size_toArray, List.length_cons, List.length_nil, Nat.reduceAdd, Nat.zero_add, List.range, List.range.loop])
  (refine FinG.oper_k rfl (by rfl) (by decide) ?_; intro dx K hK; go_simp; refine hK _ _ ⟨?_, FinG.at ?_ dx⟩; (· (rw [listed_nil (by simp [go_sem])]; exact evP_none)); clear hK K dx; try walk_nrm)
  refine FinG.still rfl (fun _ => stepG_region_end) ?_
  refine FinG.still rfl (fun _ => stepG_seq) ?_
  refine FinG.still rfl (fun _ => stepG_seq) ?_
  (refine FinG.still rfl (fun _ => stepG_region) ?_; simp only [List.size_toArray, List.length_cons, List.length_nil, Nat.reduceAdd, Nat.zero_add, List.range, List.range.loop])
  refine FinG.oper_k rfl (by rfl) (by decide) ?_
  intro d K hK
  have hc' : ((w.setChan (N + 1) 10 (l.map fun x => Value.int .i64 (x : Nat)).toArray true s 0 false).at d).cell? ⟨N + 2, 0, none⟩ = some (.chan (some (N + 1))) := by
    rw [← hc]
    show World.cell? (w.setChan _ _ _ _ _ _ _) _ = _
    simp [World.cell?, chan_other (w := w) (c := N + 1) (bl := N + 2) (by omega)]
  go_simp
  refine hK _ _ ⟨fun e he => ?_, FinG.at ?_ d⟩
  · have hm := mem_listed he
    simp [go_sem, *] at hm
    subst hm
    exact evP_cell (Ne.symm hWg)
  clear hK K hc'
  try walk_nrm
  refine FinG.still rfl (fun _ => stepG_region_end) ?_
  refine FinG.still rfl (fun _ => stepG_block) ?_
  refine FinG.still rfl (fun _ => stepG_loop) ?_
  exact (hgo _ _ _ _ _ _ _).mono (by omega)
end
end Go.Proofs.YtmphfdibijbjeaaDoor
