/- GD, GE, GF, GI, GJ, GL in one text. No condition. -/
import Derived.Test.YtmphfdibijbjeaaDoorGB
import Derived.Test.YtmphfdibijbjeaaDoorGC
import Derived.Test.YtmphfdibijbjeaaDoorMb
import Derived.Test.YtmphfdibijbjeaaDoorVC
import Derived.Test.YtmphfdibijbjeaaDoorVP
/- FnExactStrokeMany: into countNumbers' loop, alone; and from its return to the run's end. -/
namespace Go.Proofs.YtmphfdibijbjeaaDoor
open Go.Conc Go.ConcN Go.RowKit
open Go.ConcR (wgBlock WgAt)
set_option linter.unusedSimpArgs false
set_option linter.unusedVariables false
set_option maxRecDepth 100000
noncomputable def lawB : Code := Tryd.f4.body.getD .skip
noncomputable def lr2 : Code := sL (sR (sR lawB))
noncomputable def lr3 : Code := sR (sR (sR lawB))
/-- the law's slots at the call of StrokeMany -/
def lwA (k T : Int) (ok : Bool) (v : Value) : Act :=
  ⟨#[.int .i64 k, undef, .bool false, .int .i64 T, .bool ok, undef, undef, .tuple #[.int .i64 T, .bool ok], .int .i64 k, .tuple #[.int .i64 T, .bool ok], .int .i64 T, .bool ok, undef, .int .i64 k, v, undef, undef, undef, undef, undef, undef, undef, undef, undef, undef], []⟩
noncomputable def lwF (k T : Int) (ok : Bool) : Frame := (base 4).at (lwA k T ok undef) (.inRegion (opsOf lr2) [1, 2, 3, 4, 5, 6] :: [.code lr3])
theorem putL (k T : Int) (ok : Bool) (v : Value) : (lwA k T ok undef).put (((opsOf lr2)[1]?).bind (·.dst)) v = lwA k T ok v := by
  simp only [lwA, opsOf, lr2, lawB, sL, sR, Tryd.f4, Option.getD_some]
  simp [Act.put]
noncomputable def smB : Code := Tryd.f6.body.getD .skip
noncomputable def sm3 : Code := sL (sR (sR smB))
noncomputable def sm4 : Code := sR (sR (sR smB))
/-- StrokeMany's slots at the call of countNumbers -/
def smA (k : Int) (v : Value) : Act := ⟨#[.int .i64 k, undef, .int .i64 0, .bool false, .int .i64 k, .bool false, .bool false, .int .i64 k, .bool false, .bool false, .int .i64 k, v], []⟩
section
variable {A N Wg n : Nat} {Post : Value → World → Prop} {w : World} {k T : Int} {cs : List Frame}
set_option maxHeartbeats 8000000 in
theorem lawEnd (ok : Bool) (hp : ∀ d, Post (.bool true) (w.at d)) :
    FinG Tryd.prog Wg Post 60 (G ((base 4).at (lwA k T ok (.tuple #[.int .i64 T, .bool ok])) (.inRegion (opsOf lr2) [2, 3, 4, 5, 6] :: [.code lr3])) []) w := by
  cases ok
  all_goals
    simp only [lwA, lr2, lr3, opsOf, lawB, sL, sR, Tryd.f4, Option.getD_some]
    (refine FinG.oper_k rfl (by rfl) (by decide) ?_; intro dx K hK; go_simp; refine hK _ _ ⟨?_, FinG.at ?_ dx⟩; (· (rw [listed_nil (by simp [go_sem])]; exact evP_none)); clear hK K dx; try walk_nrm)
    (refine FinG.oper_k rfl (by rfl) (by decide) ?_; intro dx K hK; go_simp; refine hK _ _ ⟨?_, FinG.at ?_ dx⟩; (· (rw [listed_nil (by simp [go_sem])]; exact evP_none)); clear hK K dx; try walk_nrm)
    (refine FinG.oper_k rfl (by rfl) (by decide) ?_; intro dx K hK; go_simp; refine hK _ _ ⟨?_, FinG.at ?_ dx⟩; (· (rw [listed_nil (by simp [go_sem])]; exact evP_none)); clear hK K dx; try walk_nrm)
    (refine FinG.oper_k rfl (by rfl) (by decide) ?_; intro dx K hK; go_simp; refine hK _ _ ⟨?_, FinG.at ?_ dx⟩; (· (rw [listed_nil (by simp [go_sem])]; exact evP_none)); clear hK K dx; try walk_nrm)
    (refine FinG.oper_k rfl (by rfl) (by decide) ?_; intro dx K hK; go_simp; refine hK _ _ ⟨?_, FinG.at ?_ dx⟩; (· (rw [listed_nil (by simp [go_sem])]; exact evP_none)); clear hK K dx; try walk_nrm)
    refine FinG.still rfl (fun _ => stepG_region_end) ?_
    refine FinG.still rfl (fun _ => stepG_seq) ?_
    refine FinG.still rfl (fun _ => stepG_seq) ?_
    (refine FinG.still rfl (fun _ => stepG_region) ?_; simp only [List.size_toArray, List.length_cons, List.length_nil, Nat.reduceAdd, Nat.zero_add, List.range, List.range.loop])
    (refine FinG.oper_k rfl (by rfl) (by decide) ?_; intro dx K hK; go_simp; refine hK _ _ ⟨?_, FinG.at ?_ dx⟩; (· (rw [listed_nil (by simp [go_sem])]; exact evP_none)); clear hK K dx; try walk_nrm)
    (refine FinG.oper_k rfl (by rfl) (by decide) ?_; intro dx K hK; go_simp; refine hK _ _ ⟨?_, FinG.at ?_ dx⟩; (· (rw [listed_nil (by simp [go_sem])]; exact evP_none)); clear hK K dx; try walk_nrm)
    (refine FinG.oper_k rfl (by rfl) (by decide) ?_; intro dx K hK; go_simp; refine hK _ _ ⟨?_, FinG.at ?_ dx⟩; (· (rw [listed_nil (by simp [go_sem])]; exact evP_none)); clear hK K dx; try walk_nrm)
    (refine FinG.oper_k rfl (by rfl) (by decide) ?_; intro dx K hK; go_simp; refine hK _ _ ⟨?_, FinG.at ?_ dx⟩; (· (rw [listed_nil (by simp [go_sem])]; exact evP_none)); clear hK K dx; try walk_nrm)
    (refine FinG.oper_k rfl (by rfl) (by decide) ?_; intro dx K hK; go_simp; refine hK _ _ ⟨?_, FinG.at ?_ dx⟩; (· (rw [listed_nil (by simp [go_sem])]; exact evP_none)); clear hK K dx; try walk_nrm)
    (refine FinG.oper_k rfl (by rfl) (by decide) ?_; intro dx K hK; go_simp; refine hK _ _ ⟨?_, FinG.at ?_ dx⟩; (· (rw [listed_nil (by simp [go_sem])]; exact evP_none)); clear hK K dx; try walk_nrm)
    (refine FinG.oper_k rfl (by rfl) (by decide) ?_; intro dx K hK; go_simp; refine hK _ _ ⟨?_, FinG.at ?_ dx⟩; (· (rw [listed_nil (by simp [go_sem]; rfl)]; exact evP_none)); clear hK K dx; try walk_nrm)
    (refine FinG.oper_k rfl (by rfl) (by decide) ?_; intro dx K hK; go_simp; refine hK _ _ ⟨?_, FinG.at ?_ dx⟩; (· (rw [listed_nil (by simp [go_sem])]; exact evP_none)); clear hK K dx; try walk_nrm)
    refine FinG.still rfl (fun _ => stepG_region_end) ?_
    refine FinG.still rfl (fun _ => stepG_cond (t := false) (by simp [Act.eval])) ?_
    simp only [if_false, Bool.false_eq_true]
    refine FinG.still rfl (fun _ => stepG_skip) ?_
    refine FinG.still rfl (fun _ => stepG_seq) ?_
    (refine FinG.still rfl (fun _ => stepG_region) ?_; simp only [List.size_toArray, List.length_cons, List.length_nil, Nat.reduceAdd, Nat.zero_add, List.range, List.range.loop])
    (refine FinG.oper_k rfl (by rfl) (by decide) ?_; intro dx K hK; go_simp; refine hK _ _ ⟨?_, FinG.at ?_ dx⟩; (· (rw [listed_nil (by simp [go_sem])]; exact evP_none)); clear hK K dx; try walk_nrm)
    refine FinG.still rfl (fun _ => stepG_region_end) ?_
    refine FinG.still rfl (fun _ => stepG_ret') ?_
    exact (FinG.done1 (by kernel_rfl) rfl rfl Tryd.func4 rfl hp).mono (by omega)
set_option maxHeartbeats 8000000 in
theorem smEnd {b₀ : Frame} {a₀ : Act} {ops₀ : Array Oper} {i₀ : Nat} {rest₀ : List Nat} {k₀ : List Item} {cs' : List Frame}
    (h : FinG Tryd.prog Wg Post n (G (b₀.at (a₀.put ((ops₀[i₀]?).bind (·.dst)) (.tuple #[.int .i64 T, .bool true])) (.inRegion ops₀ rest₀ :: k₀)) cs') w) :
    FinG Tryd.prog Wg Post (n + 10) (G ((base 6).at (smA k (.int .i64 T)) (.inRegion (opsOf sm3) [2, 3] :: [.code sm4])) (b₀.at a₀ (.inRegion ops₀ (i₀ :: rest₀) :: k₀) :: cs')) w := by
  simp only [smA, sm3, sm4, opsOf, smB, sL, sR, Tryd.f6, Option.getD_some]
  (refine FinG.oper_k rfl (by rfl) (by decide) ?_; intro dx K hK; go_simp; refine hK _ _ ⟨?_, FinG.at ?_ dx⟩; (· (rw [listed_nil (by simp [go_sem])]; exact evP_none)); clear hK K dx; try walk_nrm)
  (refine FinG.oper_k rfl (by rfl) (by decide) ?_; intro dx K hK; go_simp; refine hK _ _ ⟨?_, FinG.at ?_ dx⟩; (· (rw [listed_nil (by simp [go_sem])]; exact evP_none)); clear hK K dx; try walk_nrm)
  refine FinG.still rfl (fun _ => stepG_region_end) ?_
  refine FinG.still rfl (fun _ => stepG_ret') ?_
  exact (FinG.leave2 rfl rfl Tryd.func6 rfl h).mono (by omega)
end
end Go.Proofs.YtmphfdibijbjeaaDoor
/- FnExactStrokeMany: from the law's entry into countNumbers' loop, alone. -/
namespace Go.Proofs.YtmphfdibijbjeaaDoor
open Go.Conc Go.ConcN Go.RowKit
open Go.ConcR (wgBlock WgAt)
set_option linter.unusedSimpArgs false
set_option linter.unusedVariables false
set_option maxRecDepth 100000
/-- the heap ends so -/
def Tail (A N : Nat) (l : List Obj) (w : World) : Prop := A ≤ N ∧ w.heap.size = N + l.length ∧ ∀ i o, l[i]? = some o → w.heap[N + i]? = some o
section
variable {A N : Nat} {w w₁ : World} {l : List Obj}
theorem Tail.rely (h : Tail A N l w) (r : AtRel w w₁) : Tail A N l w₁ := by
  obtain ⟨d, rfl⟩ := r
  exact h
theorem tail_new (h : HZ A w) : Tail A w.heap.size [] w := ⟨h, by simp, fun i o hi => by simp at hi⟩
theorem Tail.alloc (h : Tail A N l w) (o : Obj) : Tail A N (l ++ [o]) (w.alloc o) := by
  obtain ⟨h1, h2, h3⟩ := h
  refine ⟨h1, by simp [h2]; omega, fun i p hi => ?_⟩
  by_cases hl : i < l.length
  · rw [List.getElem?_append_left hl] at hi
    rw [Below.heap_alloc w o _ (by omega)]
    exact h3 i p hi
  · rw [List.getElem?_append_right (by omega)] at hi
    have : i - l.length = 0 := by
      rcases Nat.eq_zero_or_pos (i - l.length) with h | h
      · exact h
      · rw [List.getElem?_eq_none (by simp; omega)] at hi; cases hi
    rw [this] at hi
    simp only [List.getElem?_cons_zero, Option.some.injEq] at hi
    subst hi
    rw [show N + i = w.heap.size by omega]
    exact heap_alloc_new w _
theorem dz_alloc (h : A ≤ w.heap.size) (o : Obj) : DSz A w (w.alloc o) #[] := ⟨by simp, rfl, rfl, rfl, fun b hb => Below.heap_alloc w o b (by omega), fun e he => by simp at he⟩
theorem Tail.ge (h : Tail A N l w) : A ≤ w.heap.size := by have := h.1; have := h.2.1; omega
end
theorem mkc : (Tryd.prog.info? 3).map (·.bytes) = some 8 := by kernel_rfl
theorem mkChanR (w : World) : (Instr.makeChan 35 (.int .i64 10)).run Tryd.prog w = .ok (.chan (some w.heap.size)) (w.alloc (.chan 10 #[] false 0 0 false)) := by
  obtain ⟨i, hi, hb⟩ := Option.map_eq_some_iff.1 mkc
  exact run_makeChan (P := Tryd.prog) (w := w) Tryd.underlying35 hi .i64 10 (by omega) (by rw [hb]; omega)
theorem mkChanE (w : World) (es : Array Event) : (Instr.makeChan 35 (.int .i64 10)).events Tryd.prog w es = es := by
  obtain ⟨i, hi, hb⟩ := Option.map_eq_some_iff.1 mkc
  exact events_makeChan (P := Tryd.prog) (w := w) Tryd.underlying35 hi .i64 10 (by omega) (by rw [hb]; omega) es
section
variable {A : Nat} {k T : Int}
noncomputable def smF (k : Int) : Frame := (base 6).at (smA k undef) (.inRegion (opsOf sm3) [1, 2, 3] :: [.code sm4])
/-- countNumbers ahead of its group -/
noncomputable def preN (N : Nat) (k : Int) (cs : List Frame) : Goroutine :=
  G ((base 10).at ⟨#[.int .i64 k, .pointer (some ⟨N, 0, none⟩), .int .i64 0, .pointer (some ⟨N + 2, 0, none⟩), undef, undef, undef, undef, .chan (some (N + 1)), undef, undef, undef, undef, undef, undef, undef, undef, undef, undef, undef, undef, undef, undef, undef, undef], []⟩ [.code (sR (sR bodyN))]) cs
def AtPre (A : Nat) (k T : Int) (g : Goroutine) (w : World) : Prop :=
  ∃ N, g = preN N k (smF k :: [lwF k T true]) ∧ Tail A N [.cells #[.int .i64 k] 3, .chan 10 #[] false 0 0 false, .cells #[.chan (some (N + 1))] 35] w
/-- countNumbers' loop is reached -/
def AtHd (A : Nat) (k T : Int) (N : Nat) (g : Goroutine) (w : World) : Prop :=
  ∃ v5 v10 v11 v12 v13 v14, g = hdN N k 0 v5 v10 v11 v12 v13 v14 (smF k :: [lwF k T true]) ∧
    Tail A N [.cells #[.int .i64 k] 3, .chan 10 #[] false 0 0 false, .cells #[.chan (some (N + 1))] 35, wgBlock lnk.tWg 0 0] w
set_option maxHeartbeats 8000000 in
theorem walkIn (hk : 0 ≤ k ∧ k ≤ 12) (hT : smR k = .tuple #[.int .i64 T, .bool true]) : ∃ n, ∀ W, HZ A W →
    Goes Tryd.prog true AtRel (DSz A) (AtPre A k T) n (G ((base 4).at ⟨#[.int .i64 k] ++ Array.replicate 24 undef, []⟩ [.code lawB]) []) W := by
  obtain ⟨Ns, hS⟩ := sStrokeManyC (main := true) (A := A) k
  rw [hT] at hS
  have hlt : decide (k < 0) = false := decide_eq_false (by omega)
  have hgt : decide (12 < k) = false := decide_eq_false (by omega)
  have hgt2 : decide (k > 12) = false := decide_eq_false (by omega)
  clear hT hk
  refine ⟨Ns + 200, fun W hF => ?_⟩
  generalize hK0 : AtPre A k T = K0
  simp only [lawB, Tryd.f4, Option.getD_some, Array.replicate_succ, Array.replicate_zero, List.push_toArray, List.append_toArray, List.nil_append, List.cons_append]
  refine Goes.stillZ (termsZ A) rfl (fun _ => stepG_seq) ?_
  (refine Goes.stillZ (termsZ A) rfl (fun _ => stepG_region) ?_; simp only [List.size_toArray, List.length_cons, List.length_nil, Nat.reduceAdd, Nat.zero_add, List.range, List.range.loop])
  (refine Goes.operZ rfl (by rfl) (by decide) ?_; intro wx hx K hK; replace hF := HZ.rely hF hx; clear hx; go_simp; refine hK _ _ ⟨?_, ?_⟩; (· (rw [listed_nil (by simp [go_sem])]; exact (termsZ A).idle _)); clear hK K; try walk_nrm)
  refine Goes.stillZ (termsZ A) rfl (fun _ => stepG_region_end) ?_
  refine Goes.stillZ (termsZ A) rfl (fun _ => stepG_seq) ?_
  (refine Goes.stillZ (termsZ A) rfl (fun _ => stepG_region) ?_; simp only [List.size_toArray, List.length_cons, List.length_nil, Nat.reduceAdd, Nat.zero_add, List.range, List.range.loop])
  (refine Goes.operZ rfl (by rfl) (by decide) ?_; intro wx hx K hK; replace hF := HZ.rely hF hx; clear hx; go_simp; refine hK _ _ ⟨?_, ?_⟩; (· (rw [listed_nil (by simp [go_sem])]; exact (termsZ A).idle _)); clear hK K; try walk_nrm)
  refine Go.Conc.Goes.mono (n := 180 + Ns + 3) ?_ (by omega)
  refine Goes.call (termsZ A) rfl (by rfl) (by decide) rfl (by simpa [go_sem] using hS _ hF) ?_
  rintro _ w1 ⟨rfl, hF⟩
  walk_nrm
  (refine Goes.operZ rfl (by rfl) (by decide) ?_; intro wx hx K hK; replace hF := HZ.rely hF hx; clear hx; go_simp; refine hK _ _ ⟨?_, ?_⟩; (· (rw [listed_nil (by simp [go_sem])]; exact (termsZ A).idle _)); clear hK K; try walk_nrm)
  (refine Goes.operZ rfl (by rfl) (by decide) ?_; intro wx hx K hK; replace hF := HZ.rely hF hx; clear hx; go_simp; refine hK _ _ ⟨?_, ?_⟩; (· (rw [listed_nil (by simp [go_sem])]; exact (termsZ A).idle _)); clear hK K; try walk_nrm)
  (refine Goes.operZ rfl (by rfl) (by decide) ?_; intro wx hx K hK; replace hF := HZ.rely hF hx; clear hx; go_simp; refine hK _ _ ⟨?_, ?_⟩; (· (rw [listed_nil (by simp [go_sem])]; exact (termsZ A).idle _)); clear hK K; try walk_nrm)
  (refine Goes.operZ rfl (by rfl) (by decide) ?_; intro wx hx K hK; replace hF := HZ.rely hF hx; clear hx; go_simp; refine hK _ _ ⟨?_, ?_⟩; (· (rw [listed_nil (by simp [go_sem])]; exact (termsZ A).idle _)); clear hK K; try walk_nrm)
  (refine Goes.operZ rfl (by rfl) (by decide) ?_; intro wx hx K hK; replace hF := HZ.rely hF hx; clear hx; go_simp; refine hK _ _ ⟨?_, ?_⟩; (· (rw [listed_nil (by simp [go_sem])]; exact (termsZ A).idle _)); clear hK K; try walk_nrm)
  refine Goes.stillZ (termsZ A) rfl (fun _ => stepG_region_end) ?_
  refine Goes.stillZ (termsZ A) rfl (fun _ => stepG_seq) ?_
  (refine Goes.stillZ (termsZ A) rfl (fun _ => stepG_region) ?_; simp only [List.size_toArray, List.length_cons, List.length_nil, Nat.reduceAdd, Nat.zero_add, List.range, List.range.loop])
  (refine Goes.operZ rfl (by rfl) (by decide) ?_; intro wx hx K hK; replace hF := HZ.rely hF hx; clear hx; go_simp; refine hK _ _ ⟨?_, ?_⟩; (· (rw [listed_nil (by simp [go_sem])]; exact (termsZ A).idle _)); clear hK K; try walk_nrm)
  refine Goes.enterZ (termsZ A) rfl (by rfl) (by decide) rfl Tryd.func6 (by rfl) rfl ?_
  walk_nrmf Tryd.f6
  refine Goes.stillZ (termsZ A) rfl (fun _ => stepG_seq) ?_
  (refine Goes.stillZ (termsZ A) rfl (fun _ => stepG_region) ?_; simp only [List.size_toArray, List.length_cons, List.length_nil, Nat.reduceAdd, Nat.zero_add, List.range, List.range.loop])
  (refine Goes.operZ rfl (by rfl) (by decide) ?_; intro wx hx K hK; replace hF := HZ.rely hF hx; clear hx; go_simp; refine hK _ _ ⟨?_, ?_⟩; (· (rw [listed_nil (by simp [go_sem])]; exact (termsZ A).idle _)); clear hK K; try walk_nrm)
  (refine Goes.operZ rfl (by rfl) (by decide) ?_; intro wx hx K hK; replace hF := HZ.rely hF hx; clear hx; go_simp; refine hK _ _ ⟨?_, ?_⟩; (· (rw [listed_nil (by simp [go_sem])]; exact (termsZ A).idle _)); clear hK K; try walk_nrm)
  refine Goes.stillZ (termsZ A) rfl (fun _ => stepG_region_end) ?_
  refine Goes.stillZ (termsZ A) rfl (fun _ => stepG_seq) ?_
  refine Goes.stillZ (termsZ A) rfl (fun _ => stepG_seq) ?_
  (refine Goes.stillZ (termsZ A) rfl (fun _ => stepG_region) ?_; simp only [List.size_toArray, List.length_cons, List.length_nil, Nat.reduceAdd, Nat.zero_add, List.range, List.range.loop])
  (refine Goes.operZ rfl (by rfl) (by decide) ?_; intro wx hx K hK; replace hF := HZ.rely hF hx; clear hx; go_simp; refine hK _ _ ⟨?_, ?_⟩; (· (rw [listed_nil (by simp [go_sem])]; exact (termsZ A).idle _)); clear hK K; try walk_nrm)
  (refine Goes.operZ rfl (by rfl) (by decide) ?_; intro wx hx K hK; replace hF := HZ.rely hF hx; clear hx; go_simp; refine hK _ _ ⟨?_, ?_⟩; (· (rw [listed_nil (by simp [go_sem])]; exact (termsZ A).idle _)); clear hK K; try walk_nrm)
  (refine Goes.operZ rfl (by rfl) (by decide) ?_; intro wx hx K hK; replace hF := HZ.rely hF hx; clear hx; go_simp; refine hK _ _ ⟨?_, ?_⟩; (· (rw [listed_nil (by simp [go_sem])]; exact (termsZ A).idle _)); clear hK K; try walk_nrm)
  (refine Goes.operZ rfl (by rfl) (by decide) ?_; intro wx hx K hK; replace hF := HZ.rely hF hx; clear hx; go_simp; refine hK _ _ ⟨?_, ?_⟩; (· (rw [listed_nil (by simp [go_sem])]; exact (termsZ A).idle _)); clear hK K; try walk_nrm)
  (refine Goes.operZ rfl (by rfl) (by decide) ?_; intro wx hx K hK; replace hF := HZ.rely hF hx; clear hx; go_simp; refine hK _ _ ⟨?_, ?_⟩; (· (rw [listed_nil (by simp [go_sem])]; exact (termsZ A).idle _)); clear hK K; try walk_nrm)
  (refine Goes.operZ rfl (by rfl) (by decide) ?_; intro wx hx K hK; replace hF := HZ.rely hF hx; clear hx; go_simp; refine hK _ _ ⟨?_, ?_⟩; (· (rw [listed_nil (by simp [go_sem])]; exact (termsZ A).idle _)); clear hK K; try walk_nrm)
  refine Goes.stillZ (termsZ A) rfl (fun _ => stepG_region_end) ?_
  refine Goes.stillZ (termsZ A) rfl (fun _ => stepG_cond (t := false) (by simp [Act.eval])) ?_
  simp only [if_false, Bool.false_eq_true]
  refine Goes.stillZ (termsZ A) rfl (fun _ => stepG_skip) ?_
  refine Goes.stillZ (termsZ A) rfl (fun _ => stepG_seq) ?_
  (refine Goes.stillZ (termsZ A) rfl (fun _ => stepG_region) ?_; simp only [List.size_toArray, List.length_cons, List.length_nil, Nat.reduceAdd, Nat.zero_add, List.range, List.range.loop])
  (refine Goes.operZ rfl (by rfl) (by decide) ?_; intro wx hx K hK; replace hF := HZ.rely hF hx; clear hx; go_simp; refine hK _ _ ⟨?_, ?_⟩; (· (rw [listed_nil (by simp [go_sem])]; exact (termsZ A).idle _)); clear hK K; try walk_nrm)
  refine Goes.enterZ (termsZ A) rfl (by rfl) (by decide) rfl Tryd.func10 (by rfl) rfl ?_
  walk_nrmf Tryd.f10
  refine Goes.stillZ (termsZ A) rfl (fun _ => stepG_seq) ?_
  (refine Goes.stillZ (termsZ A) rfl (fun _ => stepG_region) ?_; simp only [List.size_toArray, List.length_cons, List.length_nil, Nat.reduceAdd, Nat.zero_add, List.range, List.range.loop])
  refine Goes.operZ rfl (by rfl) (by decide) ?_
  intro w2 hx K hK
  replace hF := HZ.rely hF hx
  clear hx
  go_simp
  refine hK _ _ ⟨?_, ?_⟩
  · rw [listed_nil (by simp [go_sem])]; exact dz_alloc hF _
  clear hK K
  try walk_nrm
  have hQ := (tail_new hF).alloc (.cells #[.int .i64 k] 3)
  generalize w2.heap.size = N at *
  generalize w2.alloc (.cells #[.int .i64 k] 3) = w3 at *
  clear hF
  simp only [List.nil_append] at hQ
  (refine Goes.operZ rfl (by rfl) (by decide) ?_; intro wx hx K hK; replace hQ := Tail.rely hQ hx; clear hx; go_simp; refine hK _ _ ⟨?_, ?_⟩; (· (rw [listed_nil (by simp [go_sem])]; exact (termsZ A).idle _)); clear hK K; try walk_nrm)
  refine Goes.stillZ (termsZ A) rfl (fun _ => stepG_region_end) ?_
  refine Goes.stillZ (termsZ A) rfl (fun _ => stepG_seq) ?_
  (refine Goes.stillZ (termsZ A) rfl (fun _ => stepG_region) ?_; simp only [List.size_toArray, List.length_cons, List.length_nil, Nat.reduceAdd, Nat.zero_add, List.range, List.range.loop])
  refine Goes.operZ rfl (by rfl) (by decide) ?_
  intro w4 hx K hK
  replace hQ := hQ.rely hx
  clear hx
  have hz := hQ.2.1
  simp only [List.length_cons, List.length_nil, Nat.zero_add] at hz
  have hmr := mkChanR w4
  have hme := mkChanE w4
  go_simp
  try simp only [hz]
  refine hK _ _ ⟨?_, ?_⟩
  · rw [listed_nil (by simp [go_sem, hme])]; exact dz_alloc hQ.ge _
  clear hK K
  try walk_nrm
  clear hmr hme
  replace hQ := hQ.alloc (.chan 10 #[] false 0 0 false)
  generalize w4.alloc (.chan 10 #[] false 0 0 false) = w5 at *
  clear hz
  simp only [List.nil_append, List.cons_append] at hQ
  refine Goes.operZ rfl (by rfl) (by decide) ?_
  intro w6 hx K hK
  replace hQ := hQ.rely hx
  clear hx
  have hz := hQ.2.1
  simp only [List.length_cons, List.length_nil, Nat.zero_add, Nat.reduceAdd] at hz
  go_simp
  try simp only [hz]
  refine hK _ _ ⟨?_, ?_⟩
  · rw [listed_nil (by simp [go_sem])]; exact dz_alloc hQ.ge _
  clear hK K
  try walk_nrm
  replace hQ := hQ.alloc (.cells #[.chan none] 35)
  generalize w6.alloc (.cells #[.chan none] 35) = w7 at *
  clear hz
  simp only [List.nil_append, List.cons_append] at hQ
  refine Goes.operZ rfl (by rfl) (by decide) ?_
  intro w8 hx K hK
  replace hQ := hQ.rely hx
  clear hx
  have hh : w8.heap[N + 2]? = some (.cells #[.chan none] 35) := hQ.2.2 2 _ rfl
  have hc1 : w8.cell? ⟨N + 2, 0, none⟩ = some (.chan none) := by simp [World.cell?, hh]
  have hc2 : w8.frozen? ⟨N + 2, 0, none⟩ = false := by simp [World.frozen?, hh]
  have hz := hQ.2.1
  have hA := hQ.1
  simp only [List.length_cons, List.length_nil, Nat.zero_add, Nat.reduceAdd] at hz
  go_simp
  refine hK _ _ ⟨?_, ?_⟩
  · refine ⟨by simp [World.setCell], rfl, rfl, rfl, fun b hb => ?_, fun e he => ?_⟩
    · have : N + 2 ≠ b := by omega
      simp [World.setCell, Array.getElem?_modify, this]
    · have hm := mem_listed he
      simp [go_sem, storedEv, *] at hm
      subst hm
      refine ⟨_, rfl, ?_, ?_⟩
      · show A ≤ N + 2; omega
      · show N + 2 < _; simp [World.setCell, hz]
  clear hK K
  try walk_nrm
  replace hQ : Tail A N [.cells #[.int .i64 k] 3, .chan 10 #[] false 0 0 false, .cells #[.chan (some (N + 1))] 35] (w8.setCell ⟨N + 2, 0, none⟩ (.chan (some (N + 1)))) := by
    refine ⟨hA, by simp [World.setCell, hz], fun i o hi => ?_⟩
    rcases i with _ | _ | _ | i
    · cases hi
      simpa [World.setCell, Array.getElem?_modify] using hQ.2.2 0 _ rfl
    · cases hi
      simpa [World.setCell, Array.getElem?_modify] using hQ.2.2 1 _ rfl
    · cases hi
      simp [World.setCell, Array.getElem?_modify, hh]
    · cases hi
  generalize w8.setCell ⟨N + 2, 0, none⟩ (.chan (some (N + 1))) = w9 at *
  clear hz hA hc1 hc2 hh
  refine Goes.stillZ (termsZ A) rfl (fun _ => stepG_region_end) ?_
  refine Go.Conc.Goes.stop fun w10 hx => ?_
  replace hQ := hQ.rely hx
  rw [← hK0]
  exact ⟨N, rfl, hQ⟩
structure DNo (A : Nat) (w w' : World) (es : Array Event) : Prop where
  dz : DSz A w w' es
  none : es = #[]
theorem termsN (A : Nat) : Terms AtRel (DNo A) := ⟨(termsZ A).trans, fun w => ⟨(termsZ A).idle w, rfl⟩⟩
set_option maxHeartbeats 8000000 in
theorem walkHd {N : Nat} (W : World) (hQ : Tail A N [.cells #[.int .i64 k] 3, .chan 10 #[] false 0 0 false, .cells #[.chan (some (N + 1))] 35] W) :
    Goes Tryd.prog true AtRel (DNo A) (AtHd A k T N) 20 (preN N k (smF k :: [lwF k T true])) W := by
  generalize hK0 : AtHd A k T N = K0
  simp only [preN, bodyN, sR, Tryd.f10, Option.getD_some]
  refine Goes.stillZ (termsN A) rfl (fun _ => stepG_seq) ?_
  (refine Goes.stillZ (termsN A) rfl (fun _ => stepG_region) ?_; simp only [List.size_toArray, List.length_cons, List.length_nil, Nat.reduceAdd, Nat.zero_add, List.range, List.range.loop])
  refine Goes.operZ rfl (by rfl) (by decide) ?_
  intro w10 hx K hK
  replace hQ := hQ.rely hx
  clear hx
  have hz := hQ.2.1
  simp only [List.length_cons, List.length_nil, Nat.zero_add, Nat.reduceAdd] at hz
  go_simp
  try simp only [hz]
  refine hK _ _ ⟨?_, ?_⟩
  · rw [listed_nil (by simp [go_sem])]; exact ⟨dz_alloc hQ.ge _, rfl⟩
  clear hK K
  try walk_nrm
  replace hQ := hQ.alloc (.cells #[.int .u64 0, .int .u32 0] 45)
  simp only [List.nil_append, List.cons_append] at hQ
  generalize w10.alloc (.cells #[.int .u64 0, .int .u32 0] 45) = w11 at *
  clear hz
  refine Goes.stillZ (termsN A) rfl (fun _ => stepG_region_end) ?_
  refine Goes.stillZ (termsN A) rfl (fun _ => stepG_seq) ?_
  refine Goes.stillZ (termsN A) rfl (fun _ => stepG_seq) ?_
  (refine Goes.stillZ (termsN A) rfl (fun _ => stepG_region) ?_; simp only [List.size_toArray, List.length_cons, List.length_nil, Nat.reduceAdd, Nat.zero_add, List.range, List.range.loop])
  (refine Goes.operZ rfl (by rfl) (by decide) ?_; intro wx hx K hK; replace hQ := Tail.rely hQ hx; clear hx; go_simp; refine hK _ _ ⟨?_, ?_⟩; (· (rw [listed_nil (by simp [go_sem])]; exact (termsN A).idle _)); clear hK K; try walk_nrm)
  refine Goes.stillZ (termsN A) rfl (fun _ => stepG_region_end) ?_
  refine Goes.stillZ (termsN A) rfl (fun _ => stepG_block) ?_
  refine Goes.stillZ (termsN A) rfl (fun _ => stepG_loop) ?_
  refine Go.Conc.Goes.stop fun w12 hx => ?_
  replace hQ := hQ.rely hx
  rw [← hK0]
  exact ⟨_, _, _, _, _, _, rfl, hQ⟩
end
end Go.Proofs.YtmphfdibijbjeaaDoor
/- FnExactStrokeMany where StrokeMany says no: no goroutine is started. -/
namespace Go.Proofs.YtmphfdibijbjeaaDoor
open Go.Conc Go.ConcN Go.RowKit
set_option linter.unusedSimpArgs false
set_option linter.unusedVariables false
set_option maxRecDepth 100000
section
variable {A : Nat} {k T : Int}
/-- StrokeMany has come back -/
def AtBk (k T : Int) (ok : Bool) (g : Goroutine) (w : World) : Prop :=
  g = G ((base 4).at (lwA k T ok (.tuple #[.int .i64 T, .bool ok])) (.inRegion (opsOf lr2) [2, 3, 4, 5, 6] :: [.code lr3])) []
set_option maxHeartbeats 8000000 in
theorem walkOut (hk : ¬ (0 ≤ k ∧ k ≤ 12)) (hT : smR k = .tuple #[.int .i64 0, .bool false]) : ∃ n, ∀ W, HZ A W →
    Goes Tryd.prog true AtRel (DSz A) (AtBk k 0 false) n (G ((base 4).at ⟨#[.int .i64 k] ++ Array.replicate 24 undef, []⟩ [.code lawB]) []) W := by
  obtain ⟨Ns, hS⟩ := sStrokeManyC (main := true) (A := A) k
  rw [hT] at hS
  clear hT
  refine ⟨Ns + 200, fun W hF => ?_⟩
  generalize hK0 : AtBk k 0 false = K0
  simp only [lawB, Tryd.f4, Option.getD_some, Array.replicate_succ, Array.replicate_zero, List.push_toArray, List.append_toArray, List.nil_append, List.cons_append]
  refine Goes.stillZ (termsZ A) rfl (fun _ => stepG_seq) ?_
  (refine Goes.stillZ (termsZ A) rfl (fun _ => stepG_region) ?_; simp only [List.size_toArray, List.length_cons, List.length_nil, Nat.reduceAdd, Nat.zero_add, List.range, List.range.loop])
  (refine Goes.operZ rfl (by rfl) (by decide) ?_; intro wx hx K hK; replace hF := HZ.rely hF hx; clear hx; go_simp; refine hK _ _ ⟨?_, ?_⟩; (· (rw [listed_nil (by simp [go_sem])]; exact (termsZ A).idle _)); clear hK K; try walk_nrm)
  refine Goes.stillZ (termsZ A) rfl (fun _ => stepG_region_end) ?_
  refine Goes.stillZ (termsZ A) rfl (fun _ => stepG_seq) ?_
  (refine Goes.stillZ (termsZ A) rfl (fun _ => stepG_region) ?_; simp only [List.size_toArray, List.length_cons, List.length_nil, Nat.reduceAdd, Nat.zero_add, List.range, List.range.loop])
  (refine Goes.operZ rfl (by rfl) (by decide) ?_; intro wx hx K hK; replace hF := HZ.rely hF hx; clear hx; go_simp; refine hK _ _ ⟨?_, ?_⟩; (· (rw [listed_nil (by simp [go_sem])]; exact (termsZ A).idle _)); clear hK K; try walk_nrm)
  refine Go.Conc.Goes.mono (n := 180 + Ns + 3) ?_ (by omega)
  refine Goes.call (termsZ A) rfl (by rfl) (by decide) rfl (by simpa [go_sem] using hS _ hF) ?_
  rintro _ w1 ⟨rfl, hF⟩
  walk_nrm
  (refine Goes.operZ rfl (by rfl) (by decide) ?_; intro wx hx K hK; replace hF := HZ.rely hF hx; clear hx; go_simp; refine hK _ _ ⟨?_, ?_⟩; (· (rw [listed_nil (by simp [go_sem])]; exact (termsZ A).idle _)); clear hK K; try walk_nrm)
  (refine Goes.operZ rfl (by rfl) (by decide) ?_; intro wx hx K hK; replace hF := HZ.rely hF hx; clear hx; go_simp; refine hK _ _ ⟨?_, ?_⟩; (· (rw [listed_nil (by simp [go_sem])]; exact (termsZ A).idle _)); clear hK K; try walk_nrm)
  (refine Goes.operZ rfl (by rfl) (by decide) ?_; intro wx hx K hK; replace hF := HZ.rely hF hx; clear hx; go_simp; refine hK _ _ ⟨?_, ?_⟩; (· (rw [listed_nil (by simp [go_sem])]; exact (termsZ A).idle _)); clear hK K; try walk_nrm)
  (refine Goes.operZ rfl (by rfl) (by decide) ?_; intro wx hx K hK; replace hF := HZ.rely hF hx; clear hx; go_simp; refine hK _ _ ⟨?_, ?_⟩; (· (rw [listed_nil (by simp [go_sem])]; exact (termsZ A).idle _)); clear hK K; try walk_nrm)
  (refine Goes.operZ rfl (by rfl) (by decide) ?_; intro wx hx K hK; replace hF := HZ.rely hF hx; clear hx; go_simp; refine hK _ _ ⟨?_, ?_⟩; (· (rw [listed_nil (by simp [go_sem])]; exact (termsZ A).idle _)); clear hK K; try walk_nrm)
  refine Goes.stillZ (termsZ A) rfl (fun _ => stepG_region_end) ?_
  refine Goes.stillZ (termsZ A) rfl (fun _ => stepG_seq) ?_
  (refine Goes.stillZ (termsZ A) rfl (fun _ => stepG_region) ?_; simp only [List.size_toArray, List.length_cons, List.length_nil, Nat.reduceAdd, Nat.zero_add, List.range, List.range.loop])
  (refine Goes.operZ rfl (by rfl) (by decide) ?_; intro wx hx K hK; replace hF := HZ.rely hF hx; clear hx; go_simp; refine hK _ _ ⟨?_, ?_⟩; (· (rw [listed_nil (by simp [go_sem])]; exact (termsZ A).idle _)); clear hK K; try walk_nrm)
  refine Goes.enterZ (termsZ A) rfl (by rfl) (by decide) rfl Tryd.func6 (by rfl) rfl ?_
  walk_nrmf Tryd.f6
  refine Goes.stillZ (termsZ A) rfl (fun _ => stepG_seq) ?_
  (refine Goes.stillZ (termsZ A) rfl (fun _ => stepG_region) ?_; simp only [List.size_toArray, List.length_cons, List.length_nil, Nat.reduceAdd, Nat.zero_add, List.range, List.range.loop])
  (refine Goes.operZ rfl (by rfl) (by decide) ?_; intro wx hx K hK; replace hF := HZ.rely hF hx; clear hx; go_simp; refine hK _ _ ⟨?_, ?_⟩; (· (rw [listed_nil (by simp [go_sem])]; exact (termsZ A).idle _)); clear hK K; try walk_nrm)
  (refine Goes.operZ rfl (by rfl) (by decide) ?_; intro wx hx K hK; replace hF := HZ.rely hF hx; clear hx; go_simp; refine hK _ _ ⟨?_, ?_⟩; (· (rw [listed_nil (by simp [go_sem])]; exact (termsZ A).idle _)); clear hK K; try walk_nrm)
  refine Goes.stillZ (termsZ A) rfl (fun _ => stepG_region_end) ?_
  refine Goes.stillZ (termsZ A) rfl (fun _ => stepG_seq) ?_
  refine Goes.stillZ (termsZ A) rfl (fun _ => stepG_seq) ?_
  (refine Goes.stillZ (termsZ A) rfl (fun _ => stepG_region) ?_; simp only [List.size_toArray, List.length_cons, List.length_nil, Nat.reduceAdd, Nat.zero_add, List.range, List.range.loop])
  (refine Goes.operZ rfl (by rfl) (by decide) ?_; intro wx hx K hK; replace hF := HZ.rely hF hx; clear hx; go_simp; refine hK _ _ ⟨?_, ?_⟩; (· (rw [listed_nil (by simp [go_sem])]; exact (termsZ A).idle _)); clear hK K; try walk_nrm)
  by_cases hlt : k < 0
  · replace hlt : decide (k < 0) = true := decide_eq_true hlt
    (refine Goes.operZ rfl (by rfl) (by decide) ?_; intro wx hx K hK; replace hF := HZ.rely hF hx; clear hx; go_simp; refine hK _ _ ⟨?_, ?_⟩; (· (rw [listed_nil (by simp [go_sem])]; exact (termsZ A).idle _)); clear hK K; try walk_nrm)
    (refine Goes.operZ rfl (by rfl) (by decide) ?_; intro wx hx K hK; replace hF := HZ.rely hF hx; clear hx; go_simp; refine hK _ _ ⟨?_, ?_⟩; (· (rw [listed_nil (by simp [go_sem])]; exact (termsZ A).idle _)); clear hK K; try walk_nrm)
    refine Goes.stillZ (termsZ A) rfl (fun _ => stepG_unwanted rfl rfl) ?_
    walk_nrm
    refine Goes.stillZ (termsZ A) rfl (fun _ => stepG_unwanted rfl rfl) ?_
    walk_nrm
    (refine Goes.operZ rfl (by rfl) (by decide) ?_; intro wx hx K hK; replace hF := HZ.rely hF hx; clear hx; go_simp; refine hK _ _ ⟨?_, ?_⟩; (· (rw [listed_nil (by simp [go_sem])]; exact (termsZ A).idle _)); clear hK K; try walk_nrm)
    refine Goes.stillZ (termsZ A) rfl (fun _ => stepG_region_end) ?_
    refine Goes.stillZ (termsZ A) rfl (fun _ => stepG_cond (t := true) (by simp [Act.eval])) ?_
    simp only [if_true]
    refine Goes.stillZ (termsZ A) rfl (fun _ => stepG_seq) ?_
    (refine Goes.stillZ (termsZ A) rfl (fun _ => stepG_region) ?_; simp only [List.size_toArray, List.length_cons, List.length_nil, Nat.reduceAdd, Nat.zero_add, List.range, List.range.loop])
    (refine Goes.operZ rfl (by rfl) (by decide) ?_; intro wx hx K hK; replace hF := HZ.rely hF hx; clear hx; go_simp; refine hK _ _ ⟨?_, ?_⟩; (· (rw [listed_nil (by simp [go_sem])]; exact (termsZ A).idle _)); clear hK K; try walk_nrm)
    (refine Goes.operZ rfl (by rfl) (by decide) ?_; intro wx hx K hK; replace hF := HZ.rely hF hx; clear hx; go_simp; refine hK _ _ ⟨?_, ?_⟩; (· (rw [listed_nil (by simp [go_sem])]; exact (termsZ A).idle _)); clear hK K; try walk_nrm)
    refine Goes.stillZ (termsZ A) rfl (fun _ => stepG_region_end) ?_
    refine Goes.stillZ (termsZ A) rfl (fun _ => stepG_ret') ?_
    refine Goes.leave2Z (termsZ A) rfl rfl Tryd.func6 rfl ?_
    refine Go.Conc.Goes.stop fun w12 hx => ?_
    rw [← hK0]
    rfl
  · have hgt : decide (12 < k) = true := decide_eq_true (by omega)
    have hgt2 : decide (k > 12) = true := decide_eq_true (by omega)
    replace hlt : decide (k < 0) = false := decide_eq_false hlt
    (refine Goes.operZ rfl (by rfl) (by decide) ?_; intro wx hx K hK; replace hF := HZ.rely hF hx; clear hx; go_simp; refine hK _ _ ⟨?_, ?_⟩; (· (rw [listed_nil (by simp [go_sem])]; exact (termsZ A).idle _)); clear hK K; try walk_nrm)
    (refine Goes.operZ rfl (by rfl) (by decide) ?_; intro wx hx K hK; replace hF := HZ.rely hF hx; clear hx; go_simp; refine hK _ _ ⟨?_, ?_⟩; (· (rw [listed_nil (by simp [go_sem])]; exact (termsZ A).idle _)); clear hK K; try walk_nrm)
    (refine Goes.operZ rfl (by rfl) (by decide) ?_; intro wx hx K hK; replace hF := HZ.rely hF hx; clear hx; go_simp; refine hK _ _ ⟨?_, ?_⟩; (· (rw [listed_nil (by simp [go_sem])]; exact (termsZ A).idle _)); clear hK K; try walk_nrm)
    (refine Goes.operZ rfl (by rfl) (by decide) ?_; intro wx hx K hK; replace hF := HZ.rely hF hx; clear hx; go_simp; refine hK _ _ ⟨?_, ?_⟩; (· (rw [listed_nil (by simp [go_sem])]; exact (termsZ A).idle _)); clear hK K; try walk_nrm)
    (refine Goes.operZ rfl (by rfl) (by decide) ?_; intro wx hx K hK; replace hF := HZ.rely hF hx; clear hx; go_simp; refine hK _ _ ⟨?_, ?_⟩; (· (rw [listed_nil (by simp [go_sem])]; exact (termsZ A).idle _)); clear hK K; try walk_nrm)
    refine Goes.stillZ (termsZ A) rfl (fun _ => stepG_region_end) ?_
    refine Goes.stillZ (termsZ A) rfl (fun _ => stepG_cond (t := true) (by simp [Act.eval])) ?_
    simp only [if_true]
    refine Goes.stillZ (termsZ A) rfl (fun _ => stepG_seq) ?_
    (refine Goes.stillZ (termsZ A) rfl (fun _ => stepG_region) ?_; simp only [List.size_toArray, List.length_cons, List.length_nil, Nat.reduceAdd, Nat.zero_add, List.range, List.range.loop])
    (refine Goes.operZ rfl (by rfl) (by decide) ?_; intro wx hx K hK; replace hF := HZ.rely hF hx; clear hx; go_simp; refine hK _ _ ⟨?_, ?_⟩; (· (rw [listed_nil (by simp [go_sem])]; exact (termsZ A).idle _)); clear hK K; try walk_nrm)
    (refine Goes.operZ rfl (by rfl) (by decide) ?_; intro wx hx K hK; replace hF := HZ.rely hF hx; clear hx; go_simp; refine hK _ _ ⟨?_, ?_⟩; (· (rw [listed_nil (by simp [go_sem])]; exact (termsZ A).idle _)); clear hK K; try walk_nrm)
    refine Goes.stillZ (termsZ A) rfl (fun _ => stepG_region_end) ?_
    refine Goes.stillZ (termsZ A) rfl (fun _ => stepG_ret') ?_
    refine Goes.leave2Z (termsZ A) rfl rfl Tryd.func6 rfl ?_
    refine Go.Conc.Goes.stop fun w12 hx => ?_
    rw [← hK0]
    rfl
end
end Go.Proofs.YtmphfdibijbjeaaDoor
/- What all workers count together. -/
namespace Go.Proofs.YtmphfdibijbjeaaDoor
open Go.Conc Go.ConcN
set_option linter.unusedSimpArgs false
set_option linter.unusedVariables false
set_option maxRecDepth 100000
theorem lens_bc (n : Nat) (h : n ≤ 9999) : lens n 4 = bc (vsg n) := by
  have e3 : n / 1000 % 10 = n / 1000 := by omega
  rw [bc_sg]
  simp only [lens, Nat.pow_zero, Nat.div_one, Nat.zero_add, Nat.reducePow, e3]
  rw [kds_len _ (Nat.mod_lt _ (by omega)), kds_len _ (Nat.mod_lt _ (by omega)), kds_len _ (Nat.mod_lt _ (by omega)), kds_len _ (by omega)]
theorem cnt_mny (K a : Nat) : ∀ i, a + i ≤ 10000 → mny K (a + i) = mny K a + cntR (K : Int) a i
  | 0, _ => by simp [cntR]
  | i + 1, h => by
    have ih := cnt_mny K a i (by omega)
    have e : lens (a + i) 4 = bc (vsg (a + i)) := lens_bc _ (by omega)
    rw [← Nat.add_assoc, mny, ih, cntR, e]
    by_cases hb : bc (vsg (a + i)) = K
    · rw [if_pos hb, if_pos (by omega), Nat.add_assoc]
    · rw [if_neg hb, if_neg (by omega), Nat.add_assoc]
theorem sum_mny (K : Nat) : ∀ j, j ≤ 10 → sumTo j (valN (K : Int)) = mny K (1000 * j)
  | 0, _ => rfl
  | j + 1, h => by
    rw [sumTo, sum_mny K j (by omega), show 1000 * (j + 1) = 1000 * j + 1000 by omega, cnt_mny K (1000 * j) 1000 (by omega)]
end Go.Proofs.YtmphfdibijbjeaaDoor
/- FnExactStrokeMany: the whole run, on every tape. -/
namespace Go.Proofs.YtmphfdibijbjeaaDoor
open Go.Conc Go.ConcN Go.RowKit
open Go.ConcR (wgBlock WgAt stA)
set_option linter.unusedSimpArgs false
set_option linter.unusedVariables false
set_option maxRecDepth 100000
section
variable {P : Program} {A : Nat} {Stop : Goroutine → World → Prop}
theorem solo_n : ∀ {n : Nat} {a : Goroutine} {w : World}, Goes P true AtRel (DNo A) Stop n a w →
    ∃ k a' w', (∀ t, runNT P k (solo a w) t = (.next (solo a' w'), t)) ∧ Stop a' w' ∧ Below A w w' := by
  intro n
  induction n with
  | zero => exact fun {a w} h => ⟨0, a, w, fun t => by simp [runNT], h w (atRel_refl w), Below.refl _ _⟩
  | succ n ih =>
    intro a w h
    rcases h with h | ⟨hs, h⟩
    · exact ⟨0, a, w, fun t => by simp [runNT], h w (atRel_refl w), Below.refl _ _⟩
    · obtain ⟨a₁, w₁, es, hgo, hd, hg⟩ := goes_elim (h w (atRel_refl w))
      obtain ⟨k, a', w', hrun, hstop, hb⟩ := ih hg
      refine ⟨k + 1, a', w', fun t => ?_, hstop, (below_dz hd.dz).trans hb⟩
      rw [runNT_succ_next ((stepT_solo hs).trans (runT_solo_go hgo)), hrun, hd.none]
      simp [ofEvents_eq]
theorem run_then {k M : Nat} {m m' last : Machine} {t t1 t' : Trace} {o : Outcome} {w' : World} (r : runNT P k m t = (.next m', t1)) (e1 : runNT P (M + 1) m' t1 = (.ended o w', t')) (e2 : runN P M m' = .next last) :
    runNT P (k + M + 1) m t = (.ended o w', t') ∧ runN P (k + M) m = .next last :=
  ⟨by rw [Nat.add_assoc, runNT_add, r]; exact e1, by rw [runN_add, ← runNT_fst P _ _ t, r]; exact e2⟩
end
/-- the law's promise -/
def PostX (W : World) (v : Value) (w : World) : Prop := v = .bool true ∧ Below W.heap.size W w
theorem putS (k : Int) (v : Value) : (smA k undef).put (((opsOf sm3)[1]?).bind (·.dst)) v = smA k v := by
  simp only [smA, opsOf, sm3, smB, sL, sR, Tryd.f6, Option.getD_some]
  simp [Act.put]
theorem manyRun (hI : ∀ N w₀, WaitInS Tryd.prog lnk (N + 3) (RN N) (FL N w₀)) (hO : ∀ N w₀, WaitOnS Tryd.prog lnk (N + 3) (RN N) (FL N w₀)) {B0 : Nat} (k : Int) (W : World) (hD : DKB B0 W) (hB : B0 ≤ W.heap.size) :
    ∃ M last o w' t', runNT Tryd.prog (M + 1) (solo (G (Frame.enter Tryd.prog 4 #[.int .i64 k] .normal) []) W) #[] = (.ended o w', t') ∧ runN Tryd.prog M (solo (G (Frame.enter Tryd.prog 4 #[.int .i64 k] .normal) []) W) = .next last ∧
      step Tryd.prog last = .ended o w' ∧ Go.Conc.Good Tryd.prog (PostX W) last o w' t' := by
  have hen : Frame.enter Tryd.prog 4 #[.int .i64 k] .normal = (base 4).at ⟨#[.int .i64 k] ++ Array.replicate 24 undef, []⟩ [.code lawB] := by
    rw [enter_at (c := lawB) #[.int .i64 k] Tryd.func4 (by unfold lawB; rfl), Tryd.ntmps4]
    rfl
  rw [hen]
  have hA : 0 < W.heap.size := by have := hD.1; omega
  by_cases hk : 0 ≤ k ∧ k ≤ 12
  · obtain ⟨K, rfl⟩ := Int.eq_ofNat_of_zero_le hk.1
    have hT : smR (K : Int) = .tuple #[.int .i64 ((mny K 10000 : Nat) : Int), .bool true] := by unfold smR; rw [if_pos hk]; rfl
    obtain ⟨n, hn⟩ := walkIn (A := W.heap.size) hk hT
    obtain ⟨k1, a1, w1, t1, r1, ⟨N, rfl, hQ⟩, hb1, hal⟩ := solo_z #[] (hn W (Nat.le_refl _)) (alone_nil _)
    obtain ⟨k2, a2, w2, r2, ⟨v5, v10, v11, v12, v13, v14, rfl, hQ2⟩, hb2⟩ := solo_n (walkHd w1 hQ)
    have hb : Below W.heap.size W w2 := hb1.trans hb2
    have hAN : W.heap.size ≤ N := hQ.1
    have hz1 : w1.heap.size = N + 3 := hQ.2.1
    have hz2 : w2.heap.size = N + 4 := hQ2.2.1
    have g0 : w2.heap[N]? = some (.cells #[.int .i64 (K : Int)] 3) := hQ2.2.2 0 _ rfl
    have g2 : w2.heap[N + 2]? = some (.cells #[.chan (some (N + 1))] 35) := hQ2.2.2 2 _ rfl
    have h0 : W0 B0 N (K : Int) w2 :=
      ⟨hD.step ⟨hb.os, hb.tape, hb.output, hb.size, fun b hbb => hb.block b (by omega)⟩, by omega, hz2, by simp [World.cell?, g0], by simp [World.cell?, g2]⟩
    have hsum : mny K 10000 = sumTo 10 (valN (K : Int)) := (sum_mny K 10 (by omega)).symm
    have hle := mny_le K 10000
    have hseen : Seen (N + 3) t1 := hz1 ▸ hal.seen
    obtain ⟨M, last, o, w', t', e1, e2, e3, e4⟩ := countN (B0 := B0) (N := N) (x := (K : Int)) (w₀ := w2) (m := 70) (T := mny K 10000) (Post := PostX W) (b₀ := base 6) (a₀ := smA K undef) (ops₀ := opsOf sm3) (i₀ := 1) (rest₀ := [2, 3]) (k₀ := [.code sm4]) (cs' := [lwF K (mny K 10000 : Nat) true])
      (hI N w2) (hO N w2) h0 hsum (by omega) (hQ2.2.2 3 _ rfl) (hQ2.2.2 1 _ rfl) hal.g hseen (fun op hop => hal.mute op hop _) (hal.deaf 0)
      (fun w hF => by
        rw [putS]
        refine smEnd (n := 60) ?_
        rw [putL]
        refine lawEnd true fun d => ⟨rfl, hF.os.trans hb.os, hF.tape.trans hb.tape, hF.output.trans hb.output, ?_, fun b hbb => (hF.low b (by omega) (by omega) (by omega)).trans (hb.block b hbb)⟩
        have h1 := hF.size
        have h2 := hb.size
        show W.heap.size ≤ w.heap.size
        omega) v5 v10 v11 v12 v13 v14
    obtain ⟨q1, q2⟩ := run_then (r2 t1) e1 e2
    obtain ⟨q3, q4⟩ := run_then r1 q1 q2
    exact ⟨_, last, o, w', t', q3, q4, e3, e4⟩
  · have hT : smR k = .tuple #[.int .i64 0, .bool false] := by unfold smR; rw [if_neg hk]
    obtain ⟨n, hn⟩ := walkOut (A := W.heap.size) hk hT
    refine fin_solo (FinG.solo (Wg := 0) (Stop := AtBk k 0 false) (J := Below W.heap.size W) hA (fun w d h => ⟨h.os, h.tape, h.output, h.size, h.block⟩) (fun w w' h1 h2 => h2.trans h1) (m := 60) ?_ (hn W (Nat.le_refl _)) (Below.refl _ _))
    intro g w hs hj
    rw [hs]
    exact lawEnd false fun d => ⟨rfl, hj.os, hj.tape, hj.output, hj.size, hj.block⟩
end Go.Proofs.YtmphfdibijbjeaaDoor
/- StrokeMany called by whatever frame: into countNumbers' loop, alone; or back with false; and the run from there, on every tape. -/
namespace Go.Proofs.YtmphfdibijbjeaaDoor
open Go.Conc Go.ConcN Go.RowKit
open Go.ConcR (wgBlock WgAt stA)
set_option linter.unusedSimpArgs false
set_option linter.unusedVariables false
set_option maxRecDepth 100000
section
variable {A : Nat} {k : Int} {cs : List Frame}
def AtPreC (A : Nat) (k : Int) (cs : List Frame) (g : Goroutine) (w : World) : Prop :=
  ∃ N, g = preN N k (smF k :: cs) ∧ Tail A N [.cells #[.int .i64 k] 3, .chan 10 #[] false 0 0 false, .cells #[.chan (some (N + 1))] 35] w
def AtHdC (A : Nat) (k : Int) (cs : List Frame) (N : Nat) (g : Goroutine) (w : World) : Prop :=
  ∃ v5 v10 v11 v12 v13 v14, g = hdN N k 0 v5 v10 v11 v12 v13 v14 (smF k :: cs) ∧
    Tail A N [.cells #[.int .i64 k] 3, .chan 10 #[] false 0 0 false, .cells #[.chan (some (N + 1))] 35, wgBlock lnk.tWg 0 0] w
set_option maxHeartbeats 8000000 in
theorem smIn (hk : 0 ≤ k ∧ k ≤ 12) (W : World) (hF : HZ A W) : Goes Tryd.prog true AtRel (DSz A) (AtPreC A k cs) 100 (G ((base 6).at ⟨#[.int .i64 k] ++ Array.replicate 11 undef, []⟩ [.code smB]) cs) W := by
  have hlt : decide (k < 0) = false := decide_eq_false (by omega)
  have hgt : decide (12 < k) = false := decide_eq_false (by omega)
  have hgt2 : decide (k > 12) = false := decide_eq_false (by omega)
  clear hk
  generalize hK0 : AtPreC A k cs = K0
  simp only [smB, Tryd.f6, Option.getD_some, Array.replicate_succ, Array.replicate_zero, List.push_toArray, List.append_toArray, List.nil_append, List.cons_append]
  refine Goes.stillZ (termsZ A) rfl (fun _ => stepG_seq) ?_
  (refine Goes.stillZ (termsZ A) rfl (fun _ => stepG_region) ?_; simp only [List.size_toArray, List.length_cons, List.length_nil, Nat.reduceAdd, Nat.zero_add, List.range, List.range.loop])
  (refine Goes.operZ rfl (by rfl) (by decide) ?_; intro wx hx K hK; replace hF := HZ.rely hF hx; clear hx; go_simp; refine hK _ _ ⟨?_, ?_⟩; (· (rw [listed_nil (by simp [go_sem])]; exact (termsZ A).idle _)); clear hK K; try walk_nrm)
  (refine Goes.operZ rfl (by rfl) (by decide) ?_; intro wx hx K hK; replace hF := HZ.rely hF hx; clear hx; go_simp; refine hK _ _ ⟨?_, ?_⟩; (· (rw [listed_nil (by simp [go_sem])]; exact (termsZ A).idle _)); clear hK K; try walk_nrm)
  refine Goes.stillZ (termsZ A) rfl (fun _ => stepG_region_end) ?_
  refine Goes.stillZ (termsZ A) rfl (fun _ => stepG_seq) ?_
  refine Goes.stillZ (termsZ A) rfl (fun _ => stepG_seq) ?_
  (refine Goes.stillZ (termsZ A) rfl (fun _ => stepG_region) ?_; simp only [List.size_toArray, List.length_cons, List.length_nil, Nat.reduceAdd, Nat.zero_add, List.range, List.range.loop])
  (refine Goes.operZ rfl (by rfl) (by decide) ?_; intro wx hx K hK; replace hF := HZ.rely hF hx; clear hx; go_simp; refine hK _ _ ⟨?_, ?_⟩; (· (rw [listed_nil (by simp [go_sem])]; exact (termsZ A).idle _)); clear hK K; try walk_nrm)
  (refine Goes.operZ rfl (by rfl) (by decide) ?_; intro wx hx K hK; replace hF := HZ.rely hF hx; clear hx; go_simp; refine hK _ _ ⟨?_, ?_⟩; (· (rw [listed_nil (by simp [go_sem])]; exact (termsZ A).idle _)); clear hK K; try walk_nrm)
  (refine Goes.operZ rfl (by rfl) (by decide) ?_; intro wx hx K hK; replace hF := HZ.rely hF hx; clear hx; go_simp; refine hK _ _ ⟨?_, ?_⟩; (· (rw [listed_nil (by simp [go_sem])]; exact (termsZ A).idle _)); clear hK K; try walk_nrm)
  (refine Goes.operZ rfl (by rfl) (by decide) ?_; intro wx hx K hK; replace hF := HZ.rely hF hx; clear hx; go_simp; refine hK _ _ ⟨?_, ?_⟩; (· (rw [listed_nil (by simp [go_sem])]; exact (termsZ A).idle _)); clear hK K; try walk_nrm)
  (refine Goes.operZ rfl (by rfl) (by decide) ?_; intro wx hx K hK; replace hF := HZ.rely hF hx; clear hx; go_simp; refine hK _ _ ⟨?_, ?_⟩; (· (rw [listed_nil (by simp [go_sem])]; exact (termsZ A).idle _)); clear hK K; try walk_nrm)
  (refine Goes.operZ rfl (by rfl) (by decide) ?_; intro wx hx K hK; replace hF := HZ.rely hF hx; clear hx; go_simp; refine hK _ _ ⟨?_, ?_⟩; (· (rw [listed_nil (by simp [go_sem])]; exact (termsZ A).idle _)); clear hK K; try walk_nrm)
  refine Goes.stillZ (termsZ A) rfl (fun _ => stepG_region_end) ?_
  refine Goes.stillZ (termsZ A) rfl (fun _ => stepG_cond (t := false) (by simp [Act.eval])) ?_
  simp only [if_false, Bool.false_eq_true]
  refine Goes.stillZ (termsZ A) rfl (fun _ => stepG_skip) ?_
  refine Goes.stillZ (termsZ A) rfl (fun _ => stepG_seq) ?_
  (refine Goes.stillZ (termsZ A) rfl (fun _ => stepG_region) ?_; simp only [List.size_toArray, List.length_cons, List.length_nil, Nat.reduceAdd, Nat.zero_add, List.range, List.range.loop])
  (refine Goes.operZ rfl (by rfl) (by decide) ?_; intro wx hx K hK; replace hF := HZ.rely hF hx; clear hx; go_simp; refine hK _ _ ⟨?_, ?_⟩; (· (rw [listed_nil (by simp [go_sem])]; exact (termsZ A).idle _)); clear hK K; try walk_nrm)
  refine Goes.enterZ (termsZ A) rfl (by rfl) (by decide) rfl Tryd.func10 (by rfl) rfl ?_
  walk_nrmf Tryd.f10
  refine Goes.stillZ (termsZ A) rfl (fun _ => stepG_seq) ?_
  (refine Goes.stillZ (termsZ A) rfl (fun _ => stepG_region) ?_; simp only [List.size_toArray, List.length_cons, List.length_nil, Nat.reduceAdd, Nat.zero_add, List.range, List.range.loop])
  refine Goes.operZ rfl (by rfl) (by decide) ?_
  intro w2 hx K hK
  replace hF := HZ.rely hF hx
  clear hx
  go_simp
  refine hK _ _ ⟨?_, ?_⟩
  · rw [listed_nil (by simp [go_sem])]; exact dz_alloc hF _
  clear hK K
  try walk_nrm
  have hQ := (tail_new hF).alloc (.cells #[.int .i64 k] 3)
  generalize w2.heap.size = N at *
  generalize w2.alloc (.cells #[.int .i64 k] 3) = w3 at *
  clear hF
  simp only [List.nil_append] at hQ
  (refine Goes.operZ rfl (by rfl) (by decide) ?_; intro wx hx K hK; replace hQ := Tail.rely hQ hx; clear hx; go_simp; refine hK _ _ ⟨?_, ?_⟩; (· (rw [listed_nil (by simp [go_sem])]; exact (termsZ A).idle _)); clear hK K; try walk_nrm)
  refine Goes.stillZ (termsZ A) rfl (fun _ => stepG_region_end) ?_
  refine Goes.stillZ (termsZ A) rfl (fun _ => stepG_seq) ?_
  (refine Goes.stillZ (termsZ A) rfl (fun _ => stepG_region) ?_; simp only [List.size_toArray, List.length_cons, List.length_nil, Nat.reduceAdd, Nat.zero_add, List.range, List.range.loop])
  refine Goes.operZ rfl (by rfl) (by decide) ?_
  intro w4 hx K hK
  replace hQ := hQ.rely hx
  clear hx
  have hz := hQ.2.1
  simp only [List.length_cons, List.length_nil, Nat.zero_add] at hz
  have hmr := mkChanR w4
  have hme := mkChanE w4
  go_simp
  try simp only [hz]
  refine hK _ _ ⟨?_, ?_⟩
  · rw [listed_nil (by simp [go_sem, hme])]; exact dz_alloc hQ.ge _
  clear hK K
  try walk_nrm
  clear hmr hme
  replace hQ := hQ.alloc (.chan 10 #[] false 0 0 false)
  generalize w4.alloc (.chan 10 #[] false 0 0 false) = w5 at *
  clear hz
  simp only [List.nil_append, List.cons_append] at hQ
  refine Goes.operZ rfl (by rfl) (by decide) ?_
  intro w6 hx K hK
  replace hQ := hQ.rely hx
  clear hx
  have hz := hQ.2.1
  simp only [List.length_cons, List.length_nil, Nat.zero_add, Nat.reduceAdd] at hz
  go_simp
  try simp only [hz]
  refine hK _ _ ⟨?_, ?_⟩
  · rw [listed_nil (by simp [go_sem])]; exact dz_alloc hQ.ge _
  clear hK K
  try walk_nrm
  replace hQ := hQ.alloc (.cells #[.chan none] 35)
  generalize w6.alloc (.cells #[.chan none] 35) = w7 at *
  clear hz
  simp only [List.nil_append, List.cons_append] at hQ
  refine Goes.operZ rfl (by rfl) (by decide) ?_
  intro w8 hx K hK
  replace hQ := hQ.rely hx
  clear hx
  have hh : w8.heap[N + 2]? = some (.cells #[.chan none] 35) := hQ.2.2 2 _ rfl
  have hc1 : w8.cell? ⟨N + 2, 0, none⟩ = some (.chan none) := by simp [World.cell?, hh]
  have hc2 : w8.frozen? ⟨N + 2, 0, none⟩ = false := by simp [World.frozen?, hh]
  have hz := hQ.2.1
  have hA := hQ.1
  simp only [List.length_cons, List.length_nil, Nat.zero_add, Nat.reduceAdd] at hz
  go_simp
  refine hK _ _ ⟨?_, ?_⟩
  · refine ⟨by simp [World.setCell], rfl, rfl, rfl, fun b hb => ?_, fun e he => ?_⟩
    · have : N + 2 ≠ b := by omega
      simp [World.setCell, Array.getElem?_modify, this]
    · have hm := mem_listed he
      simp [go_sem, storedEv, *] at hm
      subst hm
      refine ⟨_, rfl, ?_, ?_⟩
      · show A ≤ N + 2; omega
      · show N + 2 < _; simp [World.setCell, hz]
  clear hK K
  try walk_nrm
  replace hQ : Tail A N [.cells #[.int .i64 k] 3, .chan 10 #[] false 0 0 false, .cells #[.chan (some (N + 1))] 35] (w8.setCell ⟨N + 2, 0, none⟩ (.chan (some (N + 1)))) := by
    refine ⟨hA, by simp [World.setCell, hz], fun i o hi => ?_⟩
    rcases i with _ | _ | _ | i
    · cases hi
      simpa [World.setCell, Array.getElem?_modify] using hQ.2.2 0 _ rfl
    · cases hi
      simpa [World.setCell, Array.getElem?_modify] using hQ.2.2 1 _ rfl
    · cases hi
      simp [World.setCell, Array.getElem?_modify, hh]
    · cases hi
  generalize w8.setCell ⟨N + 2, 0, none⟩ (.chan (some (N + 1))) = w9 at *
  clear hz hA hc1 hc2 hh
  refine Goes.stillZ (termsZ A) rfl (fun _ => stepG_region_end) ?_
  refine Go.Conc.Goes.stop fun w10 hx => ?_
  replace hQ := hQ.rely hx
  rw [← hK0]
  exact ⟨N, rfl, hQ⟩
set_option maxHeartbeats 8000000 in
theorem hdC {N : Nat} (W : World) (hQ : Tail A N [.cells #[.int .i64 k] 3, .chan 10 #[] false 0 0 false, .cells #[.chan (some (N + 1))] 35] W) :
    Goes Tryd.prog true AtRel (DNo A) (AtHdC A k cs N) 20 (preN N k (smF k :: cs)) W := by
  generalize hK0 : AtHdC A k cs N = K0
  simp only [preN, bodyN, sR, Tryd.f10, Option.getD_some]
  refine Goes.stillZ (termsN A) rfl (fun _ => stepG_seq) ?_
  (refine Goes.stillZ (termsN A) rfl (fun _ => stepG_region) ?_; simp only [List.size_toArray, List.length_cons, List.length_nil, Nat.reduceAdd, Nat.zero_add, List.range, List.range.loop])
  refine Goes.operZ rfl (by rfl) (by decide) ?_
  intro w10 hx K hK
  replace hQ := hQ.rely hx
  clear hx
  have hz := hQ.2.1
  simp only [List.length_cons, List.length_nil, Nat.zero_add, Nat.reduceAdd] at hz
  go_simp
  try simp only [hz]
  refine hK _ _ ⟨?_, ?_⟩
  · rw [listed_nil (by simp [go_sem])]; exact ⟨dz_alloc hQ.ge _, rfl⟩
  clear hK K
  try walk_nrm
  replace hQ := hQ.alloc (.cells #[.int .u64 0, .int .u32 0] 45)
  simp only [List.nil_append, List.cons_append] at hQ
  generalize w10.alloc (.cells #[.int .u64 0, .int .u32 0] 45) = w11 at *
  clear hz
  refine Goes.stillZ (termsN A) rfl (fun _ => stepG_region_end) ?_
  refine Goes.stillZ (termsN A) rfl (fun _ => stepG_seq) ?_
  refine Goes.stillZ (termsN A) rfl (fun _ => stepG_seq) ?_
  (refine Goes.stillZ (termsN A) rfl (fun _ => stepG_region) ?_; simp only [List.size_toArray, List.length_cons, List.length_nil, Nat.reduceAdd, Nat.zero_add, List.range, List.range.loop])
  (refine Goes.operZ rfl (by rfl) (by decide) ?_; intro wx hx K hK; replace hQ := Tail.rely hQ hx; clear hx; go_simp; refine hK _ _ ⟨?_, ?_⟩; (· (rw [listed_nil (by simp [go_sem])]; exact (termsN A).idle _)); clear hK K; try walk_nrm)
  refine Goes.stillZ (termsN A) rfl (fun _ => stepG_region_end) ?_
  refine Goes.stillZ (termsN A) rfl (fun _ => stepG_block) ?_
  refine Goes.stillZ (termsN A) rfl (fun _ => stepG_loop) ?_
  refine Go.Conc.Goes.stop fun w12 hx => ?_
  replace hQ := hQ.rely hx
  rw [← hK0]
  exact ⟨_, _, _, _, _, _, rfl, hQ⟩
set_option maxHeartbeats 8000000 in
theorem smNo {b₀ : Frame} {a₀ : Act} {ops₀ : Array Oper} {i₀ : Nat} {rest₀ : List Nat} {k₀ : List Item} {cs' : List Frame} {K0 : Goroutine → World → Prop} (hk : ¬ (0 ≤ k ∧ k ≤ 12)) (W : World) (hF : HZ A W)
    (hK0 : ∀ w, HZ A w → K0 (G (b₀.at (a₀.put ((ops₀[i₀]?).bind (·.dst)) (.tuple #[.int .i64 0, .bool false])) (.inRegion ops₀ rest₀ :: k₀)) cs') w) :
    Goes Tryd.prog true AtRel (DSz A) K0 100 (G ((base 6).at ⟨#[.int .i64 k] ++ Array.replicate 11 undef, []⟩ [.code smB]) (b₀.at a₀ (.inRegion ops₀ (i₀ :: rest₀) :: k₀) :: cs')) W := by
  simp only [smB, Tryd.f6, Option.getD_some, Array.replicate_succ, Array.replicate_zero, List.push_toArray, List.append_toArray, List.nil_append, List.cons_append]
  refine Goes.stillZ (termsZ A) rfl (fun _ => stepG_seq) ?_
  (refine Goes.stillZ (termsZ A) rfl (fun _ => stepG_region) ?_; simp only [List.size_toArray, List.length_cons, List.length_nil, Nat.reduceAdd, Nat.zero_add, List.range, List.range.loop])
  (refine Goes.operZ rfl (by rfl) (by decide) ?_; intro wx hx K hK; replace hF := HZ.rely hF hx; clear hx; go_simp; refine hK _ _ ⟨?_, ?_⟩; (· (rw [listed_nil (by simp [go_sem])]; exact (termsZ A).idle _)); clear hK K; try walk_nrm)
  (refine Goes.operZ rfl (by rfl) (by decide) ?_; intro wx hx K hK; replace hF := HZ.rely hF hx; clear hx; go_simp; refine hK _ _ ⟨?_, ?_⟩; (· (rw [listed_nil (by simp [go_sem])]; exact (termsZ A).idle _)); clear hK K; try walk_nrm)
  refine Goes.stillZ (termsZ A) rfl (fun _ => stepG_region_end) ?_
  refine Goes.stillZ (termsZ A) rfl (fun _ => stepG_seq) ?_
  refine Goes.stillZ (termsZ A) rfl (fun _ => stepG_seq) ?_
  (refine Goes.stillZ (termsZ A) rfl (fun _ => stepG_region) ?_; simp only [List.size_toArray, List.length_cons, List.length_nil, Nat.reduceAdd, Nat.zero_add, List.range, List.range.loop])
  (refine Goes.operZ rfl (by rfl) (by decide) ?_; intro wx hx K hK; replace hF := HZ.rely hF hx; clear hx; go_simp; refine hK _ _ ⟨?_, ?_⟩; (· (rw [listed_nil (by simp [go_sem])]; exact (termsZ A).idle _)); clear hK K; try walk_nrm)
  by_cases hlt : k < 0
  · replace hlt : decide (k < 0) = true := decide_eq_true hlt
    (refine Goes.operZ rfl (by rfl) (by decide) ?_; intro wx hx K hK; replace hF := HZ.rely hF hx; clear hx; go_simp; refine hK _ _ ⟨?_, ?_⟩; (· (rw [listed_nil (by simp [go_sem])]; exact (termsZ A).idle _)); clear hK K; try walk_nrm)
    (refine Goes.operZ rfl (by rfl) (by decide) ?_; intro wx hx K hK; replace hF := HZ.rely hF hx; clear hx; go_simp; refine hK _ _ ⟨?_, ?_⟩; (· (rw [listed_nil (by simp [go_sem])]; exact (termsZ A).idle _)); clear hK K; try walk_nrm)
    refine Goes.stillZ (termsZ A) rfl (fun _ => stepG_unwanted rfl rfl) ?_
    walk_nrm
    refine Goes.stillZ (termsZ A) rfl (fun _ => stepG_unwanted rfl rfl) ?_
    walk_nrm
    (refine Goes.operZ rfl (by rfl) (by decide) ?_; intro wx hx K hK; replace hF := HZ.rely hF hx; clear hx; go_simp; refine hK _ _ ⟨?_, ?_⟩; (· (rw [listed_nil (by simp [go_sem])]; exact (termsZ A).idle _)); clear hK K; try walk_nrm)
    refine Goes.stillZ (termsZ A) rfl (fun _ => stepG_region_end) ?_
    refine Goes.stillZ (termsZ A) rfl (fun _ => stepG_cond (t := true) (by simp [Act.eval])) ?_
    simp only [if_true]
    refine Goes.stillZ (termsZ A) rfl (fun _ => stepG_seq) ?_
    (refine Goes.stillZ (termsZ A) rfl (fun _ => stepG_region) ?_; simp only [List.size_toArray, List.length_cons, List.length_nil, Nat.reduceAdd, Nat.zero_add, List.range, List.range.loop])
    (refine Goes.operZ rfl (by rfl) (by decide) ?_; intro wx hx K hK; replace hF := HZ.rely hF hx; clear hx; go_simp; refine hK _ _ ⟨?_, ?_⟩; (· (rw [listed_nil (by simp [go_sem])]; exact (termsZ A).idle _)); clear hK K; try walk_nrm)
    (refine Goes.operZ rfl (by rfl) (by decide) ?_; intro wx hx K hK; replace hF := HZ.rely hF hx; clear hx; go_simp; refine hK _ _ ⟨?_, ?_⟩; (· (rw [listed_nil (by simp [go_sem])]; exact (termsZ A).idle _)); clear hK K; try walk_nrm)
    refine Goes.stillZ (termsZ A) rfl (fun _ => stepG_region_end) ?_
    refine Goes.stillZ (termsZ A) rfl (fun _ => stepG_ret') ?_
    refine Goes.leave2Z (termsZ A) rfl rfl Tryd.func6 rfl ?_
    refine Go.Conc.Goes.stop fun w12 hx => ?_
    exact hK0 _ (HZ.rely hF hx)
  · have hgt : decide (12 < k) = true := decide_eq_true (by omega)
    have hgt2 : decide (k > 12) = true := decide_eq_true (by omega)
    replace hlt : decide (k < 0) = false := decide_eq_false hlt
    (refine Goes.operZ rfl (by rfl) (by decide) ?_; intro wx hx K hK; replace hF := HZ.rely hF hx; clear hx; go_simp; refine hK _ _ ⟨?_, ?_⟩; (· (rw [listed_nil (by simp [go_sem])]; exact (termsZ A).idle _)); clear hK K; try walk_nrm)
    (refine Goes.operZ rfl (by rfl) (by decide) ?_; intro wx hx K hK; replace hF := HZ.rely hF hx; clear hx; go_simp; refine hK _ _ ⟨?_, ?_⟩; (· (rw [listed_nil (by simp [go_sem])]; exact (termsZ A).idle _)); clear hK K; try walk_nrm)
    (refine Goes.operZ rfl (by rfl) (by decide) ?_; intro wx hx K hK; replace hF := HZ.rely hF hx; clear hx; go_simp; refine hK _ _ ⟨?_, ?_⟩; (· (rw [listed_nil (by simp [go_sem])]; exact (termsZ A).idle _)); clear hK K; try walk_nrm)
    (refine Goes.operZ rfl (by rfl) (by decide) ?_; intro wx hx K hK; replace hF := HZ.rely hF hx; clear hx; go_simp; refine hK _ _ ⟨?_, ?_⟩; (· (rw [listed_nil (by simp [go_sem])]; exact (termsZ A).idle _)); clear hK K; try walk_nrm)
    (refine Goes.operZ rfl (by rfl) (by decide) ?_; intro wx hx K hK; replace hF := HZ.rely hF hx; clear hx; go_simp; refine hK _ _ ⟨?_, ?_⟩; (· (rw [listed_nil (by simp [go_sem])]; exact (termsZ A).idle _)); clear hK K; try walk_nrm)
    refine Goes.stillZ (termsZ A) rfl (fun _ => stepG_region_end) ?_
    refine Goes.stillZ (termsZ A) rfl (fun _ => stepG_cond (t := true) (by simp [Act.eval])) ?_
    simp only [if_true]
    refine Goes.stillZ (termsZ A) rfl (fun _ => stepG_seq) ?_
    (refine Goes.stillZ (termsZ A) rfl (fun _ => stepG_region) ?_; simp only [List.size_toArray, List.length_cons, List.length_nil, Nat.reduceAdd, Nat.zero_add, List.range, List.range.loop])
    (refine Goes.operZ rfl (by rfl) (by decide) ?_; intro wx hx K hK; replace hF := HZ.rely hF hx; clear hx; go_simp; refine hK _ _ ⟨?_, ?_⟩; (· (rw [listed_nil (by simp [go_sem])]; exact (termsZ A).idle _)); clear hK K; try walk_nrm)
    (refine Goes.operZ rfl (by rfl) (by decide) ?_; intro wx hx K hK; replace hF := HZ.rely hF hx; clear hx; go_simp; refine hK _ _ ⟨?_, ?_⟩; (· (rw [listed_nil (by simp [go_sem])]; exact (termsZ A).idle _)); clear hK K; try walk_nrm)
    refine Goes.stillZ (termsZ A) rfl (fun _ => stepG_region_end) ?_
    refine Goes.stillZ (termsZ A) rfl (fun _ => stepG_ret') ?_
    refine Goes.leave2Z (termsZ A) rfl rfl Tryd.func6 rfl ?_
    refine Go.Conc.Goes.stop fun w12 hx => ?_
    exact hK0 _ (HZ.rely hF hx)
end
section
variable {B0 i : Nat} {k : Int} {b : Frame} {a : Act} {ops : Array Oper} {rest : List Nat} {kk : List Item} {cs : List Frame} {Post : Value → World → Prop}
/-- from StrokeMany's entry to the end of the run -/
theorem countRun (hI : ∀ N w₀, WaitInS Tryd.prog lnk (N + 3) (RN N) (FL N w₀)) (hO : ∀ N w₀, WaitOnS Tryd.prog lnk (N + 3) (RN N) (FL N w₀)) (hk : 0 ≤ k ∧ k ≤ 12) (w0 : World) (hD : DKB B0 w0) (hB : B0 ≤ w0.heap.size) {t0 : Trace} (ht : Alone0 w0.heap.size t0)
    (hK : ∀ N, w0.heap.size ≤ N → ∃ m, ∀ w, N + 4 ≤ w.heap.size → Below w0.heap.size w0 w → FinG Tryd.prog (N + 3) Post m (G (b.at (a.put ((ops[i]?).bind (·.dst)) (.tuple #[.int .i64 (mny k.toNat 10000 : Nat), .bool true])) (.inRegion ops rest :: kk)) cs) w) :
    ∃ M last o w' t', runNT Tryd.prog (M + 1) (solo (G ((base 6).at ⟨#[.int .i64 k] ++ Array.replicate 11 undef, []⟩ [.code smB]) (b.at a (.inRegion ops (i :: rest) :: kk) :: cs)) w0) t0 = (.ended o w', t') ∧
      runN Tryd.prog M (solo (G ((base 6).at ⟨#[.int .i64 k] ++ Array.replicate 11 undef, []⟩ [.code smB]) (b.at a (.inRegion ops (i :: rest) :: kk) :: cs)) w0) = .next last ∧ step Tryd.prog last = .ended o w' ∧ Go.Conc.Good Tryd.prog Post last o w' t' := by
  obtain ⟨K, rfl⟩ := Int.eq_ofNat_of_zero_le hk.1
  obtain ⟨k1, a1, w1, t1, r1, ⟨N, rfl, hQ⟩, hb1, hal⟩ := solo_z t0 (smIn (A := w0.heap.size) (cs := b.at a (.inRegion ops (i :: rest) :: kk) :: cs) hk w0 (Nat.le_refl _)) ht
  obtain ⟨k2, a2, w2, r2, ⟨v5, v10, v11, v12, v13, v14, rfl, hQ2⟩, hb2⟩ := solo_n (hdC w1 hQ)
  have hb : Below w0.heap.size w0 w2 := hb1.trans hb2
  have hAN : w0.heap.size ≤ N := hQ.1
  obtain ⟨m, hK⟩ := hK N hAN
  have hz1 : w1.heap.size = N + 3 := hQ.2.1
  have hz2 : w2.heap.size = N + 4 := hQ2.2.1
  have g0 : w2.heap[N]? = some (.cells #[.int .i64 (K : Int)] 3) := hQ2.2.2 0 _ rfl
  have g2 : w2.heap[N + 2]? = some (.cells #[.chan (some (N + 1))] 35) := hQ2.2.2 2 _ rfl
  have h0 : W0 B0 N (K : Int) w2 :=
    ⟨hD.step (hb.mono hB), by omega, hz2, by simp [World.cell?, g0], by simp [World.cell?, g2]⟩
  have hsum : mny K 10000 = sumTo 10 (valN (K : Int)) := (sum_mny K 10 (by omega)).symm
  have hle := mny_le K 10000
  have hseen : Seen (N + 3) t1 := hz1 ▸ hal.seen
  obtain ⟨M, last, o, w', t', e1, e2, e3, e4⟩ := countN (B0 := B0) (N := N) (x := (K : Int)) (w₀ := w2) (m := m + 10) (T := mny K 10000) (Post := Post) (b₀ := base 6) (a₀ := smA K undef) (ops₀ := opsOf sm3) (i₀ := 1) (rest₀ := [2, 3]) (k₀ := [.code sm4]) (cs' := b.at a (.inRegion ops (i :: rest) :: kk) :: cs)
    (hI N w2) (hO N w2) h0 hsum (by omega) (hQ2.2.2 3 _ rfl) (hQ2.2.2 1 _ rfl) hal.g hseen (fun op hop => hal.mute op hop _) (hal.deaf 0)
    (fun w hF => by
      rw [putS]
      refine smEnd (n := m) (hK w hF.size ⟨hF.os.trans hb.os, hF.tape.trans hb.tape, hF.output.trans hb.output, ?_, fun b hbb => (hF.low b (by omega) (by omega) (by omega)).trans (hb.block b hbb)⟩)
      have h1 := hF.size
      have h2 := hb.size
      omega) v5 v10 v11 v12 v13 v14
  obtain ⟨q1, q2⟩ := run_then (r2 t1) e1 e2
  obtain ⟨q3, q4⟩ := run_then r1 q1 q2
  exact ⟨_, last, o, w', t', q3, q4, e3, e4⟩
/-- an end without others, some steps done -/
theorem fin_alone {P : Program} {B n : Nat} {g : Goroutine} {w : World} {t : Trace} (ht : Alone0 B t) (h : FinG P B Post n g w) :
    ∃ M last o w' t', runNT P (M + 1) (solo g w) t = (.ended o w', t') ∧ runN P M (solo g w) = .next last ∧ step P last = .ended o w' ∧ Go.Conc.Good P Post last o w' t' := by
  refine p_ends (gs := #[g]) (sl := none) (q := fun _ => 0) (by simp) ⟨fun i g hi hg => ?_, fun j _ => ht.deaf j⟩ (past_alone ht fun op hop x hx hs => ?_) h
  · have := (Array.getElem?_eq_some_iff.1 hg).1
    simp at this
    omega
  · obtain ⟨ad, e1, e2⟩ := hs
    have := ht.seen op hop x hx ad e1
    omega
end
end Go.Proofs.YtmphfdibijbjeaaDoor
