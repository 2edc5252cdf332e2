/- FnExactStrokeMany: from the law's entry into countNumbers' loop, alone. -/
import Derived.Test.YtmphfdibijbjeaaDoorGD
namespace Go.Proofs.YtmphfdibijbjeaaDoor
open Go.Conc Go.ConcN Go.RowKit
open Go.ConcR (wgBlock WgAt)
set_option linter.unusedSimpArgs false
set_option linter.unusedVariables false
set_option maxRecDepth 100000
/-- the heap ends so -/
def Tail (A N : Nat) (l : List Obj) (w : World) : Prop := A ≤ N ∧ w.heap.size = N + l.length ∧ ∀ i o, l[i]? = some o → w.heap[N + i]? = some o
section
variable {A N : Nat} {w w₁ : World} {l : List Obj}
theorem Tail.rely (h : Tail A N l w) (r : AtRel w w₁) : Tail A N l w₁ := by
  obtain ⟨d, rfl⟩ := r
  exact h
theorem tail_new (h : HZ A w) : Tail A w.heap.size [] w := ⟨h, by simp, fun i o hi => by simp at hi⟩
theorem Tail.alloc (h : Tail A N l w) (o : Obj) : Tail A N (l ++ [o]) (w.alloc o) := by
  obtain ⟨h1, h2, h3⟩ := h
  refine ⟨h1, by simp [h2]; omega, fun i p hi => ?_⟩
  by_cases hl : i < l.length
  · rw [List.getElem?_append_left hl] at hi
    rw [Below.heap_alloc w o _ (by omega)]
    exact h3 i p hi
  · rw [List.getElem?_append_right (by omega)] at hi
    have : i - l.length = 0 := by
      rcases Nat.eq_zero_or_pos (i - l.length) with h | h
      · exact h
      · rw [List.getElem?_eq_none (by simp; omega)] at hi; cases hi
    rw [this] at hi
    simp only [List.getElem?_cons_zero, Option.some.injEq] at hi
    subst hi
    rw [show N + i = w.heap.size by omega]
    exact heap_alloc_new w _
theorem dz_alloc (h : A ≤ w.heap.size) (o : Obj) : DSz A w (w.alloc o) #[] := ⟨by simp, rfl, rfl, rfl, fun b hb => Below.heap_alloc w o b (by omega), fun e he => by simp at he⟩
theorem Tail.ge (h : Tail A N l w) : A ≤ w.heap.size := by have := h.1; have := h.2.1; omega
end
theorem mkc : (Tryd.prog.info? 3).map (·.bytes) = some 8 := by kernel_rfl
theorem mkChanR (w : World) : (Instr.makeChan 35 (.int .i64 10)).run Tryd.prog w = .ok (.chan (some w.heap.size)) (w.alloc (.chan 10 #[] false 0 0 false)) := by
  obtain ⟨i, hi, hb⟩ := Option.map_eq_some_iff.1 mkc
  exact run_makeChan (P := Tryd.prog) (w := w) Tryd.underlying35 hi .i64 10 (by omega) (by rw [hb]; omega)
theorem mkChanE (w : World) (es : Array Event) : (Instr.makeChan 35 (.int .i64 10)).events Tryd.prog w es = es := by
  obtain ⟨i, hi, hb⟩ := Option.map_eq_some_iff.1 mkc
  exact events_makeChan (P := Tryd.prog) (w := w) Tryd.underlying35 hi .i64 10 (by omega) (by rw [hb]; omega) es
section
variable {A : Nat} {k T : Int}
noncomputable def smF (k : Int) : Frame := (base 6).at (smA k undef) (.inRegion (opsOf sm3) [1, 2, 3] :: [.code sm4])
/-- countNumbers ahead of its group -/
noncomputable def preN (N : Nat) (k : Int) (cs : List Frame) : Goroutine :=
  G ((base 10).at ⟨#[.int .i64 k, .pointer (some ⟨N, 0, none⟩), .int .i64 0, .pointer (some ⟨N + 2, 0, none⟩), undef, undef, undef, undef, .chan (some (N + 1)), undef, undef, undef, undef, undef, undef, undef, undef, undef, undef, undef, undef, undef, undef, undef, undef], []⟩ [.code (sR (sR bodyN))]) cs
def AtPre (A : Nat) (k T : Int) (g : Goroutine) (w : World) : Prop :=
  ∃ N, g = preN N k (smF k :: [lwF k T true]) ∧ Tail A N [.cells #[.int .i64 k] 3, .chan 10 #[] false 0 0 false, .cells #[.chan (some (N + 1))] 35] w
/-- countNumbers' loop is reached -/
def AtHd (A : Nat) (k T : Int) (N : Nat) (g : Goroutine) (w : World) : Prop :=
  ∃ v5 v10 v11 v12 v13 v14, g = hdN N k 0 v5 v10 v11 v12 v13 v14 (smF k :: [lwF k T true]) ∧
    Tail A N [.cells #[.int .i64 k] 3, .chan 10 #[] false 0 0 false, .cells #[.chan (some (N + 1))] 35, wgBlock lnk.tWg 0 0] w
set_option maxHeartbeats 8000000 in
theorem walkIn (hk : 0 ≤ k ∧ k ≤ 12) (hT : smR k = .tuple #[.int .i64 T, .bool true]) : ∃ n, ∀ W, HZ A W →
    Goes Tryd.prog true AtRel (DSz A) (AtPre A k T) n (G ((base 4).at ⟨#[.int .i64 k] ++ Array.replicate 24 undef, []⟩ [.code lawB]) []) W := by
  obtain ⟨Ns, hS⟩ := sStrokeManyC (main := true) (A := A) k
  rw [hT] at hS
  have hlt : decide (k < 0) = false := decide_eq_false (by omega)
  have hgt : decide (12 < k) = false := decide_eq_false (by omega)
  have hgt2 : decide (k > 12) = false := decide_eq_false (by omega)
  clear hT hk
  refine ⟨Ns + 200, fun W hF => ?_⟩
  generalize hK0 : AtPre A k T = K0
  simp only [lawB, Tryd.f4, Option.getD_some, Array.replicate_succ, Array.replicate_zero, List.push_toArray, List.append_toArray, List.nil_append, List.cons_append]
  refine Goes.stillZ (termsZ A) rfl (fun _ => stepG_seq) ?_
  (refine Goes.stillZ (termsZ A) rfl (fun _ => stepG_region) ?_; simp only [List.size_toArray, List.length_cons, List.length_nil, Nat.reduceAdd, Nat.zero_add, List.range, List.range.loop])
  (refine Goes.operZ rfl (by rfl) (by decide) ?_; intro wx hx K hK; replace hF := HZ.rely hF hx; clear hx; go_simp; refine hK _ _ ⟨?_, ?_⟩; (· (rw [listed_nil (by simp [go_sem])]; exact (termsZ A).idle _)); clear hK K; try walk_nrm)
  refine Goes.stillZ (termsZ A) rfl (fun _ => stepG_region_end) ?_
  refine Goes.stillZ (termsZ A) rfl (fun _ => stepG_seq) ?_
  (refine Goes.stillZ (termsZ A) rfl (fun _ => stepG_region) ?_; simp only [List.size_toArray, List.length_cons, List.length_nil, Nat.reduceAdd, Nat.zero_add, List.range, List.range.loop])
  (refine Goes.operZ rfl (by rfl) (by decide) ?_; intro wx hx K hK; replace hF := HZ.rely hF hx; clear hx; go_simp; refine hK _ _ ⟨?_, ?_⟩; (· (rw [listed_nil (by simp [go_sem])]; exact (termsZ A).idle _)); clear hK K; try walk_nrm)
  refine Go.Conc.Goes.mono (n := 180 + Ns + 3) ?_ (by omega)
  refine Goes.call (termsZ A) rfl (by rfl) (by decide) rfl (by simpa [go_sem] using hS _ hF) ?_
  rintro _ w1 ⟨rfl, hF⟩
  walk_nrm
  (refine Goes.operZ rfl (by rfl) (by decide) ?_; intro wx hx K hK; replace hF := HZ.rely hF hx; clear hx; go_simp; refine hK _ _ ⟨?_, ?_⟩; (· (rw [listed_nil (by simp [go_sem])]; exact (termsZ A).idle _)); clear hK K; try walk_nrm)
  (refine Goes.operZ rfl (by rfl) (by decide) ?_; intro wx hx K hK; replace hF := HZ.rely hF hx; clear hx; go_simp; refine hK _ _ ⟨?_, ?_⟩; (· (rw [listed_nil (by simp [go_sem])]; exact (termsZ A).idle _)); clear hK K; try walk_nrm)
  (refine Goes.operZ rfl (by rfl) (by decide) ?_; intro wx hx K hK; replace hF := HZ.rely hF hx; clear hx; go_simp; refine hK _ _ ⟨?_, ?_⟩; (· (rw [listed_nil (by simp [go_sem])]; exact (termsZ A).idle _)); clear hK K; try walk_nrm)
  (refine Goes.operZ rfl (by rfl) (by decide) ?_; intro wx hx K hK; replace hF := HZ.rely hF hx; clear hx; go_simp; refine hK _ _ ⟨?_, ?_⟩; (· (rw [listed_nil (by simp [go_sem])]; exact (termsZ A).idle _)); clear hK K; try walk_nrm)
  (refine Goes.operZ rfl (by rfl) (by decide) ?_; intro wx hx K hK; replace hF := HZ.rely hF hx; clear hx; go_simp; refine hK _ _ ⟨?_, ?_⟩; (· (rw [listed_nil (by simp [go_sem])]; exact (termsZ A).idle _)); clear hK K; try walk_nrm)
  refine Goes.stillZ (termsZ A) rfl (fun _ => stepG_region_end) ?_
  refine Goes.stillZ (termsZ A) rfl (fun _ => stepG_seq) ?_
  (refine Goes.stillZ (termsZ A) rfl (fun _ => stepG_region) ?_; simp only [List.size_toArray, List.length_cons, List.length_nil, Nat.reduceAdd, Nat.zero_add, List.range, List.range.loop])
  (refine Goes.operZ rfl (by rfl) (by decide) ?_; intro wx hx K hK; replace hF := HZ.rely hF hx; clear hx; go_simp; refine hK _ _ ⟨?_, ?_⟩; (· (rw [listed_nil (by simp [go_sem])]; exact (termsZ A).idle _)); clear hK K; try walk_nrm)
  refine Goes.enterZ (termsZ A) rfl (by rfl) (by decide) rfl Tryd.func6 (by rfl) rfl ?_
  walk_nrmf Tryd.f6
  refine Goes.stillZ (termsZ A) rfl (fun _ => stepG_seq) ?_
  (refine Goes.stillZ (termsZ A) rfl (fun _ => stepG_region) ?_; simp only [List.size_toArray, List.length_cons, List.length_nil, Nat.reduceAdd, Nat.zero_add, List.range, List.range.loop])
  (refine Goes.operZ rfl (by rfl) (by decide) ?_; intro wx hx K hK; replace hF := HZ.rely hF hx; clear hx; go_simp; refine hK _ _ ⟨?_, ?_⟩; (· (rw [listed_nil (by simp [go_sem])]; exact (termsZ A).idle _)); clear hK K; try walk_nrm)
  (refine Goes.operZ rfl (by rfl) (by decide) ?_; intro wx hx K hK; replace hF := HZ.rely hF hx; clear hx; go_simp; refine hK _ _ ⟨?_, ?_⟩; (· (rw [listed_nil (by simp [go_sem])]; exact (termsZ A).idle _)); clear hK K; try walk_nrm)
  refine Goes.stillZ (termsZ A) rfl (fun _ => stepG_region_end) ?_
  refine Goes.stillZ (termsZ A) rfl (fun _ => stepG_seq) ?_
  refine Goes.stillZ (termsZ A) rfl (fun _ => stepG_seq) ?_
  (refine Goes.stillZ (termsZ A) rfl (fun _ => stepG_region) ?_; simp only [List.size_toArray, List.length_cons, List.length_nil, Nat.reduceAdd, Nat.zero_add, List.range, List.range.loop])
  (refine Goes.operZ rfl (by rfl) (by decide) ?_; intro wx hx K hK; replace hF := HZ.rely hF hx; clear hx; go_simp; refine hK _ _ ⟨?_, ?_⟩; (· (rw [listed_nil (by simp [go_sem])]; exact (termsZ A).idle _)); clear hK K; try walk_nrm)
  (refine Goes.operZ rfl (by rfl) (by decide) ?_; intro wx hx K hK; replace hF := HZ.rely hF hx; clear hx; go_simp; refine hK _ _ ⟨?_, ?_⟩; (· (rw [listed_nil (by simp [go_sem])]; exact (termsZ A).idle _)); clear hK K; try walk_nrm)
  (refine Goes.operZ rfl (by rfl) (by decide) ?_; intro wx hx K hK; replace hF := HZ.rely hF hx; clear hx; go_simp; refine hK _ _ ⟨?_, ?_⟩; (· (rw [listed_nil (by simp [go_sem])]; exact (termsZ A).idle _)); clear hK K; try walk_nrm)
  (refine Goes.operZ rfl (by rfl) (by decide) ?_; intro wx hx K hK; replace hF := HZ.rely hF hx; clear hx; go_simp; refine hK _ _ ⟨?_, ?_⟩; (· (rw [listed_nil (by simp [go_sem])]; exact (termsZ A).idle _)); clear hK K; try walk_nrm)
  (refine Goes.operZ rfl (by rfl) (by decide) ?_; intro wx hx K hK; replace hF := HZ.rely hF hx; clear hx; go_simp; refine hK _ _ ⟨?_, ?_⟩; (· (rw [listed_nil (by simp [go_sem])]; exact (termsZ A).idle _)); clear hK K; try walk_nrm)
  (refine Goes.operZ rfl (by rfl) (by decide) ?_; intro wx hx K hK; replace hF := HZ.rely hF hx; clear hx; go_simp; refine hK _ _ ⟨?_, ?_⟩; (· (rw [listed_nil (by simp [go_sem])]; exact (termsZ A).idle _)); clear hK K; try walk_nrm)
  refine Goes.stillZ (termsZ A) rfl (fun _ => stepG_region_end) ?_
  refine Goes.stillZ (termsZ A) rfl (fun _ => stepG_cond (t := false) (by simp [Act.eval])) ?_
  simp only [if_false, Bool.false_eq_true]
  refine Goes.stillZ (termsZ A) rfl (fun _ => stepG_skip) ?_
  refine Goes.stillZ (termsZ A) rfl (fun _ => stepG_seq) ?_
  (refine Goes.stillZ (termsZ A) rfl (fun _ => stepG_region) ?_; simp only [List.size_toArray, List.length_cons, List.length_nil, Nat.reduceAdd, Nat.zero_add, List.range, List.range.loop])
  (refine Goes.operZ rfl (by rfl) (by decide) ?_; intro wx hx K hK; replace hF := HZ.rely hF hx; clear hx; go_simp; refine hK _ _ ⟨?_, ?_⟩; (· (rw [listed_nil (by simp [go_sem])]; exact (termsZ A).idle _)); clear hK K; try walk_nrm)
  refine Goes.enterZ (termsZ A) rfl (by rfl) (by decide) rfl Tryd.func10 (by rfl) rfl ?_
  walk_nrmf Tryd.f10
  refine Goes.stillZ (termsZ A) rfl (fun _ => stepG_seq) ?_
  (refine Goes.stillZ (termsZ A) rfl (fun _ => stepG_region) ?_; simp only [List.size_toArray, List.length_cons, List.length_nil, Nat.reduceAdd, Nat.zero_add, List.range, List.range.loop])
  refine Goes.operZ rfl (by rfl) (by decide) ?_
  intro w2 hx K hK
  replace hF := HZ.rely hF hx
  clear hx
  go_simp
  refine hK _ _ ⟨?_, ?_⟩
  · rw [listed_nil (by simp [go_sem])]; exact dz_alloc hF _
  clear hK K
  try walk_nrm
  have hQ := (tail_new hF).alloc (.cells #[.int .i64 k] 3)
  generalize w2.heap.size = N at *
  generalize w2.alloc (.cells #[.int .i64 k] 3) = w3 at *
  clear hF
  simp only [List.nil_append] at hQ
  (refine Goes.operZ rfl (by rfl) (by decide) ?_; intro wx hx K hK; replace hQ := Tail.rely hQ hx; clear hx; go_simp; refine hK _ _ ⟨?_, ?_⟩; (· (rw [listed_nil (by simp [go_sem])]; exact (termsZ A).idle _)); clear hK K; try walk_nrm)
  refine Goes.stillZ (termsZ A) rfl (fun _ => stepG_region_end) ?_
  refine Goes.stillZ (termsZ A) rfl (fun _ => stepG_seq) ?_
  (refine Goes.stillZ (termsZ A) rfl (fun _ => stepG_region) ?_; simp only [List.size_toArray, List.length_cons, List.length_nil, Nat.reduceAdd, Nat.zero_add, List.range, List.range.loop])
  refine Goes.operZ rfl (by rfl) (by decide) ?_
  intro w4 hx K hK
  replace hQ := hQ.rely hx
  clear hx
  have hz := hQ.2.1
  simp only [List.length_cons, List.length_nil, Nat.zero_add] at hz
  have hmr := mkChanR w4
  have hme := mkChanE w4
  go_simp
  try simp only [hz]
  refine hK _ _ ⟨?_, ?_⟩
  · rw [listed_nil (by simp [go_sem, hme])]; exact dz_alloc hQ.ge _
  clear hK K
  try walk_nrm
  clear hmr hme
  replace hQ := hQ.alloc (.chan 10 #[] false 0 0 false)
  generalize w4.alloc (.chan 10 #[] false 0 0 false) = w5 at *
  clear hz
  simp only [List.nil_append, List.cons_append] at hQ
  refine Goes.operZ rfl (by rfl) (by decide) ?_
  intro w6 hx K hK
  replace hQ := hQ.rely hx
  clear hx
  have hz := hQ.2.1
  simp only [List.length_cons, List.length_nil, Nat.zero_add, Nat.reduceAdd] at hz
  go_simp
  try simp only [hz]
  refine hK _ _ ⟨?_, ?_⟩
  · rw [listed_nil (by simp [go_sem])]; exact dz_alloc hQ.ge _
  clear hK K
  try walk_nrm
  replace hQ := hQ.alloc (.cells #[.chan none] 35)
  generalize w6.alloc (.cells #[.chan none] 35) = w7 at *
  clear hz
  simp only [List.nil_append, List.cons_append] at hQ
  refine Goes.operZ rfl (by rfl) (by decide) ?_
  intro w8 hx K hK
  replace hQ := hQ.rely hx
  clear hx
  have hh : w8.heap[N + 2]? = some (.cells #[.chan none] 35) := hQ.2.2 2 _ rfl
  have hc1 : w8.cell? ⟨N + 2, 0, none⟩ = some (.chan none) := by simp [World.cell?, hh]
  have hc2 : w8.frozen? ⟨N + 2, 0, none⟩ = false := by simp [World.frozen?, hh]
  have hz := hQ.2.1
  have hA := hQ.1
  simp only [List.length_cons, List.length_nil, Nat.zero_add, Nat.reduceAdd] at hz
  go_simp
  refine hK _ _ ⟨?_, ?_⟩
  · refine ⟨by simp [World.setCell], rfl, rfl, rfl, fun b hb => ?_, fun e he => ?_⟩
    · have : N + 2 ≠ b := by omega
      simp [World.setCell, Array.getElem?_modify, this]
    · have hm := mem_listed he
      simp [go_sem, storedEv, *] at hm
      subst hm
      refine ⟨_, rfl, ?_, ?_⟩
      · show A ≤ N + 2; omega
      · show N + 2 < _; simp [World.setCell, hz]
  clear hK K
  try walk_nrm
  replace hQ : Tail A N [.cells #[.int .i64 k] 3, .chan 10 #[] false 0 0 false, .cells #[.chan (some (N + 1))] 35] (w8.setCell ⟨N + 2, 0, none⟩ (.chan (some (N + 1)))) := by
    refine ⟨hA, by simp [World.setCell, hz], fun i o hi => ?_⟩
    rcases i with _ | _ | _ | i
    · cases hi
      simpa [World.setCell, Array.getElem?_modify] using hQ.2.2 0 _ rfl
    · cases hi
      simpa [World.setCell, Array.getElem?_modify] using hQ.2.2 1 _ rfl
    · cases hi
      simp [World.setCell, Array.getElem?_modify, hh]
    · cases hi
  generalize w8.setCell ⟨N + 2, 0, none⟩ (.chan (some (N + 1))) = w9 at *
  clear hz hA hc1 hc2 hh
  refine Goes.stillZ (termsZ A) rfl (fun _ => stepG_region_end) ?_
  refine Go.Conc.Goes.stop fun w10 hx => ?_
  replace hQ := hQ.rely hx
  rw [← hK0]
  exact ⟨N, rfl, hQ⟩
structure DNo (A : Nat) (w w' : World) (es : Array Event) : Prop where
  dz : DSz A w w' es
  none : es = #[]
theorem termsN (A : Nat) : Terms AtRel (DNo A) := ⟨(termsZ A).trans, fun w => ⟨(termsZ A).idle w, rfl⟩⟩
set_option maxHeartbeats 8000000 in
theorem walkHd {N : Nat} (W : World) (hQ : Tail A N [.cells #[.int .i64 k] 3, .chan 10 #[] false 0 0 false, .cells #[.chan (some (N + 1))] 35] W) :
    Goes Tryd.prog true AtRel (DNo A) (AtHd A k T N) 20 (preN N k (smF k :: [lwF k T true])) W := by
  generalize hK0 : AtHd A k T N = K0
  simp only [preN, bodyN, sR, Tryd.f10, Option.getD_some]
  refine Goes.stillZ (termsN A) rfl (fun _ => stepG_seq) ?_
  (refine Goes.stillZ (termsN A) rfl (fun _ => stepG_region) ?_; simp only [List.size_toArray, List.length_cons, List.length_nil, Nat.reduceAdd, Nat.zero_add, List.range, List.range.loop])
  refine Goes.operZ rfl (by rfl) (by decide) ?_
  intro w10 hx K hK
  replace hQ := hQ.rely hx
  clear hx
  have hz := hQ.2.1
  simp only [List.length_cons, List.length_nil, Nat.zero_add, Nat.reduceAdd] at hz
  go_simp
  try simp only [hz]
  refine hK _ _ ⟨?_, ?_⟩
  · rw [listed_nil (by simp [go_sem])]; exact ⟨dz_alloc hQ.ge _, rfl⟩
  clear hK K
  try walk_nrm
  replace hQ := hQ.alloc (.cells #[.int .u64 0, .int .u32 0] 45)
  simp only [List.nil_append, List.cons_append] at hQ
  generalize w10.alloc (.cells #[.int .u64 0, .int .u32 0] 45) = w11 at *
  clear hz
  refine Goes.stillZ (termsN A) rfl (fun _ => stepG_region_end) ?_
  refine Goes.stillZ (termsN A) rfl (fun _ => stepG_seq) ?_
  refine Goes.stillZ (termsN A) rfl (fun _ => stepG_seq) ?_
  (refine Goes.stillZ (termsN A) rfl (fun _ => stepG_region) ?_; simp only [List.size_toArray, List.length_cons, List.length_nil, Nat.reduceAdd, Nat.zero_add, List.range, List.range.loop])
  (refine Goes.operZ rfl (by rfl) (by decide) ?_; intro wx hx K hK; replace hQ := Tail.rely hQ hx; clear hx; go_simp; refine hK _ _ ⟨?_, ?_⟩; (· (rw [listed_nil (by simp [go_sem])]; exact (termsN A).idle _)); clear hK K; try walk_nrm)
  refine Goes.stillZ (termsN A) rfl (fun _ => stepG_region_end) ?_
  refine Goes.stillZ (termsN A) rfl (fun _ => stepG_block) ?_
  refine Goes.stillZ (termsN A) rfl (fun _ => stepG_loop) ?_
  refine Go.Conc.Goes.stop fun w12 hx => ?_
  replace hQ := hQ.rely hx
  rw [← hK0]
  exact ⟨_, _, _, _, _, _, rfl, hQ⟩
end
end Go.Proofs.YtmphfdibijbjeaaDoor
