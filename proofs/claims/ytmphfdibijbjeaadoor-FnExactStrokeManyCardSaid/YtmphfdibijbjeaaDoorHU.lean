/- countNumbers: the loop that starts the goroutines. -/
import Derived.Test.YtmphfdibijbjeaaDoorHT
import Derived.Test.YtmphfdibijbjeaaDoorHJ
namespace Go.Proofs.YtmphfdibijbjeaaDoor
open Go.Conc Go.ConcN Go.RowKit Go.Conc.Lib Go.ConcR.Gen Go.ConcN.Gen
open Go.ConcR (KK wgBlock WgAt stA smA rd wr mk Payload Aside2 DC0)
set_option linter.unusedSimpArgs false
set_option linter.unusedVariables false
set_option maxRecDepth 100000
def sL : Code → Code
  | .seq a _ => a
  | c => c
def sR : Code → Code
  | .seq _ b => b
  | c => c
def bIn : Code → Code
  | .block _ c => c
  | c => c
def lIn : Code → Code
  | .loop c => c
  | c => c
noncomputable def bodyN : Code := Tryd.f10.body.getD .skip
noncomputable def rstN : Code := sR (sR (sR (sR bodyN)))
noncomputable def lbN : Code := lIn (bIn (sR (sL (sR (sR (sR bodyN))))))
/-- at the loop's head, i goroutines started -/
noncomputable def hdG (N : Nat) (x : Int) (i : Nat) (v5 v10 v11 v12 v13 v14 : Value) (cs : List Frame) (lb0 lb rst : Code) : Goroutine :=
  G ((base 10).at ⟨#[.int .i64 x, .pointer (some ⟨N, 0, none⟩), .int .i64 0, .pointer (some ⟨N + 2, 0, none⟩), .pointer (some ⟨N + 3, 0, none⟩), v5, undef, undef, .chan (some (N + 1)), .int .i64 (i : Nat), v10, v11, v12, v13, v14, undef, undef, undef, undef, undef, undef, undef, undef, undef, undef], []⟩
    [.code lb0, .inLoop lb, .inBlock 0, .code rst]) cs
noncomputable def hdN (N : Nat) (x : Int) (i : Nat) (v5 v10 v11 v12 v13 v14 : Value) (cs : List Frame) : Goroutine := hdG N x i v5 v10 v11 v12 v13 v14 cs lbN lbN rstN
/-- what is known at the loop's beginning -/
structure W0 (B0 N : Nat) (x : Int) (w₀ : World) : Prop where
  tab : DKB B0 w₀
  le : B0 ≤ N
  size : w₀.heap.size = N + 4
  ck : w₀.cell? ⟨N, 0, none⟩ = some (.int .i64 x)
  cc : w₀.cell? ⟨N + 2, 0, none⟩ = some (.chan (some (N + 1)))
/-- .. and from there on -/
structure FL (N : Nat) (w₀ w : World) : Prop where
  low : ∀ b, b < N + 4 → b ≠ N + 3 → b ≠ N + 1 → w.heap[b]? = w₀.heap[b]?
  os : w.os = w₀.os
  tape : w.tape = w₀.tape
  output : w.output = w₀.output
  size : N + 4 ≤ w.heap.size
abbrev FLv (N : Nat) (w₀ w : World) : Prop := FL N w₀ w ∧ WgLive lnk.tWg (N + 3) w
section
variable {N : Nat} {w₀ w w₁ : World} {S : Bag}
theorem FLv.rely (h : FLv N w₀ w) (r : RSt lnk.tWg (N + 3) (N + 1) (N + 4) S w w₁) : FLv N w₀ w₁ :=
  ⟨⟨fun b h1 h2 h3 => (r.rh.low b h1 (by rintro (e | e); exact h2 e; exact h3 e)).trans (h.1.low b h1 h2 h3), r.os.trans h.1.os, r.tape.trans h.1.tape, r.output.trans h.1.output, Nat.le_trans h.1.size r.rh.size⟩, r.rh.live h.2⟩
/-- the box of the round's digit is made -/
def Bx (N nb : Nat) (v : Value) (w₀ w : World) : Prop := FL N w₀ w ∧ N + 4 ≤ nb ∧ w.heap[nb]? = some (.cells #[v] 3)
abbrev Bxv (N nb : Nat) (v : Value) (w₀ w : World) : Prop := Bx N nb v w₀ w ∧ WgLive lnk.tWg (N + 3) w
theorem Bxv.rely {nb : Nat} {v : Value} (hS : S nb) (h : Bxv N nb v w₀ w) (r : RSt lnk.tWg (N + 3) (N + 1) (N + 4) S w w₁) : Bxv N nb v w₀ w₁ :=
  ⟨⟨(FLv.rely ⟨h.1.1, h.2⟩ r).1, h.1.2.1, (r.rh.own nb hS).trans h.1.2.2⟩, r.rh.live h.2⟩
theorem Bx.cell {nb : Nat} {v : Value} (h : Bx N nb v w₀ w) : w.cell? ⟨nb, 0, none⟩ = some v := by simp [World.cell?, h.2.2]
theorem Bx.thaw {nb : Nat} {v : Value} (h : Bx N nb v w₀ w) : w.frozen? ⟨nb, 0, none⟩ = false := by simp [World.frozen?, h.2.2]
theorem FL.set (h : FL N w₀ w) (a : Addr) (v : Value) (ha : N + 4 ≤ a.block ∨ a.block = N + 3 ∨ a.block = N + 1) : FL N w₀ (w.setCell a v) :=
  ⟨fun b h1 h2 h3 => by
    have : a.block ≠ b := by omega
    rw [← h.low b h1 h2 h3]
    simp [World.setCell, Array.getElem?_modify, this], h.os, h.tape, h.output, by have := h.size; simp [World.setCell]; omega⟩
theorem Bx.setG {nb : Nat} {v : Value} (h : Bx N nb v w₀ w) (a : Addr) (u : Value) (ha : a.block = N + 3) : Bx N nb v w₀ (w.setCell a u) := by
  have hge := h.2.1
  have hne : a.block ≠ nb := by omega
  exact ⟨h.1.set _ _ (.inr (.inl ha)), hge, by simp [World.setCell, Array.getElem?_modify, hne, h.2.2]⟩
theorem FL.alloc (h : FL N w₀ w) (o : Obj) : FL N w₀ (w.alloc o) :=
  ⟨fun b h1 h2 h3 => (Below.heap_alloc w o b (by have := h.size; omega)).trans (h.low b h1 h2 h3), h.os, h.tape, h.output, by have := h.size; simp; omega⟩
theorem live_other {w' : World} (h : WgLive lnk.tWg (N + 3) w) (e : w'.heap[N + 3]? = w.heap[N + 3]?) : WgLive lnk.tWg (N + 3) w' := let ⟨st, sm, hw⟩ := h; ⟨st, sm, hw.of_block e⟩
theorem dst_nil {Wg Ch Low0 : Nat} : DSt Wg Ch Low0 S w w #[] := ⟨Eff.refl _ _, fun e he => by simp at he⟩
theorem dst_alloc {Wg Ch Low0 : Nat} (o : Obj) : DSt Wg Ch Low0 S w (w.alloc o) #[] := ⟨⟨by simp, rfl, rfl, rfl, fun b hb _ => Below.heap_alloc w o b hb⟩, fun e he => by simp at he⟩
theorem DKB.low {B0 : Nat} (h : DKB B0 w) (hz : w.heap.size ≤ w₁.heap.size) (e : ∀ b, b < B0 → w₁.heap[b]? = w.heap[b]?) : DKB B0 w₁ :=
  h.relyT (Low := B0) (Shr := fun _ => False) (Lv := NoLv) (S := fun _ => False) ⟨Nat.le_refl _, fun _ _ h => h⟩ ⟨hz, fun b hb _ => e b hb, fun _ h => h.elim, fun _ => trivial⟩
end
section
variable {B0 N : Nat} {x : Int} {w₀ : World} {cs : List Frame} {Anch Post : Bag → Goroutine → World → Prop}
/-- what worker i counts -/
abbrev valN (x : Int) (i : Nat) : Nat := cntR x (1000 * i) 1000
abbrev boxN (i : Nat) : Value := .int .i64 (i : Nat)
/-- the child of a go statement -/
theorem childN (h0 : W0 B0 N x w₀) {i nb : Nat} (hi : i < 10) {w : World} (hF : Bx N nb (boxN i) w₀ w) (sh : Nat → Prop) (s3 : ¬ sh nb) (s4 : ∀ b, b < N + 4 → b ≠ N + 3 → b ≠ N + 1 → ¬ sh b) (hnb : nb < w.heap.size) :
    ∃ m, Trek Tryd.prog false (RH w.heap.size sh NoLv) (DH w.heap.size sh) (AtSnd Tryd.prog (N + 1) (.int .i64 (valN x i : Nat)) (NextT Tryd.prog lnk.tWg (N + 3) 26 (boxN i) nb)) m (fun _ => False) (born Tryd.prog (callL (N + 3) (N + 2) nb N)) w := by
  obtain ⟨m, hm⟩ := litSend (B0 := B0) (Low := w.heap.size) (Shr := sh) (Lv := NoLv)
  have hz := hF.1.size
  have hle := h0.le
  have hlow : ∀ b, b < N + 4 → b ≠ N + 3 → b ≠ N + 1 → b < w.heap.size ∧ ¬ sh b := fun b h1 h2 h3 => ⟨by omega, s4 b h1 h2 h3⟩
  have hce : ∀ a : Addr, a.block < N + 4 → a.block ≠ N + 3 → a.block ≠ N + 1 → w.cell? a = w₀.cell? a := fun a h1 h2 h3 => by simp [World.cell?, hF.1.low _ h1 h2 h3]
  refine ⟨m, Trek.imp ?_ (hm (N + 3) (N + 1) (N + 2) nb N i x (fun b => (w.heap[b]?).getD (.cells #[] 0)) (fun _ => False) w hi
    ⟨⟨⟨by omega, fun b hb => s4 b (by omega) (by omega) (by omega)⟩, h0.tab.low (by rw [h0.size]; exact hz) (fun b hb => hF.1.low b (by omega) (by omega) (by omega)), by omega⟩,
     ⟨fun _ h => h.elim, fun b hb _ => by simp [hb]⟩,
     hlow _ (by omega) (by omega) (by omega), ⟨hnb, s3⟩, hlow _ (by omega) (by omega) (by omega), (hce ⟨N + 2, 0, none⟩ (by show N + 2 < _; omega) (by show N + 2 ≠ _; omega) (by show N + 2 ≠ _; omega)).trans h0.cc, hF.cell,
     (hce ⟨N, 0, none⟩ (by show N < _; omega) (by show N ≠ _; omega) (by show N ≠ _; omega)).trans h0.ck⟩)⟩
  rintro S g w ⟨h1, g₂, z, h2, h3, h4⟩
  exact ⟨h1, g₂, z, h2, h4.cd, fun w₂ hl hh => ⟨26, Nat.le_refl _, litTail h3 ⟨hl, hh⟩⟩⟩
set_option maxHeartbeats 8000000 in
theorem roundG (h0 : W0 B0 N x w₀) {lb rst : Code} {i r : Nat} (hi : i < 10) {StopR : Bag → Goroutine → World → Prop} {mR : Nat}
    (hSp : SpT Tryd.prog lnk.tWg (N + 3) (N + 1) 10 (N + 4) 26 (valN x) boxN Anch r = GT Tryd.prog lnk.tWg (N + 3) (N + 1) (N + 4) StopR)
    (IH : ∀ v5 v10 v11 v12 v13 v14 w, FLv N w₀ w → TrS Tryd.prog lnk.tWg (N + 3) (N + 1) (N + 4) StopR mR (fun _ => False) (hdG N x (i + 1) v5 v10 v11 v12 v13 v14 cs lb lb rst) w)
    (v5 v10 v11 v12 v13 v14 : Value) (w : World) (hF : FLv N w₀ w) :
    TrS Tryd.prog lnk.tWg (N + 3) (N + 1) (N + 4) (KdS Tryd.prog lnk.tWg (N + 3) (N + 1) (N + 4) 26 (valN x) boxN i (SpT Tryd.prog lnk.tWg (N + 3) (N + 1) 10 (N + 4) 26 (valN x) boxN Anch r)) 40 (fun _ => False) (hdG N x i v5 v10 v11 v12 v13 v14 cs lbN lb rst) w := by
  have hlt : decide ((i : Int) < 10) = true := decide_eq_true (by omega)
  have hinc : IntKind.i64.wrap ((i : Int) + 1) = ((i + 1 : Nat) : Int) := by rw [IntKind.wrap_i64]; omega
  have hr0 : ∀ {w w₁ : World}, FLv N w₀ w → RSt lnk.tWg (N + 3) (N + 1) (N + 4) (fun _ => False) w w₁ → FLv N w₀ w₁ := fun h r => h.rely r
  simp only [hdG, lbN, lIn, bIn, sR, sL, bodyN, Tryd.f10, Option.getD_some] at IH ⊢
  refine Trek.still fairS rfl (fun _ => stepG_seq) ?_
  (refine Trek.still fairS rfl (fun _ => stepG_region) ?_; simp only [List.size_toArray, List.length_cons, List.length_nil, Nat.reduceAdd, Nat.zero_add, List.range, List.range.loop])
  (refine Trek.look_k rfl (by rfl) (by decide) ?_; intro wx hx K hK; replace hF := hr0 hF hx; clear hx; go_simp; refine hK _ ⟨?_, ?_⟩; (· (rw [listed_nil (by simp [go_sem])]; exact dst_nil)); clear hK K; try walk_nrm)
  refine Trek.still fairS rfl (fun _ => stepG_region_end) ?_
  refine Trek.still fairS rfl (fun _ => stepG_seq) ?_
  refine Trek.still fairS rfl (fun _ => stepG_cond (t := true) (by simp [Act.eval, hlt])) ?_
  simp only [if_true]
  refine Trek.still fairS rfl (fun _ => stepG_skip) ?_
  refine Trek.still fairS rfl (fun _ => stepG_seq) ?_
  refine Trek.still fairS rfl (fun _ => stepG_block) ?_
  refine Trek.still fairS rfl (fun _ => stepG_seq) ?_
  (refine Trek.still fairS rfl (fun _ => stepG_region) ?_; simp only [List.size_toArray, List.length_cons, List.length_nil, Nat.reduceAdd, Nat.zero_add, List.range, List.range.loop])
  (refine Trek.look_k rfl (by rfl) (by decide) ?_; intro wx hx K hK; replace hF := hr0 hF hx; clear hx; go_simp; refine hK _ ⟨?_, ?_⟩; (· (rw [listed_nil (by simp [go_sem])]; exact dst_nil)); clear hK K; try walk_nrm)
  refine Trek.oper_k rfl (by rfl) (by decide) ?_
  intro w1 hx K hK
  replace hF := hr0 hF hx
  clear hx
  go_simp
  refine hK _ _ ⟨?_, ?_⟩
  · rw [listed_nil (by simp [go_sem])]; exact dst_alloc _
  clear hK K
  try walk_nrm
  obtain ⟨nb, hnb⟩ : ∃ nb, nb = w1.heap.size := ⟨_, rfl⟩
  have hbx : Bxv N nb (.int .i64 0) w₀ (w1.alloc (.cells #[.int .i64 0] 3)) := by
    refine ⟨⟨hF.1.alloc _, ?_, ?_⟩, live_other hF.2 (Below.heap_alloc w1 _ _ (by have := hF.1.size; omega))⟩
    · have := hF.1.size; omega
    · rw [hnb]; exact heap_alloc_new w1 _
  have hS : more (fun _ => False) w1 (w1.alloc (.cells #[.int .i64 0] 3)) nb := by rw [hnb]; exact more_alloc _ w1 _
  rw [← hnb]
  generalize more (fun _ => False) w1 (w1.alloc (.cells #[.int .i64 0] 3)) = S1 at *
  generalize w1.alloc (.cells #[.int .i64 0] 3) = w2 at *
  clear hF hnb w1
  have hr1 : ∀ {v : Value} {w w₁ : World}, Bxv N nb v w₀ w → RSt lnk.tWg (N + 3) (N + 1) (N + 4) S1 w w₁ → Bxv N nb v w₀ w₁ := fun h r => Bxv.rely hS h r
  refine Trek.oper_k rfl (by rfl) (by decide) ?_
  intro w3 hx K hK
  replace hbx := hr1 hbx hx
  clear hx
  have hc1 := hbx.1.cell
  have hc2 := hbx.1.thaw
  go_simp
  refine hK _ _ ⟨?_, ?_⟩
  · refine ⟨⟨by simp [World.setCell], rfl, rfl, rfl, fun b hb hn => ?_⟩, fun e he => ?_⟩
    · have : nb ≠ b := fun e => hn (e ▸ hS)
      simp [World.setCell, Array.getElem?_modify, this]
    · have hm := mem_listed he
      simp [go_sem, storedEv, *] at hm
      subst hm
      exact .inl (.inl ⟨_, rfl, .inl hS⟩)
  clear hK K
  try walk_nrm
  have hb4 : Bxv N nb (boxN i) w₀ (w3.setCell ⟨nb, 0, none⟩ (.int .i64 (i : Nat))) := by
    have hge := hbx.1.2.1
    refine ⟨⟨hbx.1.1.set _ _ (.inl hge), hge, ?_⟩, live_other hbx.2 ?_⟩
    · simp [World.setCell, Array.getElem?_modify, hbx.1.2.2]
    · have : nb ≠ N + 3 := by omega
      simp [World.setCell, Array.getElem?_modify, this]
  rw [more_same (by simp [World.setCell])]
  generalize w3.setCell ⟨nb, 0, none⟩ (.int .i64 (i : Nat)) = w4 at *
  clear hbx hc1 hc2 w3
  refine Trek.still fairS rfl (fun _ => stepG_region_end) ?_
  refine Trek.still fairS rfl (fun _ => stepG_seq) ?_
  (refine Trek.still fairS rfl (fun _ => stepG_region) ?_; simp only [List.size_toArray, List.length_cons, List.length_nil, Nat.reduceAdd, Nat.zero_add, List.range, List.range.loop])
  refine Trek.mono (n := 13) ?_ (by omega)
  refine callAdd (F := Bx N nb (boxN i) w₀) (mT := 8) wgLib (fun h r => hr1 h r)
    (fun w v h => h.setG _ _ rfl) rfl (by rfl) (by decide) rfl (by simp [go_sem]) ?_ w4 hb4
  intro w6 hb6
  walk_nrm
  (u_in hr1 hb6; rw [stepG_region_end]; simp only [goes_go]; refine ⟨dg_nil, ?_⟩)
  (u_in hr1 hb6; rw [stepG_region]; simp only [goes_go, List.size_toArray, List.length_cons, List.length_nil, Nat.reduceAdd, Nat.zero_add, List.range, List.range.loop]; refine ⟨dg_nil, ?_⟩)
  (u_in hr1 hb6; refine goes_oper_k rfl rfl (by k_ne) (fun K hK => ?_); go_simp; refine hK _ _ ⟨?_, ?_⟩; (· (refine dg_none ?_; intro e he; have hm := mem_listed he; simp [go_sem, *] at hm)); clear hK K; try w_num)
  refine Goes.stop (fun w7 hx => ?_)
  replace hb6 := hr1 hb6 hx
  clear hx
  refine ⟨rfl, _, _, nb, spawn_step (d := callL (N + 3) (N + 2) nb N) rfl (by rfl) (by decide) ?_ rfl ?_, hS, fun sh s1 s2 s3 s4 => childN h0 hi hb6.1 sh s3 s4 ?_, ?_⟩
  · simp [go_sem, callL, Deferred.ofValue]
  · rw [listed_nil (by simp [go_sem, Deferred.ofValue])]
  · exact (Array.getElem?_eq_some_iff.1 hb6.1.2.2).1
  have hF : FLv N w₀ w7 := ⟨hb6.1.1, hb6.2⟩
  rw [hSp]
  refine ⟨mR + 12, ?_⟩
  walk_nrm
  refine Trek.still fairS rfl (fun _ => stepG_region_end) ?_
  refine Trek.still fairS rfl (fun _ => stepG_inBlock) ?_
  (refine Trek.still fairS rfl (fun _ => stepG_region) ?_; simp only [List.size_toArray, List.length_cons, List.length_nil, Nat.reduceAdd, Nat.zero_add, List.range, List.range.loop])
  (refine Trek.look_k rfl (by rfl) (by decide) ?_; intro wx hx K hK; replace hF := hr0 hF hx; clear hx; go_simp; refine hK _ ⟨?_, ?_⟩; (· (rw [listed_nil (by simp [go_sem])]; exact dst_nil)); clear hK K; try walk_nrm)
  (refine Trek.look_k rfl (by rfl) (by decide) ?_; intro wx hx K hK; replace hF := hr0 hF hx; clear hx; go_simp; refine hK _ ⟨?_, ?_⟩; (· (rw [listed_nil (by simp [go_sem])]; exact dst_nil)); clear hK K; try walk_nrm)
  refine Trek.still fairS rfl (fun _ => stepG_region_end) ?_
  refine Trek.still fairS rfl (fun _ => stepG_inLoop) ?_
  exact (IH _ _ _ _ _ _ _ hF).mono (by omega)
end
end Go.Proofs.YtmphfdibijbjeaaDoor
