/- The machine that reads ranked texts, as it lies in the program's memory: link, letEnd. -/
import Derived.Test.YtagipmfkmikagaaDoorUN
import Derived.Test.YtagipmfkmikagaaDoorVS
import Derived.Deep.AppendLies
import Derived.OwnWalk
namespace Go.Proofs.YtagipmfkmikagaaDoor
open Go.RowKit
set_option linter.unusedVariables false
set_option maxRecDepth 100000
def ptr (b : Nat) : Value := .pointer (some ⟨b, 0, none⟩)
/-- the cells of links: signs, state -/
def tCells (ts : List (Lk × Nat)) : List Value := ts.flatMap fun t => [.string ⟨t.1.1.toArray⟩, ptr t.2]
theorem tCells_len (ts : List (Lk × Nat)) : (tCells ts).length = ts.length * 2 := by
  induction ts with
  | nil => rfl
  | cons t ts ih =>
    show (_ :: _ :: tCells ts).length = _
    simp only [List.length_cons, ih]; omega
theorem tCells_append (ts : List (Lk × Nat)) (t : Lk × Nat) : tCells (ts ++ [t]) = tCells ts ++ [.string ⟨t.1.1.toArray⟩, ptr t.2] := by
  unfold tCells
  rw [List.flatMap_append]
  rfl
theorem tCells_at (ts : List (Lk × Nat)) (i : Nat) (h : i < ts.length) : (tCells ts)[i * 2]? = some (.string ⟨ts[i].1.1.toArray⟩) ∧ (tCells ts)[i * 2 + 1]? = some (ptr ts[i].2) := by
  induction ts generalizing i with
  | nil => simp at h
  | cons t ts ih =>
    have e : tCells (t :: ts) = .string ⟨t.1.1.toArray⟩ :: ptr t.2 :: tCells ts := rfl
    cases i with
    | zero => exact ⟨rfl, rfl⟩
    | succ i =>
      obtain ⟨h1, h2⟩ := ih i (by simpa using h)
      rw [e, show (i + 1) * 2 = i * 2 + 1 + 1 by omega]
      exact ⟨by simpa using h1, by simpa using h2⟩
/-- a state's block is this state of the machine; what it leads to too; none of these blocks is one of X -/
inductive Rst (w : World) (X : Nat → Prop) : Nat → Q → Prop
  | mk (b : Nat) (q : Q) (v : Value) (ts : List (Lk × Nat)) (h0 : ts.map Prod.fst = lk q) (h1 : w.heap[b]? = some (.cells #[v, .bool (cE q)] 58 (0, 0)))
      (h2 : w.ownsRow 0 72 2 v ts.length (tCells ts)) (h3 : ¬ X b) (h4 : ∀ g, v.ownBlock = some g → ¬ X g) (h5 : ∀ t, t ∈ ts → Rst w X t.2 t.1.2) : Rst w X b q
theorem Rst.keep {w w' : World} {X X' : Nat → Prop} {b : Nat} {q : Q} (h : Rst w X b q) (hg : ∀ k, k < w.heap.size → ¬ X k → w'.heap[k]? = w.heap[k]?) (hX : ∀ k, k < w.heap.size → X' k → X k) : Rst w' X' b q := by
  induction h with
  | mk b q v ts h0 h1 h2 h3 h4 h5 ih =>
    have hb := lt_of_block' h1
    refine .mk b q v ts h0 ((hg b hb h3).trans h1) ⟨h2.1, ?_⟩ (fun h => h3 (hX b hb h)) (fun g hv h => h4 g hv (hX g (h2.lt g hv).2 h)) ih
    rcases h2.2 with hn | ⟨g, cap, cur, rfl, hb', hgg, rest⟩
    · exact .inl hn
    · exact .inr ⟨g, cap, cur, rfl, hb', (hg g (lt_of_block' hgg) (h4 g rfl)).trans hgg, rest⟩
theorem Rst.bel {w w' : World} {X : Nat → Prop} {b : Nat} {q : Q} (h : Rst w X b q) (g : Below w.heap.size w w') : Rst w' X b q := h.keep (fun k hk _ => g.block k hk) (fun _ _ h => h)
theorem Rst.less {w : World} {X X' : Nat → Prop} {b : Nat} {q : Q} (h : Rst w X b q) (hX : ∀ k, k < w.heap.size → X' k → X k) : Rst w X' b q := h.keep (fun _ _ _ => rfl) hX
theorem Rst.lt {w : World} {X : Nat → Prop} {b : Nat} {q : Q} (h : Rst w X b q) : b < w.heap.size := by
  cases h with
  | mk _ _ v ts h0 h1 => exact lt_of_block' h1
/-- the blocks of a state that is being made, and X -/
def Av (b : Nat) (v : Value) (X : Nat → Prop) : Nat → Prop := fun k => k = b ∨ v.ownBlock = some k ∨ X k
/-- a state that is being made -/
structure Opn (B : Nat) (w : World) (X : Nat → Prop) (b : Nat) (v : Value) (e : Bool) (ts : List (Lk × Nat)) : Prop where
  blk : w.heap[b]? = some (.cells #[v, .bool e] 58 (0, 0))
  row : w.ownsRow B 72 2 v ts.length (tCells ts)
  bB : B ≤ b
  out : ¬ X b
  rout : ∀ g, v.ownBlock = some g → ¬ X g
  tos : ∀ t, t ∈ ts → Rst w (Av b v X) t.2 t.1.2
theorem Opn.close {B : Nat} {w : World} {X : Nat → Prop} {b : Nat} {v : Value} {e : Bool} {ts : List (Lk × Nat)} (h : Opn B w X b v e ts) (q : Q) (h0 : ts.map Prod.fst = lk q) (he : e = cE q) : Rst w X b q := by
  refine .mk b q v ts h0 (he ▸ h.blk) ⟨h.row.1, ?_⟩ h.out h.rout (fun t ht => (h.tos t ht).less fun k _ hx => .inr (.inr hx))
  rcases h.row.2 with hn | ⟨g, cap, cur, hv, hb', rest⟩
  · exact .inl hn
  · exact .inr ⟨g, cap, cur, hv, Nat.zero_le _, rest⟩
theorem Opn.below {B : Nat} {w w' : World} {X : Nat → Prop} {b : Nat} {v : Value} {e : Bool} {ts : List (Lk × Nat)} (h : Opn B w X b v e ts) (g : Below w.heap.size w w') : Opn B w' X b v e ts :=
  ⟨(g.block b (lt_of_block' h.blk)).trans h.blk, h.row.kept (row := none) ⟨g.os, g.tape, g.output, g.size, fun k hk _ => g.block k hk⟩ (by cases hv : v.ownBlock <;> simp), h.bB, h.out, h.rout, fun t ht => (h.tos t ht).bel g⟩
/-- a new state -/
theorem Opn.new (B : Nat) (w : World) (X : Nat → Prop) (e : Bool) (hB : B ≤ w.heap.size) (hX : ∀ k, X k → k < w.heap.size) : Opn B (w.alloc (.cells #[.slice none 0 0, .bool e] 58)) X w.heap.size (.slice none 0 0) e [] :=
  ⟨heap_alloc_new w _, World.ownsRow_nil _ _ _ _, hB, fun h => by have := hX _ h; omega, fun g hg => by simp [Value.ownBlock] at hg, fun t ht => by cases ht⟩
/-- what a link changes: the state's block and its row -/
structure Lnk (b : Nat) (v v' : Value) (w w' : World) : Prop where
  os : w'.os = w.os
  tape : w'.tape = w.tape
  output : w'.output = w.output
  size : w.heap.size ≤ w'.heap.size
  block : ∀ k, k < w.heap.size → k ≠ b → v.ownBlock ≠ some k → w'.heap[k]? = w.heap[k]?
  own : ∀ g, v'.ownBlock = some g → v.ownBlock = some g ∨ w.heap.size ≤ g
theorem Lnk.refl (b : Nat) (v : Value) (w : World) : Lnk b v v w w := ⟨rfl, rfl, rfl, Nat.le_refl _, fun _ _ _ _ => rfl, fun _ h => .inl h⟩
theorem Lnk.trans {b : Nat} {v v' v'' : Value} {w w' w'' : World} (h : Lnk b v v' w w') (g : Lnk b v' v'' w' w'') : Lnk b v v'' w w'' :=
  ⟨g.os.trans h.os, g.tape.trans h.tape, g.output.trans h.output, Nat.le_trans h.size g.size,
   fun k hk h1 h2 => (g.block k (Nat.lt_of_lt_of_le hk h.size) h1 (fun e => (h.own k e).elim h2 (fun h' => by omega))).trans (h.block k hk h1 h2),
   fun k hk => (g.own k hk).elim (h.own k) (fun h' => .inr (Nat.le_trans h.size h'))⟩
theorem Lnk.drew (b : Nat) (v : Value) (w : World) : Lnk b v v w w.drew := ⟨rfl, rfl, rfl, Nat.le_refl _, fun _ _ _ _ => rfl, fun _ h => .inl h⟩
/-- a new state's links change nothing that was there -/
theorem Lnk.bel {B b : Nat} {v v' : Value} {a w w' : World} (h : Lnk b v v' w w') (g : Below B a w) (hb : B ≤ b) (hv : ∀ k, v.ownBlock = some k → B ≤ k) (hB : B ≤ w.heap.size) : Below B a w' :=
  ⟨h.os.trans g.os, h.tape.trans g.tape, h.output.trans g.output, Nat.le_trans g.size h.size, fun k hk => (h.block k (by omega) (by omega) (fun e => by have := hv k e; omega)).trans (g.block k hk)⟩
theorem Rst.lnk {w w' : World} {X : Nat → Prop} {b c : Nat} {v v' : Value} {q : Q} (h : Rst w (Av b v X) c q) (l : Lnk b v v' w w') : Rst w' (Av b v' X) c q :=
  h.keep (fun k hk hX => l.block k hk (fun e => hX (.inl e)) (fun e => hX (.inr (.inl e))))
    (fun k hk hX => hX.elim .inl (fun h => h.elim (fun h => (l.own k h).elim (fun h => .inr (.inl h)) (fun h => absurd hk (by omega))) (fun h => .inr (.inr h))))
theorem Opn.mark {B : Nat} {w : World} {X : Nat → Prop} {b : Nat} {v : Value} {e : Bool} {ts : List (Lk × Nat)} (h : Opn B w X b v e ts) (e' : Bool) : Opn B (w.setCell ⟨b, 1, none⟩ (.bool e')) X b v e' ts ∧ Lnk b v v w (w.setCell ⟨b, 1, none⟩ (.bool e')) := by
  have l : Lnk b v v w (w.setCell ⟨b, 1, none⟩ (.bool e')) := ⟨rfl, rfl, rfl, by simp [World.setCell], fun k hk h1 _ => Below.heap_setCell _ _ _ _ h1, fun _ h => .inl h⟩
  refine ⟨⟨?_, ?_, h.bB, h.out, h.rout, fun t ht => (h.tos t ht).lnk l⟩, l⟩
  · rw [heap_setCell_same _ _ _ _ _ _ h.blk]; rfl
  · have hne := own_ne h.row h.blk (by decide)
    exact h.row.kept (row := some b) ⟨rfl, rfl, rfl, by simp [World.setCell], fun k hk h1 => Below.heap_setCell _ _ _ _ (fun e => h1 (by rw [e]))⟩ (.inr hne)
theorem Opn.link {B : Nat} {w w4 : World} {X : Nat → Prop} {b c g cap : Nat} {v : Value} {e : Bool} {ts : List (Lk × Nat)} {t : Lk} (h : Opn B w X b v e ts) (hc : Rst w (Av b v X) c t.2) (o : Obj) (hX : ∀ k, X k → k < w.heap.size)
    (ho : w4.ownsRow B 72 2 (.slice (some ⟨g, 0, none⟩) (ts.length + 1) cap) (ts.length + 1) (tCells ts ++ [.string ⟨t.1.toArray⟩, ptr c])) (hg : (w.alloc o).grownBy w4 v.ownBlock) (hor : v.ownBlock = some g ∨ g = (w.alloc o).heap.size) :
    w4.cell? ⟨b, 0, none⟩ = some v ∧ w4.frozen? ⟨b, 0, none⟩ = false ∧ Opn B (w4.setCell ⟨b, 0, none⟩ (.slice (some ⟨g, 0, none⟩) (ts.length + 1) cap)) X b (.slice (some ⟨g, 0, none⟩) (ts.length + 1) cap) e (ts ++ [(t, c)]) ∧
      Lnk b v (.slice (some ⟨g, 0, none⟩) (ts.length + 1) cap) w (w4.setCell ⟨b, 0, none⟩ (.slice (some ⟨g, 0, none⟩) (ts.length + 1) cap)) := by
  have hne := own_ne h.row h.blk (by decide)
  have hb := lt_of_block' h.blk
  have h4 : w4.heap[b]? = some (.cells #[v, .bool e] 58 (0, 0)) := (hg.block b (by simp; omega) (fun e => hne e.symm)).trans ((Below.heap_alloc _ _ _ hb).trans h.blk)
  have hs := hg.size
  rw [World.size_alloc] at hs
  have l : Lnk b v (.slice (some ⟨g, 0, none⟩) (ts.length + 1) cap) w (w4.setCell ⟨b, 0, none⟩ (.slice (some ⟨g, 0, none⟩) (ts.length + 1) cap)) :=
    ⟨hg.os, hg.tape, hg.output, by simp [World.setCell]; omega, fun k hk h1 h2 => (Below.heap_setCell _ _ _ _ h1).trans ((hg.block k (by simp; omega) (fun e => h2 e.symm)).trans (Below.heap_alloc _ _ _ hk)), fun k hk => by
      obtain rfl : g = k := by simpa [Value.ownBlock] using hk
      rcases hor with h' | h'
      · exact .inl h'
      · right; rw [h', World.size_alloc]; omega⟩
  have hne4 := own_ne ho h4 (by decide)
  refine ⟨cell_at h4 rfl, by simp [World.frozen?, h4], ⟨?_, ?_, h.bB, h.out, fun k hk => ?_, fun u hu => ?_⟩, l⟩
  · rw [heap_setCell_same _ _ _ _ _ _ h4]; rfl
  · rw [tCells_append, List.length_append]
    exact ho.kept (row := some b) ⟨rfl, rfl, rfl, by simp [World.setCell], fun k hk h1 => Below.heap_setCell _ _ _ _ (fun e => h1 (by rw [e]))⟩ (.inr hne4)
  · obtain rfl : g = k := by simpa [Value.ownBlock] using hk
    rcases hor with h' | h'
    · exact h.rout g h'
    · intro hx
      have := hX g hx
      rw [h', World.size_alloc] at this
      omega
  · rcases List.mem_append.1 hu with hu | hu
    · exact (h.tos u hu).lnk l
    · obtain rfl : u = (t, c) := by simpa using hu
      exact hc.lnk l
theorem info_rl : (Tryd.prog.info? 72).map (fun i => (i.zero, i.size, i.bytes)) = some (some (.agg #[.string ⟨#[]⟩, .pointer none]), 2, 24) := by kernel_rfl
theorem lk_news (w : World) (s : ByteArray) (p : Value) : ∀ j u, ([.string s, p] : List Value)[j]? = some u → (w.alloc (.cells #[.string s, p] 72)).cell? ((⟨w.heap.size, 0, none⟩ : Addr).add j) = some u := fun j u h => by
  match j, h with
  | 0, h => simp at h; subst h; exact cell_at (heap_alloc_new _ _) (by rfl)
  | 1, h => simp at h; subst h; exact cell_at (heap_alloc_new _ _) (by rfl)
  | j + 2, h => simp at h
theorem lk_one (s : ByteArray) (b : Nat) : ∀ u ∈ ([.string s, ptr b] : List Value), u.oneCell' = true := by
  intro u hu
  simp only [List.mem_cons, List.not_mem_nil, or_false] at hu
  rcases hu with rfl | rfl <;> rfl
set_option maxHeartbeats 1000000 in
theorem link_any (B b c : Nat) (v : Value) (e : Bool) (ts : List (Lk × Nat)) (X : Nat → Prop) (t : Lk) (w : World) (h : Opn B w X b v e ts) (hc : Rst w (Av b v X) c t.2) (hl : ts.length ≤ 8) (hB : B ≤ w.heap.size) (hX : ∀ k, X k → k < w.heap.size) :
    Calls Tryd.prog 52 #[.pointer (some ⟨b, 0, none⟩), .string ⟨t.1.toArray⟩, .pointer (some ⟨c, 0, none⟩)] w fun e' w' => e' = .returned (.tuple #[]) ∧ ∃ v', Opn B w' X b v' e (ts ++ [(t, c)]) ∧ Lnk b v v' w w' := by
  obtain ⟨i0, hi, hz0, hz1, hz2⟩ := info_parts info_rl
  have hc0 : w.cell? ⟨b, 0, none⟩ = some v := cell_at h.blk rfl
  have HO := Lib.hid h; have HC := Lib.hid hc; have HX := Lib.hid hX
  have HP : Hid (∀ o : Obj, B ≤ (w.alloc o).heap.size) := Lib.hid fun o => by simp; omega
  clear h hc hX
  go_enter Tryd.func52, Tryd.ntmps52
  go_wp2_with (at_builtin; refine wpList_append_lies _ rfl _ _ 56 rfl B 72 i0 (.agg #[.string ⟨#[]⟩, .pointer none]) 2 24 Tryd.underlying56 hi hz0 hz1 hz2 rfl (by decide) v ts.length (tCells ts) rfl (HO.out.row.alloc _) ⟨w.heap.size, 0, none⟩ 1 1 [.string ⟨t.1.toArray⟩, .pointer (some ⟨c, 0, none⟩)] rfl rfl (lk_news w _ _) (lk_one _ _) (by decide) (by unfold maxLen; omega) (by omega) (HP.out _) _ rfl ?_
               intro g cap w4 hown4 hg4 hor4 hlt4
               obtain ⟨hc4, hf4, ho4, hl4⟩ := HO.out.link HC.out _ HX.out hown4 hg4 hor4
               have HO4 := Lib.hid ho4; have HL4 := Lib.hid hl4
               clear hown4 hg4 hor4 hlt4 ho4 hl4)
  go_end0
  exact ⟨rfl, _, HO4.out, HL4.out⟩
end Go.Proofs.YtagipmfkmikagaaDoor
