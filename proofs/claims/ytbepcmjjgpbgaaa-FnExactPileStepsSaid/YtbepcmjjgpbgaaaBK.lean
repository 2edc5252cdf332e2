/- Slices of integers: what a call reads, what it made. -/
import Derived.Test.YtbepcmjjgpbgaaaRows
import Derived.Test.YtbepcmjjgpbgaaaK2
namespace Go.Proofs.Ytbepcmjjgpbgaaa
open Go.RowKit
set_option linter.unusedVariables false
set_option maxRecDepth 100000
theorem info_int : (Try.prog.info? 3).map (fun i => (i.zero, i.size, i.bytes)) = some (some (.int .i64 0), 1, 8) := by kernel_rfl
/-- cells of integers -/
def intCells (f : Nat → Int) (n : Nat) : List Value := (List.range n).map fun k => .int .i64 (f k)
theorem intCells_at (f : Nat → Int) (n k : Nat) (h : k < n) : (intCells f n)[k]? = some (.int .i64 (f k)) := by simp [intCells, h]
theorem intCells_len (f : Nat → Int) (n : Nat) : (intCells f n).length = n := by simp [intCells]
theorem intCells_congr {f g : Nat → Int} {n : Nat} (h : ∀ k, k < n → f k = g k) : intCells f n = intCells g n :=
  List.map_congr_left fun k hk => by rw [h k (List.mem_range.1 hk)]
/-- a slice reads as n integers -/
def Ls (w : World) (a : Option Addr) (n : Nat) (f : Nat → Int) : Prop :=
  ∀ k, k < n → ∃ b off, a = some ⟨b, off, none⟩ ∧ b < w.heap.size ∧ w.cell? ⟨b, off + k, none⟩ = some (.int .i64 (f k))
theorem Ls.pos {w : World} {a : Option Addr} {n : Nat} {f : Nat → Int} (h : Ls w a n f) (hn : 0 < n) :
    ∃ b off, a = some ⟨b, off, none⟩ ∧ b < w.heap.size ∧ ∀ k, k < n → w.cell? ⟨b, off + k, none⟩ = some (.int .i64 (f k)) := by
  obtain ⟨b, off, rfl, hb, _⟩ := h 0 hn
  refine ⟨b, off, rfl, hb, fun k hk => ?_⟩
  obtain ⟨b', off', e, _, hc⟩ := h k hk
  simp only [Option.some.injEq, Addr.mk.injEq] at e
  rw [e.1, e.2.1]
  exact hc
theorem Ls.below {w w' : World} {a : Option Addr} {n : Nat} {f : Nat → Int} (h : Ls w a n f) (g : Below w.heap.size w w') : Ls w' a n f := fun k hk => by
  obtain ⟨b, off, e, hb, hc⟩ := h k hk
  exact ⟨b, off, e, Nat.lt_of_lt_of_le hb g.size, (g.cell (p := ⟨b, off + k, none⟩) hb).trans hc⟩
theorem Ls.congr {w : World} {a : Option Addr} {n : Nat} {f g : Nat → Int} (h : Ls w a n f) (e : ∀ k, k < n → f k = g k) : Ls w a n g := fun k hk => by
  obtain ⟨b, off, e1, hb, hc⟩ := h k hk
  exact ⟨b, off, e1, hb, by rw [hc, e k hk]⟩
theorem Ls.le {w : World} {a : Option Addr} {n m : Nat} {f : Nat → Int} (h : Ls w a n f) (hm : m ≤ n) : Ls w a m f := fun k hk => h k (by omega)
theorem Ls.none_ (w : World) (a : Option Addr) (f : Nat → Int) : Ls w a 0 f := fun k hk => by omega
/-- the block of a slice that a call made: just these integers -/
def Own (w : World) (b n : Nat) (f : Nat → Int) : Prop := w.heap[b]? = some (.cells (intCells f n).toArray 3 (0, 0))
theorem Own.lt {w : World} {b n : Nat} {f : Nat → Int} (h : Own w b n f) : b < w.heap.size := lt_of_block' h
theorem Own.cell {w : World} {b n : Nat} {f : Nat → Int} (h : Own w b n f) (k : Nat) (hk : k < n) : w.cell? ⟨b, k, none⟩ = some (.int .i64 (f k)) :=
  cell_at h (by rw [List.getElem?_toArray]; exact intCells_at f n k hk)
theorem Own.frozen {w : World} {b n : Nat} {f : Nat → Int} (h : Own w b n f) (k : Nat) : w.frozen? ⟨b, k, none⟩ = false := by
  unfold Own at h
  simp [World.frozen?, h]
theorem Own.congr {w : World} {b n : Nat} {f g : Nat → Int} (h : Own w b n f) (e : ∀ k, k < n → f k = g k) : Own w b n g := by
  unfold Own at h ⊢
  rw [h, intCells_congr e]
theorem Own.ls {w : World} {b n : Nat} {f : Nat → Int} (h : Own w b n f) : Ls w (some ⟨b, 0, none⟩) n f := fun k hk =>
  ⟨b, 0, rfl, h.lt, by rw [Nat.zero_add]; exact h.cell k hk⟩
theorem Own.keep {w w' : World} {b n : Nat} {f : Nat → Int} (h : Own w b n f) (e : w'.heap[b]? = w.heap[b]?) : Own w' b n f := e.trans h
theorem Own.below {w w' : World} {b n : Nat} {f : Nat → Int} (h : Own w b n f) (g : Below w.heap.size w w') : Own w' b n f := h.keep (g.block b h.lt)
theorem Own.set_ {w : World} {b n : Nat} {f : Nat → Int} (h : Own w b n f) (k : Nat) (x : Int) : Own (w.setCell ⟨b, k, none⟩ (.int .i64 x)) b n (fun j => if j = k then x else f j) := by
  unfold Own at h ⊢
  have e : (intCells f n).toArray.setIfInBounds k (.int .i64 x) = (intCells (fun j => if j = k then x else f j) n).toArray := by
    apply Array.ext
    · simp [intCells]
    · intro i h1 h2
      simp only [Array.size_setIfInBounds, List.size_toArray, intCells_len] at h1
      by_cases e : k = i
      · subst e; simp [intCells]
      · rw [Array.getElem_setIfInBounds_ne (by simpa [intCells] using h1) e]
        simp [intCells, Ne.symm e]
  simp only [World.setCell, Array.getElem?_modify, h, if_true, Option.map_some]
  rw [← e]
  rfl
theorem Own.new (w : World) (n : Nat) (f : Nat → Int) : Own (w.alloc (.cells (intCells f n).toArray 3)) w.heap.size n f := heap_alloc_new w _
theorem made_ints (n : Nat) : madeCells (Value.int .i64 0).cells (n * 1) = (intCells (fun _ => 0) n).toArray := by
  apply Array.ext
  · simp [madeCells, intCells]
  · intro i h1 h2
    simp [madeCells, intCells, Value.cells, Nat.mod_one]
/-- nothing turns but in the blocks from lo on and ahead of hi -/
structure Mid (lo hi : Nat) (w w' : World) : Prop where
  os : w'.os = w.os
  tape : w'.tape = w.tape
  output : w'.output = w.output
  size : w'.heap.size = w.heap.size
  block : ∀ k, ¬ (lo ≤ k ∧ k < hi) → w'.heap[k]? = w.heap[k]?
theorem Mid.refl (lo hi : Nat) (w : World) : Mid lo hi w w := ⟨rfl, rfl, rfl, rfl, fun _ _ => rfl⟩
theorem Mid.below {lo hi B : Nat} {w w' : World} (h : Mid lo hi w w') (hB : B ≤ lo) : Below B w w' := ⟨h.os, h.tape, h.output, Nat.le_of_eq h.size.symm, fun k hk => h.block k (by omega)⟩
theorem Mid.setCell {lo hi : Nat} {w w' : World} (h : Mid lo hi w w') {b : Nat} (h1 : lo ≤ b) (h2 : b < hi) (k : Nat) (u : Value) : Mid lo hi w (w'.setCell ⟨b, k, none⟩ u) :=
  ⟨h.os, h.tape, h.output, by simp [World.setCell, h.size], fun j hj => (Below.heap_setCell _ _ _ _ (fun e => hj (by simp at e; omega))).trans (h.block j hj)⟩
theorem Mid.drewN {lo hi : Nat} {w w' : World} (h : Mid lo hi w w') (q : Nat) : Mid lo hi w (w'.drewN q) := ⟨h.os, h.tape, h.output, h.size, h.block⟩
theorem Mid.mono {lo hi lo' hi' : Nat} {w w' : World} (h : Mid lo hi w w') (h1 : lo' ≤ lo) (h2 : hi ≤ hi') : Mid lo' hi' w w' := ⟨h.os, h.tape, h.output, h.size, fun k hk => h.block k (by omega)⟩
theorem Mid.bel {lo hi B : Nat} {w w1 w2 : World} (g : Mid lo hi w1 w2) (h : Below B w w1) (hB : B ≤ lo) : Below B w w2 := h.trans (g.below hB)
/-- a slice that a call made, its block from lo on and ahead of hi (an empty one may lie anywhere) -/
def Res (w : World) (lo hi : Nat) (a : Option Addr) (n : Nat) (f : Nat → Int) : Prop := n = 0 ∨ ∃ b, a = some ⟨b, 0, none⟩ ∧ lo ≤ b ∧ b < hi ∧ Own w b n f
theorem Res.ls {w : World} {lo hi n : Nat} {a : Option Addr} {f : Nat → Int} (h : Res w lo hi a n f) : Ls w a n f := by
  rcases h with rfl | ⟨b, rfl, _, _, h⟩
  · exact Ls.none_ _ _ _
  · exact h.ls
theorem Res.congr {w : World} {lo hi n : Nat} {a : Option Addr} {f g : Nat → Int} (h : Res w lo hi a n f) (e : ∀ k, k < n → f k = g k) : Res w lo hi a n g := by
  rcases h with rfl | ⟨b, rfl, h1, h2, h⟩
  · exact .inl rfl
  · exact .inr ⟨b, rfl, h1, h2, h.congr e⟩
theorem Res.mono {w : World} {lo hi lo' hi' n : Nat} {a : Option Addr} {f : Nat → Int} (h : Res w lo hi a n f) (h1 : lo' ≤ lo) (h2 : hi ≤ hi') : Res w lo' hi' a n f := by
  rcases h with rfl | ⟨b, rfl, g1, g2, h⟩
  · exact .inl rfl
  · exact .inr ⟨b, rfl, by omega, by omega, h⟩
theorem Res.below {w w' : World} {lo hi n : Nat} {a : Option Addr} {f : Nat → Int} (h : Res w lo hi a n f) (g : Below w.heap.size w w') : Res w' lo hi a n f := by
  rcases h with rfl | ⟨b, rfl, h1, h2, h⟩
  · exact .inl rfl
  · exact .inr ⟨b, rfl, h1, h2, h.below g⟩
theorem Res.mid {w w' : World} {lo hi lo' hi' n : Nat} {a : Option Addr} {f : Nat → Int} (h : Res w lo hi a n f) (g : Mid lo' hi' w w') (hd : hi ≤ lo' ∨ hi' ≤ lo) : Res w' lo hi a n f := by
  rcases h with rfl | ⟨b, rfl, h1, h2, h⟩
  · exact .inl rfl
  · exact .inr ⟨b, rfl, h1, h2, h.keep (g.block b (by omega))⟩
theorem Own.res {w : World} {b n : Nat} {f : Nat → Int} (h : Own w b n f) : Res w b (b + 1) (some ⟨b, 0, none⟩) n f := .inr ⟨b, rfl, Nat.le_refl _, by omega, h⟩
theorem Res.none_ (w : World) (lo hi : Nat) (a : Option Addr) (f : Nat → Int) : Res w lo hi a 0 f := .inl rfl
/-- a row that came in reads as a slice -/
theorem IsRow.ls {w : World} {a : Option Addr} {len cap : Nat} {zs : List Int} (h : IsRow .i64 w a len cap zs) : Ls w a len (fun k => zs.getD k 0) := by
  rcases h with ⟨rfl, rfl, rfl, rfl⟩ | ⟨x, rfl, hl, hm, hz, hc, hw⟩
  · exact Ls.none_ _ _ _
  · intro k hk
    obtain ⟨b, off, spot⟩ := x
    have hci := hc k (by omega)
    have hspot : spot = none := by
      have := World.cell?_spot (hc 0 (by omega))
      simpa [Addr.add] using this
    subst hspot
    have e : (⟨b, off, none⟩ : Addr).add k = ⟨b, off + k, none⟩ := by unfold Addr.add; split <;> simp_all
    rw [e] at hci
    exact ⟨b, off, rfl, World.block_lt_of_cell? w _ hci, hci⟩
theorem IsRow.fit {w : World} {a : Option Addr} {len cap : Nat} {zs : List Int} (h : IsRow .i64 w a len cap zs) (k : Nat) (hk : k < len) : -9223372036854775808 ≤ zs.getD k 0 ∧ zs.getD k 0 ≤ 9223372036854775807 := by
  rcases h with ⟨rfl, rfl, rfl, rfl⟩ | ⟨x, rfl, hl, hm, hz, hc, hw⟩
  · omega
  · have hwf := hw (zs.getD k 0) (by rw [List.getD_eq_getElem?_getD, List.getElem?_eq_getElem (by omega)]; exact List.getElem_mem _)
    simp only [Lit.wf, Bool.and_eq_true, decide_eq_true_eq] at hwf
    exact hwf
theorem IsRow.max {w : World} {a : Option Addr} {len cap : Nat} {zs : List Int} (h : IsRow .i64 w a len cap zs) : len ≤ 9223372036854775807 := by
  rcases h with ⟨rfl, rfl, rfl, rfl⟩ | ⟨x, rfl, hl, hm, hz, hc, hw⟩
  · omega
  · unfold maxLen at hm; omega
end Go.Proofs.Ytbepcmjjgpbgaaa
