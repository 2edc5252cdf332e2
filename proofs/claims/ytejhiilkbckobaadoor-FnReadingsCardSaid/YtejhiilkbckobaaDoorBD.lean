/- The draws of chapter 2 (package spec): slices that are drawn; l91System. -/
import Derived.Test.YtejhiilkbckobaaDoorD
import Derived.Test.YtejhiilkbckobaaDoorBV2
import Derived.Deep.RegionLaw
import Derived.Deep.AppendLies
import Derived.Laws.OwnMore
namespace Go.Proofs.YtejhiilkbckobaaDoor
open Go.RowKit
set_option linter.unusedVariables false
set_option maxRecDepth 100000
theorem Rd.other {w w' : World} {r : Nat} {a : Option Addr} {len cap p : Nat} (h : Rd w r a len cap p) (hk : ∀ k, k < w.heap.size → k ≤ r → w'.heap[k]? = w.heap[k]?) : Rd w' r a len cap p := by
  have hr := lt_of_block' h.blk
  refine ⟨by rw [hk r hr (Nat.le_refl _)]; exact h.blk, h.small, fun i hi => ?_⟩
  obtain ⟨b, off, y, ha, hb, hc, h0, h1⟩ := h.at' i hi
  exact ⟨b, off, y, ha, hb, (World.cell?_of_block (hk b (by omega) (by omega))).trans hc, h0, h1⟩
theorem Rd.bel {w w' : World} {r : Nat} {a : Option Addr} {len cap p : Nat} (h : Rd w r a len cap p) (g : Below w.heap.size w w') : Rd w' r a len cap p := h.other fun k hk _ => g.block k hk
theorem gr_trans {w1 w2 w3 : World} {r : Nat} (h : w1.grownBy w2 (some r)) (k : w2.grownBy w3 (some r)) : w1.grownBy w3 (some r) :=
  ⟨k.os.trans h.os, k.tape.trans h.tape, k.output.trans h.output, Nat.le_trans h.size k.size, fun i hi hne => (k.block i (Nat.lt_of_lt_of_le hi h.size) hne).trans (h.block i hi hne)⟩
theorem gr_bel {w w' : World} (r : Nat) (g : Below w.heap.size w w') : w.grownBy w' (some r) := ⟨g.os, g.tape, g.output, g.size, fun k hk _ => g.block k hk⟩
theorem bel_gr {B r : Nat} {w w1 w2 : World} (h : Below B w w1) (g : w1.grownBy w2 (some r)) (hB : B ≤ w1.heap.size) (hr : B ≤ r) : Below B w w2 := h.grown g hB (fun k hk => by simp at hk; omega)
/-- a slice that was drawn: n integers, not in the reader's block -/
def Drn (w : World) (r : Nat) (a : Option Addr) (n : Nat) (f : Nat → Int) : Prop :=
  ∀ k, k < n → ∃ b off, a = some ⟨b, off, none⟩ ∧ b < w.heap.size ∧ b ≠ r ∧ w.cell? ⟨b, off + k, none⟩ = some (.int .i64 (f k))
theorem Drn.ls {w : World} {r : Nat} {a : Option Addr} {n : Nat} {f : Nat → Int} (h : Drn w r a n f) : Ls w a n f := fun k hk => by
  obtain ⟨b, off, e, h1, _, h2⟩ := h k hk
  exact ⟨b, off, e, h1, h2⟩
theorem Drn.gr {w w' : World} {r : Nat} {a : Option Addr} {n : Nat} {f : Nat → Int} (h : Drn w r a n f) (g : w.grownBy w' (some r)) : Drn w' r a n f := fun k hk => by
  obtain ⟨b, off, e, h1, h2, h3⟩ := h k hk
  exact ⟨b, off, e, Nat.lt_of_lt_of_le h1 g.size, h2, (World.cell?_of_block (g.block b h1 (by simpa using h2))).trans h3⟩
theorem Drn.of_own {w : World} {base r : Nat} {v : Value} {ys : List Int} (h : w.ownsRow base 3 1 v ys.length (ys.map (Value.int .i64))) (hr : r < base) : ∃ a c, v = .slice a ys.length c ∧ ys.length ≤ c ∧ Drn w r a ys.length (fun j => ys.getD j 0) := by
  rcases h.2 with ⟨rfl, h0⟩ | ⟨g, cap, cur, rfl, hb, hg, hc1, hc2, hc3, htk⟩
  · rw [h0]
    exact ⟨none, 0, rfl, Nat.le_refl _, fun k hk => by omega⟩
  · refine ⟨_, _, rfl, by omega, fun k hk => ⟨g, 0, rfl, lt_of_block' hg, by omega, ?_⟩⟩
    rw [Nat.zero_add]
    refine cell_at hg ?_
    have e : (cur.toList.take (ys.length * 1))[k]? = some (.int .i64 (ys.getD k 0)) := by
      rw [htk]
      simp [hk]
    rw [List.getElem?_take, if_pos (by omega), Array.getElem?_toList] at e
    exact e
theorem Drn.lit (w : World) (r : Nat) (l : List Int) (hr : r < w.heap.size) : Drn (w.alloc (.cells (l.map (Value.int .i64)).toArray 3)) r (some ⟨w.heap.size, 0, none⟩) l.length (fun j => l.getD j 0) := fun k hk =>
  ⟨w.heap.size, 0, rfl, by simp, by omega, cell_at (heap_alloc_new w _) (by simp [hk])⟩
/-- what a draw of a system leaves -/
def SysDrawn (w : World) (r : Nat) (ra : Option Addr) (len cap p : Nat) (e : Ending) (w' : World) : Prop :=
  ∃ (a : Option Addr) (n c : Nat) (f : Nat → Int) (p' : Nat), e = .returned (.slice a n c) ∧ Drn w' r a n f ∧ n ≤ 6 ∧ (∀ j, j < n → 0 ≤ f j ∧ f j ≤ 2000000) ∧ Rd w' r ra len cap p' ∧ p' ≤ p + 10 ∧ w.grownBy w' (some r)
theorem sys_lit {w w1 : World} {r : Nat} {ra : Option Addr} {len cap p p1 : Nat} (l : List Int) (hl : l.length ≤ 6) (hb : ∀ y ∈ l, 0 ≤ y ∧ y ≤ 2000000) (h : Rd w1 r ra len cap p1) (hp : p1 ≤ p + 10) (g : w.grownBy w1 (some r)) :
    SysDrawn w r ra len cap p (.returned (.slice (some ⟨w1.heap.size, 0, none⟩) l.length l.length)) (w1.alloc (.cells (l.map (Value.int .i64)).toArray 3)) := by
  have hr := lt_of_block' h.blk
  refine ⟨_, _, _, _, p1, rfl, Drn.lit w1 r l hr, hl, fun j hj => ?_, h.bel ((Below.refl _ _).alloc (Nat.le_refl _) _), hp, gr_trans g (World.grownBy_alloc w1 _ (some r))⟩
  have e : l.getD j 0 = l[j] := by rw [List.getD_eq_getElem?_getD, List.getElem?_eq_getElem hj]; rfl
  show 0 ≤ l.getD j 0 ∧ l.getD j 0 ≤ 2000000
  rw [e]
  exact hb _ (List.getElem_mem hj)
theorem step_append_own {P : Program} {ops : Array Oper} {o : Oper} {a : Act} {w : World} {K : Act → World → Prop} {Q : Exit → Act → World → Prop} {E : Prop} (hgd : o.guard = none) (s x : Operand) (t : TypeId)
    (ho : o.op = .call { callee := .builtin .append, args := #[s, x], argTypes := #[t, t] })
    (base : Nat) (e : TypeId) (i : TypeInfo) (z : Value) (size bytes : Nat) (ht : P.underlying t = some (.slice e)) (hi : P.info? e = some i) (hz : i.zero = some z)
    (hsize : i.size = size) (hby : i.bytes = bytes) (hzs : z.cells.size = size) (hsz : 0 < size)
    (v : Value) (n : Nat) (xs : List Value) (hs : a.eval s = v) (hown : w.ownsRow base e size v n xs)
    (ad : Addr) (m c : Nat) (news : List Value) (hx : a.eval x = .slice (some ad) m c) (hl : news.length = m * size) (hnews : ∀ j u, news[j]? = some u → w.cell? (ad.add j) = some u) (h1 : ∀ u ∈ news, u.oneCell' = true)
    (h63 : n + m ≤ maxLen) (hbytes : (n + m) * bytes ≤ 140737488355328) (hbase : base ≤ w.heap.size)
    (h : ∀ v' w', w'.ownsRow base e size v' (n + m) (xs ++ news) → w.grownBy w' v.ownBlock → K (a.put o.dst v') w') :
    if Region.wanted o (yielded ops a.tmps) = true then Oper.wp P o a w K Q else E := by
  have hw : Region.wanted o (yielded ops a.tmps) = true := by simp [Region.wanted, hgd]
  rw [if_pos hw]
  exact wp_append_own w s x t ho base e i z size bytes ht hi hz hsize hby hzs hsz v n xs hs hown ad m c news hx hl hnews h1 h63 hbytes hbase fun v' w' h2 h3 _ => h v' w' h2 h3
theorem one_news {w : World} {b : Nat} {y : Int} (h : w.heap[b]? = some (.cells #[.int .i64 y] 3 (0, 0))) : ∀ j u, ([.int .i64 y] : List Value)[j]? = some u → w.cell? ((⟨b, 0, none⟩ : Addr).add j) = some u := by
  intro j u hu
  rcases j with _ | j
  · simp at hu
    subst hu
    exact cell_at h rfl
  · simp at hu
theorem mul_bd (y x B : Int) (h0 : 0 ≤ y) (h1 : y ≤ B) (g0 : 0 ≤ x) (g1 : x < 5) : 0 ≤ y * (2 + x) ∧ y * (2 + x) ≤ 6 * B := by
  refine ⟨Int.mul_nonneg h0 (by omega), ?_⟩
  have : y * (2 + x) ≤ y * 6 := Int.mul_le_mul_of_nonneg_left (by omega) h0
  omega
theorem Drn.blk {w : World} {r b : Nat} (l : List Int) (h : w.heap[b]? = some (.cells (l.map (Value.int .i64)).toArray 3 (0, 0))) (hr : b ≠ r) : Drn w r (some ⟨b, 0, none⟩) l.length (fun j => l.getD j 0) := fun k hk =>
  ⟨b, 0, rfl, lt_of_block' h, hr, cell_at h (by simp [hk])⟩
theorem sys_blk {w w1 : World} {r b : Nat} {ra : Option Addr} {len cap p p1 : Nat} (l : List Int) (hl : l.length ≤ 6) (hb : ∀ y ∈ l, 0 ≤ y ∧ y ≤ 2000000) (h : Rd w1 r ra len cap p1) (hp : p1 ≤ p + 10) (g : w.grownBy w1 (some r))
    (hblk : w1.heap[b]? = some (.cells (l.map (Value.int .i64)).toArray 3 (0, 0))) (hr : b ≠ r) :
    SysDrawn w r ra len cap p (.returned (.slice (some ⟨b, 0, none⟩) l.length l.length)) w1 := by
  refine ⟨_, _, _, _, p1, rfl, Drn.blk l hblk hr, hl, fun j hj => ?_, h, hp, g⟩
  have e : l.getD j 0 = l[j] := by rw [List.getD_eq_getElem?_getD, List.getElem?_eq_getElem hj]; rfl
  show 0 ≤ l.getD j 0 ∧ l.getD j 0 ≤ 2000000
  rw [e]
  exact hb _ (List.getElem_mem hj)
theorem alloc_at (w : World) (o : Obj) (k : Nat) (h : k = w.heap.size) : (w.alloc o).heap[k]? = some o := by subst h; exact heap_alloc_new w o
theorem gr_own {w w1 w2 : World} {r : Nat} {row : Option Nat} (h : w.grownBy w1 (some r)) (k : w1.grownBy w2 row) (hr : ∀ b, row = some b → w.heap.size ≤ b) : w.grownBy w2 (some r) :=
  ⟨k.os.trans h.os, k.tape.trans h.tape, k.output.trans h.output, Nat.le_trans h.size k.size, fun i hi hne => (k.block i (Nat.lt_of_lt_of_le hi h.size) (fun e => by have := hr i e.symm; omega)).trans (h.block i hi hne)⟩
theorem Rd.own {w w' : World} {r : Nat} {a : Option Addr} {len cap p : Nat} {row : Option Nat} (h : Rd w r a len cap p) (k : w.grownBy w' row) (hr : ∀ b, row = some b → r < b) : Rd w' r a len cap p :=
  h.other fun i hi hir => k.block i hi (fun e => by have := hr i e.symm; omega)
/-- the world behind the table of odd systems -/
def odd (w : World) : World :=
  (((((w.alloc (.cells #[] 3)).alloc (.cells #[.int .i64 2, .int .i64 4] 3)).alloc (.cells #[.int .i64 1, .int .i64 3, .int .i64 4] 3)).alloc (.cells #[.int .i64 1, .int .i64 10, .int .i64 10] 3)).alloc
    (.cells #[.int .i64 1, .int .i64 1000000, .int .i64 2000000] 3)).alloc (.cells #[.slice (some ⟨w.heap.size, 0, none⟩) 0 0, .slice (some ⟨w.heap.size + 1, 0, none⟩) 2 2, .slice (some ⟨w.heap.size + 1 + 1, 0, none⟩) 3 3,
      .slice (some ⟨w.heap.size + 1 + 1 + 1, 0, none⟩) 3 3, .slice (some ⟨w.heap.size + 1 + 1 + 1 + 1, 0, none⟩) 3 3] 31)
theorem odd_bel (w : World) : Below w.heap.size w (odd w) := by
  unfold odd
  refine ((((((Below.refl _ _).alloc (Nat.le_refl _) _).alloc ?_ _).alloc ?_ _).alloc ?_ _).alloc ?_ _).alloc ?_ _ <;> simp <;> omega
theorem odd_at (w : World) : (odd w).heap[w.heap.size]? = some (.cells #[] 3 (0, 0)) ∧ (odd w).heap[w.heap.size + 1]? = some (.cells #[.int .i64 2, .int .i64 4] 3 (0, 0)) ∧ (odd w).heap[w.heap.size + 1 + 1]? = some (.cells #[.int .i64 1, .int .i64 3, .int .i64 4] 3 (0, 0)) ∧
    (odd w).heap[w.heap.size + 1 + 1 + 1]? = some (.cells #[.int .i64 1, .int .i64 10, .int .i64 10] 3 (0, 0)) ∧ (odd w).heap[w.heap.size + 1 + 1 + 1 + 1]? = some (.cells #[.int .i64 1, .int .i64 1000000, .int .i64 2000000] 3 (0, 0)) ∧
    (odd w).heap[w.heap.size + 1 + 1 + 1 + 1 + 1]? = some (.cells #[.slice (some ⟨w.heap.size, 0, none⟩) 0 0, .slice (some ⟨w.heap.size + 1, 0, none⟩) 2 2, .slice (some ⟨w.heap.size + 1 + 1, 0, none⟩) 3 3,
      .slice (some ⟨w.heap.size + 1 + 1 + 1, 0, none⟩) 3 3, .slice (some ⟨w.heap.size + 1 + 1 + 1 + 1, 0, none⟩) 3 3] 31 (0, 0)) := by
  unfold odd
  refine ⟨?_, ?_, ?_, ?_, ?_, ?_⟩ <;> repeat (first | exact alloc_at _ _ _ (by simp) | rw [Below.heap_alloc _ _ _ (by simp <;> omega)])
theorem one_cell {y : Int} : ∀ u ∈ ([.int .i64 y] : List Value), u.oneCell' = true := by intro u hu; simp at hu; subst hu; rfl
end Go.Proofs.YtejhiilkbckobaaDoor
