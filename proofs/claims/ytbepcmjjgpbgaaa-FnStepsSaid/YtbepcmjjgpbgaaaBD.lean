/- The draws of chapter 2 (package spec): slices that are drawn; l91System. -/
import Derived.Test.YtbepcmjjgpbgaaaD
import Derived.Test.YtbepcmjjgpbgaaaBV2
import Derived.Deep.RegionLaw
import Derived.Deep.AppendLies
import Derived.Laws.OwnMore
namespace Go.Proofs.Ytbepcmjjgpbgaaa
open Go.RowKit
set_option linter.unusedVariables false
set_option maxRecDepth 100000
theorem Rd.other {w w' : World} {r : Nat} {a : Option Addr} {len cap p : Nat} (h : Rd w r a len cap p) (hk : ∀ k, k < w.heap.size → k ≤ r → w'.heap[k]? = w.heap[k]?) : Rd w' r a len cap p := by
  have hr := lt_of_block' h.blk
  refine ⟨by rw [hk r hr (Nat.le_refl _)]; exact h.blk, h.small, fun i hi => ?_⟩
  obtain ⟨b, off, y, ha, hb, hc, h0, h1⟩ := h.at' i hi
  exact ⟨b, off, y, ha, hb, (World.cell?_of_block (hk b (by omega) (by omega))).trans hc, h0, h1⟩
theorem Rd.bel {w w' : World} {r : Nat} {a : Option Addr} {len cap p : Nat} (h : Rd w r a len cap p) (g : Below w.heap.size w w') : Rd w' r a len cap p := h.other fun k hk _ => g.block k hk
theorem gr_trans {w1 w2 w3 : World} {r : Nat} (h : w1.grownBy w2 (some r)) (k : w2.grownBy w3 (some r)) : w1.grownBy w3 (some r) :=
  ⟨k.os.trans h.os, k.tape.trans h.tape, k.output.trans h.output, Nat.le_trans h.size k.size, fun i hi hne => (k.block i (Nat.lt_of_lt_of_le hi h.size) hne).trans (h.block i hi hne)⟩
theorem gr_bel {w w' : World} (r : Nat) (g : Below w.heap.size w w') : w.grownBy w' (some r) := ⟨g.os, g.tape, g.output, g.size, fun k hk _ => g.block k hk⟩
theorem bel_gr {B r : Nat} {w w1 w2 : World} (h : Below B w w1) (g : w1.grownBy w2 (some r)) (hB : B ≤ w1.heap.size) (hr : B ≤ r) : Below B w w2 := h.grown g hB (fun k hk => by simp at hk; omega)
/-- a slice that was drawn: n integers, not in the reader's block -/
def Drn (w : World) (r : Nat) (a : Option Addr) (n : Nat) (f : Nat → Int) : Prop :=
  ∀ k, k < n → ∃ b off, a = some ⟨b, off, none⟩ ∧ b < w.heap.size ∧ b ≠ r ∧ w.cell? ⟨b, off + k, none⟩ = some (.int .i64 (f k))
theorem Drn.ls {w : World} {r : Nat} {a : Option Addr} {n : Nat} {f : Nat → Int} (h : Drn w r a n f) : Ls w a n f := fun k hk => by
  obtain ⟨b, off, e, h1, _, h2⟩ := h k hk
  exact ⟨b, off, e, h1, h2⟩
theorem Drn.gr {w w' : World} {r : Nat} {a : Option Addr} {n : Nat} {f : Nat → Int} (h : Drn w r a n f) (g : w.grownBy w' (some r)) : Drn w' r a n f := fun k hk => by
  obtain ⟨b, off, e, h1, h2, h3⟩ := h k hk
  exact ⟨b, off, e, Nat.lt_of_lt_of_le h1 g.size, h2, (World.cell?_of_block (g.block b h1 (by simpa using h2))).trans h3⟩
theorem Drn.of_own {w : World} {base r : Nat} {v : Value} {ys : List Int} (h : w.ownsRow base 3 1 v ys.length (ys.map (Value.int .i64))) (hr : r < base) : ∃ a c, v = .slice a ys.length c ∧ ys.length ≤ c ∧ Drn w r a ys.length (fun j => ys.getD j 0) := by
  rcases h.2 with ⟨rfl, h0⟩ | ⟨g, cap, cur, rfl, hb, hg, hc1, hc2, hc3, htk⟩
  · rw [h0]
    exact ⟨none, 0, rfl, Nat.le_refl _, fun k hk => by omega⟩
  · refine ⟨_, _, rfl, by omega, fun k hk => ⟨g, 0, rfl, lt_of_block' hg, by omega, ?_⟩⟩
    rw [Nat.zero_add]
    refine cell_at hg ?_
    have e : (cur.toList.take (ys.length * 1))[k]? = some (.int .i64 (ys.getD k 0)) := by
      rw [htk]
      simp [hk]
    rw [List.getElem?_take, if_pos (by omega), Array.getElem?_toList] at e
    exact e
theorem Drn.lit (w : World) (r : Nat) (l : List Int) (hr : r < w.heap.size) : Drn (w.alloc (.cells (l.map (Value.int .i64)).toArray 3)) r (some ⟨w.heap.size, 0, none⟩) l.length (fun j => l.getD j 0) := fun k hk =>
  ⟨w.heap.size, 0, rfl, by simp, by omega, cell_at (heap_alloc_new w _) (by simp [hk])⟩
/-- what a draw of a system leaves -/
def SysDrawn (w : World) (r : Nat) (ra : Option Addr) (len cap p : Nat) (e : Ending) (w' : World) : Prop :=
  ∃ (a : Option Addr) (n c : Nat) (f : Nat → Int) (p' : Nat), e = .returned (.slice a n c) ∧ Drn w' r a n f ∧ n ≤ 6 ∧ (∀ j, j < n → 0 ≤ f j ∧ f j ≤ 2000000) ∧ Rd w' r ra len cap p' ∧ p' ≤ p + 10 ∧ w.grownBy w' (some r)
theorem sys_lit {w w1 : World} {r : Nat} {ra : Option Addr} {len cap p p1 : Nat} (l : List Int) (hl : l.length ≤ 6) (hb : ∀ y ∈ l, 0 ≤ y ∧ y ≤ 2000000) (h : Rd w1 r ra len cap p1) (hp : p1 ≤ p + 10) (g : w.grownBy w1 (some r)) :
    SysDrawn w r ra len cap p (.returned (.slice (some ⟨w1.heap.size, 0, none⟩) l.length l.length)) (w1.alloc (.cells (l.map (Value.int .i64)).toArray 3)) := by
  have hr := lt_of_block' h.blk
  refine ⟨_, _, _, _, p1, rfl, Drn.lit w1 r l hr, hl, fun j hj => ?_, h.bel ((Below.refl _ _).alloc (Nat.le_refl _) _), hp, gr_trans g (World.grownBy_alloc w1 _ (some r))⟩
  have e : l.getD j 0 = l[j] := by rw [List.getD_eq_getElem?_getD, List.getElem?_eq_getElem hj]; rfl
  show 0 ≤ l.getD j 0 ∧ l.getD j 0 ≤ 2000000
  rw [e]
  exact hb _ (List.getElem_mem hj)
theorem step_append_own {P : Program} {ops : Array Oper} {o : Oper} {a : Act} {w : World} {K : Act → World → Prop} {Q : Exit → Act → World → Prop} {E : Prop} (hgd : o.guard = none) (s x : Operand) (t : TypeId)
    (ho : o.op = .call { callee := .builtin .append, args := #[s, x], argTypes := #[t, t] })
    (base : Nat) (e : TypeId) (i : TypeInfo) (z : Value) (size bytes : Nat) (ht : P.underlying t = some (.slice e)) (hi : P.info? e = some i) (hz : i.zero = some z)
    (hsize : i.size = size) (hby : i.bytes = bytes) (hzs : z.cells.size = size) (hsz : 0 < size)
    (v : Value) (n : Nat) (xs : List Value) (hs : a.eval s = v) (hown : w.ownsRow base e size v n xs)
    (ad : Addr) (m c : Nat) (news : List Value) (hx : a.eval x = .slice (some ad) m c) (hl : news.length = m * size) (hnews : ∀ j u, news[j]? = some u → w.cell? (ad.add j) = some u) (h1 : ∀ u ∈ news, u.oneCell' = true)
    (h63 : n + m ≤ maxLen) (hbytes : (n + m) * bytes ≤ 140737488355328) (hbase : base ≤ w.heap.size)
    (h : ∀ v' w', w'.ownsRow base e size v' (n + m) (xs ++ news) → w.grownBy w' v.ownBlock → K (a.put o.dst v') w') :
    if Region.wanted o (yielded ops a.tmps) = true then Oper.wp P o a w K Q else E := by
  have hw : Region.wanted o (yielded ops a.tmps) = true := by simp [Region.wanted, hgd]
  rw [if_pos hw]
  exact wp_append_own w s x t ho base e i z size bytes ht hi hz hsize hby hzs hsz v n xs hs hown ad m c news hx hl hnews h1 h63 hbytes hbase fun v' w' h2 h3 _ => h v' w' h2 h3
theorem one_news {w : World} {b : Nat} {y : Int} (h : w.heap[b]? = some (.cells #[.int .i64 y] 3 (0, 0))) : ∀ j u, ([.int .i64 y] : List Value)[j]? = some u → w.cell? ((⟨b, 0, none⟩ : Addr).add j) = some u := by
  intro j u hu
  rcases j with _ | j
  · simp at hu
    subst hu
    exact cell_at h rfl
  · simp at hu
theorem mul_bd (y x B : Int) (h0 : 0 ≤ y) (h1 : y ≤ B) (g0 : 0 ≤ x) (g1 : x < 5) : 0 ≤ y * (2 + x) ∧ y * (2 + x) ≤ 6 * B := by
  refine ⟨Int.mul_nonneg h0 (by omega), ?_⟩
  have : y * (2 + x) ≤ y * 6 := Int.mul_le_mul_of_nonneg_left (by omega) h0
  omega
theorem Drn.blk {w : World} {r b : Nat} (l : List Int) (h : w.heap[b]? = some (.cells (l.map (Value.int .i64)).toArray 3 (0, 0))) (hr : b ≠ r) : Drn w r (some ⟨b, 0, none⟩) l.length (fun j => l.getD j 0) := fun k hk =>
  ⟨b, 0, rfl, lt_of_block' h, hr, cell_at h (by simp [hk])⟩
theorem sys_blk {w w1 : World} {r b : Nat} {ra : Option Addr} {len cap p p1 : Nat} (l : List Int) (hl : l.length ≤ 6) (hb : ∀ y ∈ l, 0 ≤ y ∧ y ≤ 2000000) (h : Rd w1 r ra len cap p1) (hp : p1 ≤ p + 10) (g : w.grownBy w1 (some r))
    (hblk : w1.heap[b]? = some (.cells (l.map (Value.int .i64)).toArray 3 (0, 0))) (hr : b ≠ r) :
    SysDrawn w r ra len cap p (.returned (.slice (some ⟨b, 0, none⟩) l.length l.length)) w1 := by
  refine ⟨_, _, _, _, p1, rfl, Drn.blk l hblk hr, hl, fun j hj => ?_, h, hp, g⟩
  have e : l.getD j 0 = l[j] := by rw [List.getD_eq_getElem?_getD, List.getElem?_eq_getElem hj]; rfl
  show 0 ≤ l.getD j 0 ∧ l.getD j 0 ≤ 2000000
  rw [e]
  exact hb _ (List.getElem_mem hj)
theorem alloc_at (w : World) (o : Obj) (k : Nat) (h : k = w.heap.size) : (w.alloc o).heap[k]? = some o := by subst h; exact heap_alloc_new w o
theorem gr_own {w w1 w2 : World} {r : Nat} {row : Option Nat} (h : w.grownBy w1 (some r)) (k : w1.grownBy w2 row) (hr : ∀ b, row = some b → w.heap.size ≤ b) : w.grownBy w2 (some r) :=
  ⟨k.os.trans h.os, k.tape.trans h.tape, k.output.trans h.output, Nat.le_trans h.size k.size, fun i hi hne => (k.block i (Nat.lt_of_lt_of_le hi h.size) (fun e => by have := hr i e.symm; omega)).trans (h.block i hi hne)⟩
theorem Rd.own {w w' : World} {r : Nat} {a : Option Addr} {len cap p : Nat} {row : Option Nat} (h : Rd w r a len cap p) (k : w.grownBy w' row) (hr : ∀ b, row = some b → r < b) : Rd w' r a len cap p :=
  h.other fun i hi hir => k.block i hi (fun e => by have := hr i e.symm; omega)
/-- the world behind the table of odd systems -/
def odd (w : World) : World :=
  (((((w.alloc (.cells #[] 3)).alloc (.cells #[.int .i64 2, .int .i64 4] 3)).alloc (.cells #[.int .i64 1, .int .i64 3, .int .i64 4] 3)).alloc (.cells #[.int .i64 1, .int .i64 10, .int .i64 10] 3)).alloc
    (.cells #[.int .i64 1, .int .i64 1000000, .int .i64 2000000] 3)).alloc (.cells #[.slice (some ⟨w.heap.size, 0, none⟩) 0 0, .slice (some ⟨w.heap.size + 1, 0, none⟩) 2 2, .slice (some ⟨w.heap.size + 1 + 1, 0, none⟩) 3 3,
      .slice (some ⟨w.heap.size + 1 + 1 + 1, 0, none⟩) 3 3, .slice (some ⟨w.heap.size + 1 + 1 + 1 + 1, 0, none⟩) 3 3] 23)
theorem odd_bel (w : World) : Below w.heap.size w (odd w) := by
  unfold odd
  refine ((((((Below.refl _ _).alloc (Nat.le_refl _) _).alloc ?_ _).alloc ?_ _).alloc ?_ _).alloc ?_ _).alloc ?_ _ <;> simp <;> omega
theorem odd_at (w : World) : (odd w).heap[w.heap.size]? = some (.cells #[] 3 (0, 0)) ∧ (odd w).heap[w.heap.size + 1]? = some (.cells #[.int .i64 2, .int .i64 4] 3 (0, 0)) ∧ (odd w).heap[w.heap.size + 1 + 1]? = some (.cells #[.int .i64 1, .int .i64 3, .int .i64 4] 3 (0, 0)) ∧
    (odd w).heap[w.heap.size + 1 + 1 + 1]? = some (.cells #[.int .i64 1, .int .i64 10, .int .i64 10] 3 (0, 0)) ∧ (odd w).heap[w.heap.size + 1 + 1 + 1 + 1]? = some (.cells #[.int .i64 1, .int .i64 1000000, .int .i64 2000000] 3 (0, 0)) ∧
    (odd w).heap[w.heap.size + 1 + 1 + 1 + 1 + 1]? = some (.cells #[.slice (some ⟨w.heap.size, 0, none⟩) 0 0, .slice (some ⟨w.heap.size + 1, 0, none⟩) 2 2, .slice (some ⟨w.heap.size + 1 + 1, 0, none⟩) 3 3,
      .slice (some ⟨w.heap.size + 1 + 1 + 1, 0, none⟩) 3 3, .slice (some ⟨w.heap.size + 1 + 1 + 1 + 1, 0, none⟩) 3 3] 23 (0, 0)) := by
  unfold odd
  refine ⟨?_, ?_, ?_, ?_, ?_, ?_⟩ <;> repeat (first | exact alloc_at _ _ _ (by simp) | rw [Below.heap_alloc _ _ _ (by simp <;> omega)])
theorem one_cell {y : Int} : ∀ u ∈ ([.int .i64 y] : List Value), u.oneCell' = true := by intro u hu; simp at hu; subst hu; rfl
set_option maxRecDepth 100000 in
set_option maxHeartbeats 1000000 in
theorem l91System_any (r : Nat) (ra : Option Addr) (len cap p : Nat) (w : World) (h : Rd w r ra len cap p) (hp : p ≤ 900000) :
    Calls Try.prog 48 #[.pointer (some ⟨r, 0, none⟩)] w (SysDrawn w r ra len cap p) := by
  obtain ⟨i0, hi, hz0, hz1, hz2⟩ := info_parts info_int
  have H := Lib.hid h; clear h
  go_enter Try.func48, Try.ntmps48
  go_wp2_with fail
  refine (pick_any r ra len cap p _ _ H.out (by omega) (by omega) (by omega)).mono ?_
  rintro e w1 ⟨x, hx0, hx1, rfl, hr1, g1⟩
  have H1 := Lib.hid hr1; have G1 := Lib.hid g1; clear hr1 g1
  by_cases h0 : x = 0
  · subst h0
    go_wp2_with fail
    go_ret
    exact sys_lit [1, 5, 10, 50, 100, 500] (by decide) (by decide) H1.out (by omega) G1.out
  by_cases h1 : x = 1
  · subst h1
    go_wp2_with fail
    go_ret
    exact sys_lit [1] (by decide) (by decide) H1.out (by omega) G1.out
  by_cases h2 : x = 2
  · subst h2
    go_wp2_with fail
    go_ret
    exact sys_lit [1, 2, 4, 8, 16] (by decide) (by decide) H1.out (by omega) G1.out
  by_cases h3 : x = 3
  · subst h3
    go_wp2_with fail
    go_ret
    exact sys_lit [1, 12, 240] (by decide) (by decide) H1.out (by omega) G1.out
  by_cases h4 : x = 4
  · subst h4
    have hrl := lt_of_block' H1.out.blk
    go_wp2_with fail
    refine (pick_any r ra len cap (p + 1) _ _ (H1.out.bel ((Below.refl _ _).alloc (Nat.le_refl _) _)) (by omega) (by omega) (by omega)).mono ?_
    rintro e w2 ⟨y, hy0, hy1, rfl, hr2, g2⟩
    have hown0 : (w1.alloc (.cells #[.int .i64 1] 3)).ownsRow w1.heap.size 3 1 (.slice (some ⟨w1.heap.size, 0, none⟩) 1 1) 1 [.int .i64 1] := World.ownsRow_lit w1 #[.int .i64 1] 1 (Nat.le_refl _) (by decide) rfl
    have hown1 : w2.ownsRow w1.heap.size 3 1 (.slice (some ⟨w1.heap.size, 0, none⟩) 1 1) 1 [.int .i64 1] := hown0.kept g2 (by simp [Value.ownBlock]; omega)
    have Ho1 := Lib.hid hown1
    have H2 := Lib.hid hr2; have G2 := Lib.hid (gr_trans G1.out (gr_trans (World.grownBy_alloc w1 _ (some r)) g2))
    have hsz2 : w1.heap.size < w2.heap.size := by have := g2.size; simp at this; omega
    clear hr2 g2 hown0 hown1
    go_wp2_with fail
    go_loopw [3, 5] (fun v i wr => ∃ (k p' g cap2 : Nat) (ys : List Int), i = .int .i64 k ∧ (k : Int) ≤ y ∧ v = .slice (some ⟨g, 0, none⟩) (k + 1) cap2 ∧ ys.length = k + 1 ∧ wr.ownsRow w1.heap.size 3 1 (.slice (some ⟨g, 0, none⟩) (k + 1) cap2) (k + 1) (ys.map (Value.int .i64)) ∧
        (∀ j, j < k + 1 → 0 ≤ ys.getD j 0 ∧ ys.getD j 0 ≤ 6 ^ k) ∧ Rd wr r ra len cap p' ∧ p' = p + 2 + k ∧ w.grownBy wr (some r) ∧ w1.heap.size < wr.heap.size) (fun _ i _ => y.toNat - (intOf i).toNat)
    case atStart => exact ⟨0, p + 2, _, _, [1], rfl, hy0, rfl, rfl, Ho1.out, fun j hj => by { obtain rfl : j = 0 := by { omega }; exact ⟨by decide, by decide⟩ }, H2.out, rfl, G2.out, hsz2⟩
    case round =>
      clear hsz2 Ho1 H2 G2
      obtain ⟨k, p', g, cap2, ys, rfl, hk, rfl, hlen, hown, hbd, hrd, hp', hgr, hsz⟩ := hrel
      have Hlen := Lib.hid hlen; have Hown := Lib.hid hown; have Hbd := Lib.hid hbd; have Hrd := Lib.hid hrd; have Hp' := Lib.hid hp'; have Hgr := Lib.hid hgr
      obtain ⟨gg, cc, he, hbase, _⟩ := hown.form (by omega)
      have hgbase : w1.heap.size ≤ g := by
        have : g = gg := by injection he with e1; injection e1 with e2; injection e2
        omega
      clear he hbase hlen hbd hrd hp' hgr
      by_cases hlt : (k : Int) < y
      · have hc : wr.cell? ⟨g, k, none⟩ = some (.int .i64 (ys.getD k 0)) := by
          have := hown.cells (g := g) rfl k (.int .i64 (ys.getD k 0)) (by have := Hlen.out; simp [this])
          have e : (⟨g, 0, none⟩ : Addr).add k = ⟨g, k, none⟩ := by unfold Addr.add; split <;> simp_all
          rw [e] at this
          exact this
        have hk0 : (0 : Int) ≤ (k : Int) := Int.natCast_nonneg _
        have hk1 : (k : Int) < (k : Int) + 1 := by omega
        have hwk : IntKind.i64.wrap (k : Int) = k := IntWalk.i64_in _ (by omega)
        obtain ⟨l0, l1⟩ := Hbd.out k (by omega)
        have hB : (6 : Int) ^ k ≤ 36 := by
          rcases (show k = 0 ∨ k = 1 ∨ k = 2 by omega) with rfl | rfl | rfl <;> decide
        have hp9 : p' ≤ 1000000 := by have := Hp'.out; omega
        have l2 : ys.getD k 0 ≤ 36 := by omega
        clear hB l1 hown
        obtain ⟨last, hlast⟩ : ∃ last, ys.getD k 0 = last := ⟨_, rfl⟩
        rw [hlast] at hc l0 l2
        have Hlast := Lib.hid hlast; clear hlast
        have hrow : Hid (∀ b, (Value.slice (some ⟨g, 0, none⟩) (k + 1) cap2).ownBlock = some b → g = b) := fun b hb => by simpa [Value.ownBlock] using hb
        have hwr1 : w.heap.size ≤ w1.heap.size := G1.out.size
        have HrdD : Hid (Rd wr.drew r ra len cap p') := Hrd.out.bel (Below.refl _ _).drew
        have Hl1 : Hid (last ≤ 6 ^ k) := by show _ ≤ _; rw [← Hlast.out]; exact (Hbd.out k (by omega)).2
        have hglt : g < wr.heap.size := World.block_lt_of_cell? wr _ hc
        have hgr' : some g ≠ some r := by simp; omega
        have HownD : Hid (wr.drew.ownsRow w1.heap.size 3 1 (.slice (some ⟨g, 0, none⟩) (k + 1) cap2) (k + 1) (ys.map (Value.int .i64))) := Hown.out.drew
        go_wp2_with fail
        go_region_law (first
          | (refine step_append_own rfl (.tmp 30) (.tmp 41) 23 rfl w1.heap.size 3 i0 (.int .i64 0) 1 8 Try.underlying23 hi hz0 hz1 hz2 rfl (by decide) _ (k + 1) _ rfl ((HownD.out.kept g3 (.inr hgr')).alloc _) ⟨w3.heap.size, 0, none⟩ 1 1 [.int .i64 (last * (2 + x))] rfl rfl (one_news (heap_alloc_new w3 _)) one_cell (by unfold maxLen; omega) (by omega) hb3 ?_
             intro v' w4 hown4 hg4)
          | (go_simp
             go_at_call 66
             refine (pick_any r ra len cap p' 5 wr.drew HrdD.out (by decide) (by decide) hp9).mono ?_
             rintro e w3 ⟨x, hx0, hx1, rfl, hr3, g3⟩
             have hc3 : w3.cell? ⟨g, k, none⟩ = some (.int .i64 last) := (World.cell?_of_block (g3.block g hglt hgr')).trans hc
             have hm := mul_bd last x 36 l0 l2 hx0 hx1
             have hw : IntKind.i64.wrap (last * (2 + x)) = last * (2 + x) := IntWalk.i64_in _ (by omega)
             have hw2 : IntKind.i64.wrap (2 + x) = 2 + x := IntWalk.i64_in _ (by omega)
             have Hr3 := Lib.hid hr3
             have hb3 : w1.heap.size ≤ (w3.alloc (.cells #[.int .i64 (last * (2 + x))] 3)).heap.size := by (have := g3.size; simp; simp at this; omega)
             clear hr3))
        all_goals
          obtain ⟨g', cap', rfl, hb', _⟩ := hown4.form (by omega)
          have e1 : ys.map (Value.int .i64) ++ [.int .i64 (last * (2 + x))] = (ys ++ [last * (2 + x)]).map (Value.int .i64) := by simp
          rw [e1] at hown4
          have HO4 := Lib.hid hown4
          have HR4 : Hid (Rd w4 r ra len cap (p' + 1)) := (Hr3.out.bel ((Below.refl _ _).alloc (Nat.le_refl _) _)).own hg4 (fun b hb => by have := hrow.out b hb; omega)
          have HG4 : Hid (w.grownBy w4 (some r)) := gr_own (gr_trans (gr_trans (gr_trans Hgr.out (gr_bel r (Below.refl _ _).drew)) g3) (World.grownBy_alloc w3 _ (some r))) hg4 (fun b hb => by have := hrow.out b hb; omega)
          have HS4 : Hid (w1.heap.size < w4.heap.size) := by have := hg4.size; have := g3.size; show _ < _; simp at *; omega
          have HB4 : Hid (∀ j, j < k + 1 + 1 → 0 ≤ (ys ++ [last * (2 + x)]).getD j 0 ∧ (ys ++ [last * (2 + x)]).getD j 0 ≤ 6 ^ (k + 1)) := fun j hj => by
            have hl := Hlen.out
            have hpow : (6 : Int) ^ (k + 1) = 6 * 6 ^ k := by rw [Int.pow_succ]; omega
            have hpos : (0 : Int) < 6 ^ k := Int.pow_pos (by omega)
            by_cases hjk : j < k + 1
            · have := Hbd.out j hjk
              have e : (ys ++ [last * (2 + x)]).getD j 0 = ys.getD j 0 := by
                rw [List.getD_eq_getElem?_getD, List.getD_eq_getElem?_getD, List.getElem?_append_left (by omega)]
              rw [e, hpow]
              omega
            · obtain rfl : j = k + 1 := by omega
              have e : (ys ++ [last * (2 + x)]).getD (k + 1) 0 = last * (2 + x) := by
                rw [List.getD_eq_getElem?_getD, List.getElem?_append_right (by omega), hl]
                simp
              have := mul_bd last x (6 ^ k) l0 Hl1.out hx0 hx1
              rw [e, hpow]
              exact this
          have HL4 : Hid ((ys ++ [last * (2 + x)]).length = k + 1 + 1) := by show _ = _; simp [Hlen.out]
          clear hown4 hg4 g3 hb' e1
          go_wp2
          go_roundw
          case rel => exact ⟨k + 1, p' + 1, g', cap', _, by go_num, by omega, rfl, HL4.out, HO4.out, HB4.out, HR4.out, by have := Hp'.out; omega, HG4.out, HS4.out⟩
          case measure => simp [intOf]; omega
      · have hown' : wr.ownsRow w1.heap.size 3 1 (.slice (some ⟨g, 0, none⟩) (k + 1) cap2) ys.length (ys.map (Value.int .i64)) := by rw [Hlen.out]; exact hown
        obtain ⟨a', c', he, _, hd⟩ := Drn.of_own hown' hrl
        have HD : Hid (Drn wr r (some ⟨g, 0, none⟩) (k + 1) (fun j => ys.getD j 0)) := by
          have e2 : a' = some ⟨g, 0, none⟩ := by injection he with e3; exact e3.symm
          rw [e2, Hlen.out] at hd
          exact hd
        clear hown hown' he hd
        go_wp2_with fail
        go_ret
        refine ⟨_, _, _, _, p', rfl, HD.out, by omega, fun j hj => ?_, Hrd.out, by have := Hp'.out; omega, Hgr.out⟩
        have := Hbd.out j hj
        have hB : (6 : Int) ^ k ≤ 2000000 := by
          rcases (show k = 0 ∨ k = 1 ∨ k = 2 ∨ k = 3 by omega) with rfl | rfl | rfl | rfl <;> decide
        omega
  by_cases h5 : x = 5
  · subst h5
    go_wp2_with fail
    refine (pick_any r ra len cap (p + 1) _ _ H1.out (by omega) (by omega) (by omega)).mono ?_
    rintro e w2 ⟨y, hy0, hy1, rfl, hr2, g2⟩
    have H2 := Lib.hid hr2; have G2 := Lib.hid (gr_trans G1.out g2); clear hr2 g2
    by_cases hy : y = 0
    · subst hy
      go_wp2_with fail
      refine (pick_any r ra len cap (p + 1 + 1) _ (odd w2) (H2.out.bel (odd_bel w2)) (by omega) (by omega) (by omega)).mono ?_
      rintro e w3 ⟨z, hz0, hz1, rfl, hr3, g3⟩
      have hrl := lt_of_block' H2.out.blk
      obtain ⟨o0, o1, o2, o3, o4, o5⟩ := odd_at w2
      have hb : ∀ k o, k ≠ r → (odd w2).heap[k]? = some o → w3.heap[k]? = some o := fun k o hk ho => (g3.block k (lt_of_block' ho) (by simpa using hk)).trans ho
      have Q0 := Lib.hid (hb _ _ (by omega) o0); have Q1 := Lib.hid (hb _ _ (by omega) o1); have Q2 := Lib.hid (hb _ _ (by omega) o2); have Q3 := Lib.hid (hb _ _ (by omega) o3); have Q4 := Lib.hid (hb _ _ (by omega) o4)
      have q5 := hb _ _ (by omega) o5
      have H3 := Lib.hid hr3; have G3 := Lib.hid (gr_trans G2.out (gr_trans (gr_bel r (odd_bel w2)) g3))
      clear hr3 g3 hb o0 o1 o2 o3 o4 o5
      rcases (show z = 0 ∨ z = 1 ∨ z = 2 ∨ z = 3 ∨ z = 4 by omega) with rfl | rfl | rfl | rfl | rfl
      · have hc := cell_at q5 (j := 0) rfl
        clear q5
        go_wp2_with fail
        go_ret
        exact sys_blk [] (by decide) (by decide) H3.out (by omega) G3.out Q0.out (by omega)
      · have hc := cell_at q5 (j := 1) rfl
        clear q5
        go_wp2_with fail
        go_ret
        exact sys_blk [2, 4] (by decide) (by decide) H3.out (by omega) G3.out Q1.out (by omega)
      · have hc := cell_at q5 (j := 2) rfl
        clear q5
        go_wp2_with fail
        go_ret
        exact sys_blk [1, 3, 4] (by decide) (by decide) H3.out (by omega) G3.out Q2.out (by omega)
      · have hc := cell_at q5 (j := 3) rfl
        clear q5
        go_wp2_with fail
        go_ret
        exact sys_blk [1, 10, 10] (by decide) (by decide) H3.out (by omega) G3.out Q3.out (by omega)
      · have hc := cell_at q5 (j := 4) rfl
        clear q5
        go_wp2_with fail
        go_ret
        exact sys_blk [1, 1000000, 2000000] (by decide) (by decide) H3.out (by omega) G3.out Q4.out (by omega)
    · go_wp2_with fail
      go_ret
      exact sys_lit [1, 10, 100, 1000] (by decide) (by decide) H2.out (by omega) G2.out
  · go_wp2_with fail
    go_ret
    exact sys_lit [1, 10, 100, 1000] (by decide) (by decide) H1.out (by omega) G1.out
end Go.Proofs.Ytbepcmjjgpbgaaa
