/- The draws of chapter 4 (package spec): lists. -/
import Derived.Test.YtejhiilkbckobaaBE
import Derived.Test.YtejhiilkbckobaaDs
import Derived.Test.YtejhiilkbckobaaCU
namespace Go.Proofs.Ytejhiilkbckobaa
open Go.RowKit
set_option linter.unusedVariables false
set_option maxRecDepth 100000
/-- a list that is drawn: at most six numbers, none great -/
def DrewL (w w' : World) (e : Ending) : Prop :=
  ∃ (a : Option Addr) (m c : Nat) (f : Nat → Int), e = .returned (.slice a m c) ∧ Ls w' a m f ∧ m ≤ 6 ∧ (∀ j, j < m → -10 ≤ f j ∧ f j ≤ 200) ∧ Below w.heap.size w w'
theorem ls_blk {w : World} {b : Nat} (l : List Int) (off m : Nat) (h : ∀ k, k < l.length → w.cell? ⟨b, k, none⟩ = some (.int .i64 (l.getD k 0))) (hb : b < w.heap.size) (hm : off + m ≤ l.length) : Ls w (some ⟨b, off, none⟩) m (fun k => l.getD (off + k) 0) :=
  fun k hk => ⟨b, off, rfl, hb, h (off + k) (by omega)⟩
theorem list_bd (l : List Int) (lo hi : Int) (h : ∀ x ∈ l, lo ≤ x ∧ x ≤ hi) (off m : Nat) (hm : off + m ≤ l.length) : ∀ j, j < m → lo ≤ l.getD (off + j) 0 ∧ l.getD (off + j) 0 ≤ hi := fun j hj => by
  rw [List.getD_eq_getElem?_getD, List.getElem?_eq_getElem (by omega)]
  exact h _ (List.getElem_mem _)
theorem drawPlaceFrom_any (a : Option Addr) (len cap : Nat) (zs : List Int) (w : World) (h : IsRow .u8 w a len cap zs) :
    Calls Try.prog 29 #[.slice a len cap] w fun e w' => DrewL w w' e := by
  have H := Lib.hid h; clear h
  go_enter Try.func29, Try.ntmps29
  go_wp2_with fail
  refine (l6Open_any a len cap zs _ H.out).mono ?_
  rintro e w1 ⟨a', l, c, rfl, hr, g1⟩
  have H1 := Lib.hid hr; have G1 := Lib.hid g1; clear hr g1
  go_wp2_with fail
  refine (pick_any _ a' l c 0 _ _ H1.out (by omega) (by omega) (by omega)).mono ?_
  rintro e w2 ⟨x0, hx0, hx0', rfl, hr2, g2⟩
  have H2 := Lib.hid hr2; have G2 := Lib.hid g2; clear hr2 g2
  go_wp2_with fail
  refine (pick_any _ a' l c _ _ _ H2.out (by omega) (by omega) (by omega)).mono ?_
  rintro e w3 ⟨x1, hx1, hx1', rfl, hr3, g3⟩
  have H3 := Lib.hid hr3; have G3 := Lib.hid (grown_trans G2.out g3); clear hr3 g3
  go_wp2_with fail
  refine (pick_any _ a' l c _ _ _ H3.out (by omega) (by omega) (by omega)).mono ?_
  rintro e w4 ⟨x2, hx2, hx2', rfl, hr4, g4⟩
  have H4 := Lib.hid hr4; have G4 := Lib.hid (grown_trans G3.out g4); clear hr4 g4
  go_wp2_with fail
  refine (pick_any _ a' l c _ _ _ H4.out (by omega) (by omega) (by omega)).mono ?_
  rintro e w5 ⟨x3, hx3, hx3', rfl, hr5, g5⟩
  have H5 := Lib.hid hr5; have G5 := Lib.hid (grown_trans G4.out g5); clear hr5 g5
  go_wp2_with fail
  refine (pick_any _ a' l c _ _ _ H5.out (by omega) (by omega) (by omega)).mono ?_
  rintro e w6 ⟨x4, hx4, hx4', rfl, hr6, g6⟩
  have H6 := Lib.hid hr6; have G6 := Lib.hid (grown_trans G5.out g6); clear hr6 g6 H2 H3 H4 H5
  go_wp2_with fail
  have hrl := lt_of_block' H6.out.blk
  refine (pick_any _ a' l c _ _ _ (H6.out.alloc _) (by omega) (by omega) (by omega)).mono ?_
  rintro e w7 ⟨u, hu0, hu1, rfl, hr7, g7⟩
  have G7 := Lib.hid (grown_trans G6.out (grown_trans (World.grownBy_alloc w6 _ (some _)) g7))
  have hblk : w7.heap[w6.heap.size]? = some (.cells ([x0, x1, x2, x3, x4].map (Value.int .i64)).toArray 3 (0, 0)) := by
    rw [g7.block _ (by simp) (by simp; omega)]
    exact heap_alloc_new w6 _
  have hlt := lt_of_block' hblk
  have hbel : Below w.heap.size w w7 := bel_grown G1.out G7.out G1.out.size (Nat.le_refl _)
  have Hbel := Lib.hid hbel
  have hle : w.heap.size ≤ w6.heap.size := by omega
  have hc3 := cell_at (j := 3) hblk rfl
  have hc0 := cell_at (j := 0) hblk rfl
  have hf : ∀ k, w7.frozen? ⟨w6.heap.size, k, none⟩ = false := fun k => by simp [World.frozen?, hblk]
  have hf3 := hf 3; have hf0 := hf 0
  have s3 := Lib.hid (heap_setCell_same w7 w6.heap.size 3 _ _ (.int .i64 18) hblk)
  have s0 := Lib.hid (heap_setCell_same w7 w6.heap.size 0 _ _ (.int .i64 20) hblk)
  have Hblk := Lib.hid hblk
  clear hr7 g7 hblk hf hbel
  by_cases h0 : u = 0
  · subst h0
    go_wp2_with fail
    go_ret
    refine ⟨_, 5, 5, _, rfl, ls_blk [x0, x1, x2, 18, x4] 0 5 (fun k hk => ?_) (by simp [World.setCell]; omega) (by simp), by omega, list_bd _ _ _ (by simp; omega) 0 5 (by simp), Hbel.out.setCell hle _⟩
    exact cell_at s3.out (by rcases (show k = 0 ∨ k = 1 ∨ k = 2 ∨ k = 3 ∨ k = 4 by simp at hk; omega) with rfl | rfl | rfl | rfl | rfl <;> rfl)
  by_cases h1 : u = 1
  · subst h1
    go_wp2_with fail
    go_ret
    refine ⟨_, 5, 5, _, rfl, ls_blk [20, x1, x2, x3, x4] 0 5 (fun k hk => ?_) (by simp [World.setCell]; omega) (by simp), by omega, list_bd _ _ _ (by simp; omega) 0 5 (by simp), Hbel.out.setCell hle _⟩
    exact cell_at s0.out (by rcases (show k = 0 ∨ k = 1 ∨ k = 2 ∨ k = 3 ∨ k = 4 by simp at hk; omega) with rfl | rfl | rfl | rfl | rfl <;> rfl)
  by_cases h2 : u = 2
  · subst h2
    go_wp2_with fail
    go_ret
    refine ⟨_, 4, _, _, rfl, ls_blk [x0, x1, x2, x3, x4] 1 4 (fun k hk => ?_) hlt (by simp), by omega, list_bd _ _ _ (by simp; omega) 1 4 (by simp), Hbel.out⟩
    exact cell_at Hblk.out (by rcases (show k = 0 ∨ k = 1 ∨ k = 2 ∨ k = 3 ∨ k = 4 by simp at hk; omega) with rfl | rfl | rfl | rfl | rfl <;> rfl)
  · have q0 : (u == 0) = false := by rw [beq_eq_false_iff_ne]; exact h0
    have q1 : (u == 1) = false := by rw [beq_eq_false_iff_ne]; exact h1
    have q2 : (u == 2) = false := by rw [beq_eq_false_iff_ne]; exact h2
    clear h0 h1 h2
    go_wp2_with fail
    go_ret
    refine ⟨_, 5, 5, _, rfl, ls_blk [x0, x1, x2, x3, x4] 0 5 (fun k hk => ?_) hlt (by simp), by omega, list_bd _ _ _ (by simp; omega) 0 5 (by simp), Hbel.out⟩
    exact cell_at Hblk.out (by rcases (show k = 0 ∨ k = 1 ∨ k = 2 ∨ k = 3 ∨ k = 4 by simp at hk; omega) with rfl | rfl | rfl | rfl | rfl <;> rfl)
/-- what a draw of places leaves -/
def PlcDrawn (w : World) (r : Nat) (ra : Option Addr) (len cap p : Nat) (e : Ending) (w' : World) : Prop :=
  ∃ (a : Option Addr) (n c : Nat) (f : Nat → Int) (p' : Nat), e = .returned (.slice a n c) ∧ Drn w' r a n f ∧ n ≤ 5 ∧ (∀ j, j < n → 1 ≤ f j ∧ f j ≤ 100) ∧ Rd w' r ra len cap p' ∧ p' ≤ p + 10 ∧ w.grownBy w' (some r)
theorem plc_lit {w w1 : World} {r : Nat} {ra : Option Addr} {len cap p p1 : Nat} (l : List Int) (hl : l.length ≤ 5) (hb : ∀ y ∈ l, 1 ≤ y ∧ y ≤ 100) (h : Rd w1 r ra len cap p1) (hp : p1 ≤ p + 10) (g : w.grownBy w1 (some r)) :
    PlcDrawn w r ra len cap p (.returned (.slice (some ⟨w1.heap.size, 0, none⟩) l.length l.length)) (w1.alloc (.cells (l.map (Value.int .i64)).toArray 3)) := by
  have hr := lt_of_block' h.blk
  refine ⟨_, _, _, _, p1, rfl, Drn.lit w1 r l hr, hl, fun j hj => ?_, h.bel ((Below.refl _ _).alloc (Nat.le_refl _) _), hp, gr_trans g (World.grownBy_alloc w1 _ (some r))⟩
  have e : l.getD j 0 = l[j] := by rw [List.getD_eq_getElem?_getD, List.getElem?_eq_getElem hj]; rfl
  show 1 ≤ l.getD j 0 ∧ l.getD j 0 ≤ 100
  rw [e]
  exact hb _ (List.getElem_mem hj)
theorem plc_own {w w1 : World} {r base : Nat} {ra : Option Addr} {len cap p p1 : Nat} {v : Value} (ys : List Int) (hl : ys.length ≤ 5) (hb : ∀ y ∈ ys, 1 ≤ y ∧ y ≤ 100) (hown : w1.ownsRow base 3 1 v ys.length (ys.map (Value.int .i64))) (hr : r < base)
    (h : Rd w1 r ra len cap p1) (hp : p1 ≤ p + 10) (g : w.grownBy w1 (some r)) : PlcDrawn w r ra len cap p (.returned v) w1 := by
  obtain ⟨a, c, rfl, _, hd⟩ := Drn.of_own hown hr
  refine ⟨a, ys.length, c, _, p1, rfl, hd, hl, fun j hj => ?_, h, hp, g⟩
  have e : ys.getD j 0 = ys[j] := by rw [List.getD_eq_getElem?_getD, List.getElem?_eq_getElem hj]; rfl
  show 1 ≤ ys.getD j 0 ∧ ys.getD j 0 ≤ 100
  rw [e]
  exact hb _ (List.getElem_mem hj)
set_option maxHeartbeats 1000000 in
theorem l92Places_any (r : Nat) (ra : Option Addr) (len cap p : Nat) (w : World) (h : Rd w r ra len cap p) (hp : p ≤ 900000) :
    Calls Try.prog 37 #[.pointer (some ⟨r, 0, none⟩)] w (PlcDrawn w r ra len cap p) := by
  obtain ⟨i0, hi, hz0, hz1, hz2⟩ := info_parts info_int
  have H := Lib.hid h; clear h
  go_enter Try.func37, Try.ntmps37
  go_wp2_with fail
  refine (pick_any r ra len cap p _ _ H.out (by omega) (by omega) (by omega)).mono ?_
  rintro e w1 ⟨x, hx0, hx1, rfl, hr1, g1⟩
  have H1 := Lib.hid hr1; have G1 := Lib.hid g1; clear hr1 g1
  by_cases h0 : x = 0
  · subst h0
    go_wp2_with fail
    go_ret
    exact plc_lit [7, 24, 60, 60] (by decide) (by decide) H1.out (by omega) G1.out
  by_cases h1 : x = 1
  · subst h1
    go_wp2_with fail
    go_ret
    exact plc_lit [20, 12, 4] (by decide) (by decide) H1.out (by omega) G1.out
  by_cases h2 : x = 2
  · subst h2
    go_wp2_with fail
    go_ret
    exact plc_lit [100, 100, 100] (by decide) (by decide) H1.out (by omega) G1.out
  have q0 : (x == 0) = false := by rw [beq_eq_false_iff_ne]; exact h0
  have q1 : (x == 1) = false := by rw [beq_eq_false_iff_ne]; exact h1
  have q2 : (x == 2) = false := by rw [beq_eq_false_iff_ne]; exact h2
  clear h0 h1 h2
  have hrw := lt_of_block' H1.out.blk
  have Ho0 : Hid ((w1.alloc (.cells #[] 3)).ownsRow w1.heap.size 3 1 (.slice (some ⟨w1.heap.size, 0, none⟩) 0 0) 0 []) := World.ownsRow_lit w1 #[] 0 (Nat.le_refl _) (by decide) rfl
  have H1a := Lib.hid (H1.out.bel ((Below.refl _ _).alloc (Nat.le_refl _) (.cells #[] 3)))
  have G1a := Lib.hid (gr_trans G1.out (World.grownBy_alloc w1 (.cells #[] 3) (some r)))
  go_wp2_with fail
  refine (pick_any r ra len cap _ _ _ H1a.out (by omega) (by omega) (by omega)).mono ?_
  rintro e w2 ⟨n, hn0, hn1, rfl, hr2, g2⟩
  have Ho2 : Hid (w2.ownsRow w1.heap.size 3 1 (.slice (some ⟨w1.heap.size, 0, none⟩) 0 0) 0 []) := Ho0.out.kept g2 (by simp [Value.ownBlock]; omega)
  have hsz2 : w1.heap.size ≤ w2.heap.size := by have := g2.size; simp at this; omega
  have H2 := Lib.hid hr2; have G2 := Lib.hid (gr_trans G1a.out g2)
  clear hr2 g2 Ho0 H1a G1a
  go_wp2_with fail
  go_loopw [3, 5] (fun v i wr => ∃ (k p' g cap2 : Nat) (ys : List Int), i = .int .i64 k ∧ (k : Int) ≤ 1 + n ∧ v = .slice (some ⟨g, 0, none⟩) k cap2 ∧ ys.length = k ∧ wr.ownsRow w1.heap.size 3 1 (.slice (some ⟨g, 0, none⟩) k cap2) k (ys.map (Value.int .i64)) ∧
      (∀ y ∈ ys, 1 ≤ y ∧ y ≤ 100) ∧ Rd wr r ra len cap p' ∧ p' = p + 2 + k ∧ w.grownBy wr (some r) ∧ w1.heap.size ≤ wr.heap.size) (fun _ i _ => 8 - (intOf i).toNat)
  case atStart => exact ⟨0, p + 2, _, _, [], rfl, by omega, rfl, rfl, Ho2.out, by simp, H2.out, rfl, G2.out, hsz2⟩
  case round =>
    have Hww : Hid (w.heap.size ≤ w1.heap.size) := Lib.hid G1.out.size
    clear Ho2 H2 G2 H1 G1 hsz2
    obtain ⟨k, p', g, cap2, ys, rfl, hk, rfl, hlen, hown, hbd, hrd, hp', hgr, hszr⟩ := hrel
    obtain ⟨f1, f2, f3⟩ := own_form hown
    have Hlen := Lib.hid hlen; have Hown := Lib.hid hown; have Hbd := Lib.hid hbd; have Hrd := Lib.hid hrd; have Hp' := Lib.hid hp'; have Hgr := Lib.hid hgr
    have hp9 : p' ≤ 900010 := by omega
    have hrow : Hid (∀ b, (Value.slice (some ⟨g, 0, none⟩) k cap2).ownBlock = some b → g = b) := fun b hb => by simpa [Value.ownBlock] using hb
    have hgr' : some g ≠ some r := by simp; omega
    have Hgr' := Lib.hid hgr'
    clear hlen hown hbd hrd hp' hgr hgr'
    by_cases hlt : (k : Int) < 1 + n
    · go_wp2_with fail
      refine (pick_any r ra len cap p' _ _ Hrd.out (by omega) (by omega) (by omega)).mono ?_
      rintro e w3 ⟨x, hx0, hx1, rfl, hr3, g3⟩
      have HO3 : Hid ((w3.alloc (.cells #[.int .i64 (2 + x)] 3)).ownsRow w1.heap.size 3 1 (.slice (some ⟨g, 0, none⟩) k cap2) k (ys.map (Value.int .i64))) := (Hown.out.kept g3 (.inr Hgr'.out)).alloc _
      have hs3 := g3.size
      have H3 := Lib.hid hr3; have G3 := Lib.hid (gr_trans Hgr.out g3)
      clear hr3 g3
      have hb3 : w1.heap.size ≤ (w3.alloc (.cells #[.int .i64 (2 + x)] 3)).heap.size := by simp; omega
      have Hb3 := Lib.hid hb3
      have Hw1 : Hid (w.heap.size ≤ g) := Lib.hid (by have := Hww.out; omega)
      clear hb3
      go_wp2_with (at_builtin; refine wpList_append_own _ rfl _ _ 24 rfl w1.heap.size 3 i0 (.int .i64 0) 1 8 Try.underlying24 hi hz0 hz1 hz2 rfl (by decide) _ k _ rfl HO3.out ⟨w3.heap.size, 0, none⟩ 1 1 [.int .i64 (2 + x)] rfl rfl (one_news (heap_alloc_new w3 _)) one_cell (by unfold maxLen; omega) (by omega) Hb3.out ?_
                   intro v' w4 hown4 hg4 _
                   obtain ⟨g', cap', rfl, hb', _⟩ := hown4.form (by omega)
                   have HO4 : Hid (w4.ownsRow w1.heap.size 3 1 (.slice (some ⟨g', 0, none⟩) (k + 1) cap') (k + 1) ((ys ++ [2 + x]).map (Value.int .i64))) := by (have e1 : ys.map (Value.int .i64) ++ [.int .i64 (2 + x)] = (ys ++ [2 + x]).map (Value.int .i64) := by simp); rw [e1] at hown4; exact hown4
                   have HR4 : Hid (Rd w4 r ra len cap (p' + 1)) := (H3.out.bel ((Below.refl _ _).alloc (Nat.le_refl _) _)).own hg4 (fun b hb => by have := hrow.out b hb; omega)
                   have HG4 : Hid (w.grownBy w4 (some r)) := gr_own (gr_trans G3.out (World.grownBy_alloc w3 _ (some r))) hg4 (fun b hb => by have := hrow.out b hb; have := Hw1.out; omega)
                   have HS4 : Hid (w1.heap.size ≤ w4.heap.size) := by have := hg4.size; simp at this; show _ ≤ _; omega
                   clear hown4 hg4 hb')
      go_roundw
      case rel => exact ⟨k + 1, p' + 1, g', cap', ys ++ [2 + x], by go_num, by omega, rfl, by simp [Hlen.out], HO4.out, fun y hy => by { rcases List.mem_append.1 hy with h | h; · { exact Hbd.out y h }; · { simp at h; subst h; omega } }, HR4.out, by have := Hp'.out; omega, HG4.out, HS4.out⟩
      case measure => simp [intOf]; omega
    · go_wp2_with fail
      refine (pick_any r ra len cap p' _ _ Hrd.out (by omega) (by omega) (by omega)).mono ?_
      rintro e w3 ⟨x, hx0, hx1, rfl, hr3, g3⟩
      have hs3 := g3.size
      have HO2 : Hid (w3.ownsRow w1.heap.size 3 1 (.slice (some ⟨g, 0, none⟩) k cap2) k (ys.map (Value.int .i64))) := Hown.out.kept g3 (.inr Hgr'.out)
      have H3 := Lib.hid hr3; have G3 := Lib.hid (gr_trans Hgr.out g3)
      clear hr3 g3
      by_cases h0 : x = 0
      · subst h0
        have HO3 : Hid ((w3.alloc (.cells #[.int .i64 1] 3)).ownsRow w1.heap.size 3 1 (.slice (some ⟨g, 0, none⟩) k cap2) k (ys.map (Value.int .i64))) := HO2.out.alloc _
        have Hb3 : Hid (w1.heap.size ≤ (w3.alloc (.cells #[.int .i64 1] 3)).heap.size) := by show _ ≤ _; simp; omega
        have Hw1 : Hid (w.heap.size ≤ g) := Lib.hid (by have := Hww.out; omega)
        go_wp2_with (at_builtin; refine wpList_append_own _ rfl _ _ 24 rfl w1.heap.size 3 i0 (.int .i64 0) 1 8 Try.underlying24 hi hz0 hz1 hz2 rfl (by decide) _ k _ rfl HO3.out ⟨w3.heap.size, 0, none⟩ 1 1 [.int .i64 1] rfl rfl (one_news (heap_alloc_new w3 _)) one_cell (by unfold maxLen; omega) (by omega) Hb3.out ?_
                     intro v' w4 hown4 hg4 _
                     have HO4 : Hid (w4.ownsRow w1.heap.size 3 1 v' (ys ++ [1]).length ((ys ++ [1]).map (Value.int .i64))) := by (have e1 : ys.map (Value.int .i64) ++ [.int .i64 1] = (ys ++ [1]).map (Value.int .i64) := by simp); rw [e1] at hown4; (have e2 : (ys ++ [1]).length = k + 1 := by simp [Hlen.out]); rw [e2]; exact hown4
                     have HR4 : Hid (Rd w4 r ra len cap (p' + 1)) := (H3.out.bel ((Below.refl _ _).alloc (Nat.le_refl _) _)).own hg4 (fun b hb => by have := hrow.out b hb; omega)
                     have HG4 : Hid (w.grownBy w4 (some r)) := gr_own (gr_trans G3.out (World.grownBy_alloc w3 _ (some r))) hg4 (fun b hb => by have := hrow.out b hb; have := Hw1.out; omega)
                     clear hown4 hg4)
        go_ret
        exact plc_own (ys ++ [1]) (by simp [Hlen.out]; omega) (fun y hy => by { rcases List.mem_append.1 hy with h | h; · { exact Hbd.out y h }; · { simp at h; subst h; omega } }) HO4.out hrw HR4.out (by have := Hp'.out; omega) HG4.out
      · have q : (x == 0) = false := by rw [beq_eq_false_iff_ne]; exact h0
        have HO4 : Hid (w3.ownsRow w1.heap.size 3 1 (.slice (some ⟨g, 0, none⟩) k cap2) ys.length (ys.map (Value.int .i64))) := by show World.ownsRow _ _ _ _ _ _ _; rw [Hlen.out]; exact HO2.out
        clear h0
        go_wp2_with fail
        go_ret
        exact plc_own ys (by rw [Hlen.out]; omega) Hbd.out HO4.out hrw H3.out (by have := Hp'.out; omega) G3.out
end Go.Proofs.Ytejhiilkbckobaa
