/- The draws of chapter 2 (package spec): l91Pile. -/
import Derived.Test.YtbepcmjjgpbgaaaBD
namespace Go.Proofs.Ytbepcmjjgpbgaaa
open Go.RowKit
set_option linter.unusedVariables false
set_option maxRecDepth 100000
/-- what a draw of a pile leaves -/
def PilDrawn (w : World) (r : Nat) (ra : Option Addr) (len cap p : Nat) (e : Ending) (w' : World) : Prop :=
  ∃ (a : Option Addr) (n c : Nat) (f : Nat → Int) (p' : Nat), e = .returned (.slice a n c) ∧ Drn w' r a n f ∧ n ≤ 7 ∧ (∀ j, j < n → -1 ≤ f j ∧ f j ≤ 2000000) ∧ Rd w' r ra len cap p' ∧ p' ≤ p + 10 ∧ w.grownBy w' (some r)
theorem own_form {w : World} {base g n cap : Nat} {xs : List Value} (h : w.ownsRow base 3 1 (.slice (some ⟨g, 0, none⟩) n cap) n xs) : base ≤ g ∧ n ≤ cap ∧ g < w.heap.size := by
  rcases h.2 with ⟨he, _⟩ | ⟨g', cap', cur, he, hb, hg, hc1, hc2, hc3, htk⟩
  · cases he
  · injection he with e1 e2 e3
    injection e1 with e4
    injection e4 with e5
    have := lt_of_block' hg
    exact ⟨by omega, by omega, by omega⟩
theorem pil_own {w w1 : World} {r base : Nat} {ra : Option Addr} {len cap p p1 : Nat} {v : Value} (ys : List Int) (hl : ys.length ≤ 7) (hb : ∀ y ∈ ys, -1 ≤ y ∧ y ≤ 2000000) (hown : w1.ownsRow base 3 1 v ys.length (ys.map (Value.int .i64))) (hr : r < base)
    (h : Rd w1 r ra len cap p1) (hp : p1 ≤ p + 10) (g : w.grownBy w1 (some r)) : PilDrawn w r ra len cap p (.returned v) w1 := by
  obtain ⟨a, c, rfl, _, hd⟩ := Drn.of_own hown hr
  refine ⟨a, ys.length, c, _, p1, rfl, hd, hl, fun j hj => ?_, h, hp, g⟩
  have e : ys.getD j 0 = ys[j] := by rw [List.getD_eq_getElem?_getD, List.getElem?_eq_getElem hj]; rfl
  show -1 ≤ ys.getD j 0 ∧ ys.getD j 0 ≤ 2000000
  rw [e]
  exact hb _ (List.getElem_mem hj)
theorem own_news {w : World} {base g cap : Nat} {ys : List Int} (h : w.ownsRow base 3 1 (.slice (some ⟨g, 0, none⟩) ys.length cap) ys.length (ys.map (Value.int .i64))) : ∀ j u, (ys.map (Value.int .i64))[j]? = some u → w.cell? ((⟨g, 0, none⟩ : Addr).add j) = some u := by
  intro j u hu
  exact h.cells (g := g) rfl j u hu
theorem ints_cell (ys : List Int) : ∀ u ∈ ys.map (Value.int .i64), u.oneCell' = true := by intro u hu; obtain ⟨y, _, rfl⟩ := List.mem_map.1 hu; rfl
set_option maxHeartbeats 1000000 in
theorem l91Pile_any (r : Nat) (ra : Option Addr) (len cap p : Nat) (a : Option Addr) (n c : Nat) (w : World) (h : Rd w r ra len cap p) (hp : p ≤ 900000) (hn : n ≤ 6) :
    Calls Try.prog 68 #[.pointer (some ⟨r, 0, none⟩), .slice a n c] w (PilDrawn w r ra len cap p) := by
  obtain ⟨i0, hi, hz0, hz1, hz2⟩ := info_parts info_int
  have hrw := lt_of_block' h.blk
  have hown0 : (w.alloc (.cells #[] 3)).ownsRow w.heap.size 3 1 (.slice (some ⟨w.heap.size, 0, none⟩) 0 0) 0 [] := World.ownsRow_lit w #[] 0 (Nat.le_refl _) (by decide) rfl
  have Ho0 := Lib.hid hown0
  have H0 := Lib.hid (h.bel ((Below.refl _ _).alloc (Nat.le_refl _) (.cells #[] 3)))
  have G0 := Lib.hid (World.grownBy_alloc w (.cells #[] 3) (some r))
  clear h hown0
  go_enter Try.func68, Try.ntmps68
  go_wp2_with fail
  go_loopw [5, 6] (fun v i wr => ∃ (k p' g cap2 : Nat) (ys : List Int), i = .int .i64 k ∧ k ≤ n ∧ v = .slice (some ⟨g, 0, none⟩) k cap2 ∧ ys.length = k ∧ wr.ownsRow w.heap.size 3 1 (.slice (some ⟨g, 0, none⟩) k cap2) k (ys.map (Value.int .i64)) ∧
      (∀ y ∈ ys, -1 ≤ y ∧ y ≤ 2000000) ∧ Rd wr r ra len cap p' ∧ p' = p + k ∧ w.grownBy wr (some r)) (fun _ i _ => n - (intOf i).toNat)
  case atStart => exact ⟨0, p, _, _, [], rfl, by omega, rfl, rfl, Ho0.out, by simp, H0.out, rfl, G0.out⟩
  case round =>
    clear Ho0 H0 G0
    obtain ⟨k, p', g, cap2, ys, rfl, hk, rfl, hlen, hown, hbd, hrd, hp', hgr⟩ := hrel
    obtain ⟨f1, f2, f3⟩ := own_form hown
    have Hlen := Lib.hid hlen; have Hown := Lib.hid hown; have Hbd := Lib.hid hbd; have Hrd := Lib.hid hrd; have Hp' := Lib.hid hp'; have Hgr := Lib.hid hgr
    have hp9 : p' ≤ 900010 := by omega
    have hrow : Hid (∀ b, (Value.slice (some ⟨g, 0, none⟩) k cap2).ownBlock = some b → g = b) := fun b hb => by simpa [Value.ownBlock] using hb
    have hgr' : some g ≠ some r := by simp; omega
    have Hgr' := Lib.hid hgr'
    clear hlen hown hbd hrd hp' hgr hgr'
    have hszr := Hgr.out.size
    by_cases hlt : k < n
    · go_wp2_with fail
      refine (pick_any r ra len cap p' _ _ Hrd.out (by omega) (by omega) (by omega)).mono ?_
      rintro e w3 ⟨x, hx0, hx1, rfl, hr3, g3⟩
      have HO3 : Hid ((w3.alloc (.cells #[.int .i64 x] 3)).ownsRow w.heap.size 3 1 (.slice (some ⟨g, 0, none⟩) k cap2) k (ys.map (Value.int .i64))) := (Hown.out.kept g3 (.inr Hgr'.out)).alloc _
      have hs3 := g3.size
      have H3 := Lib.hid hr3; have G3 := Lib.hid (gr_trans Hgr.out g3)
      clear hr3 g3
      have hb3 : w.heap.size ≤ (w3.alloc (.cells #[.int .i64 x] 3)).heap.size := by simp; omega
      have Hb3 := Lib.hid hb3
      clear hb3
      go_wp2_with (at_builtin; refine wpList_append_own _ rfl _ _ 23 rfl w.heap.size 3 i0 (.int .i64 0) 1 8 Try.underlying23 hi hz0 hz1 hz2 rfl (by decide) _ k _ rfl HO3.out ⟨w3.heap.size, 0, none⟩ 1 1 [.int .i64 x] rfl rfl (one_news (heap_alloc_new w3 _)) one_cell (by unfold maxLen; omega) (by omega) Hb3.out ?_
                   intro v' w4 hown4 hg4 _
                   obtain ⟨g', cap', rfl, hb', _⟩ := hown4.form (by omega)
                   have HO4 : Hid (w4.ownsRow w.heap.size 3 1 (.slice (some ⟨g', 0, none⟩) (k + 1) cap') (k + 1) ((ys ++ [x]).map (Value.int .i64))) := by (have e1 : ys.map (Value.int .i64) ++ [.int .i64 x] = (ys ++ [x]).map (Value.int .i64) := by simp); rw [e1] at hown4; exact hown4
                   have HR4 : Hid (Rd w4 r ra len cap (p' + 1)) := (H3.out.bel ((Below.refl _ _).alloc (Nat.le_refl _) _)).own hg4 (fun b hb => by have := hrow.out b hb; omega)
                   have HG4 : Hid (w.grownBy w4 (some r)) := gr_own (gr_trans G3.out (World.grownBy_alloc w3 _ (some r))) hg4 (fun b hb => by have := hrow.out b hb; omega)
                   clear hown4 hg4 hb')
      go_roundw
      case rel => exact ⟨k + 1, p' + 1, g', cap', ys ++ [x], by go_num, by omega, rfl, by simp [Hlen.out], HO4.out, fun y hy => by { rcases List.mem_append.1 hy with h | h; · { exact Hbd.out y h }; · { simp at h; subst h; omega } }, HR4.out, by have := Hp'.out; omega, HG4.out⟩
      case measure => simp [intOf]; omega
    · obtain rfl : k = n := by omega
      go_wp2_with fail
      refine (pick_any r ra len cap p' _ _ Hrd.out (by omega) (by omega) (by omega)).mono ?_
      rintro e w3 ⟨x, hx0, hx1, rfl, hr3, g3⟩
      have hs3 := g3.size
      have HO2 : Hid (w3.ownsRow w.heap.size 3 1 (.slice (some ⟨g, 0, none⟩) k cap2) k (ys.map (Value.int .i64))) := Hown.out.kept g3 (.inr Hgr'.out)
      have H3 := Lib.hid hr3; have G3 := Lib.hid (gr_trans Hgr.out g3)
      clear hr3 g3
      by_cases h0 : x = 0
      · subst h0
        have HO3 : Hid ((w3.alloc (.cells #[.int .i64 1] 3)).ownsRow w.heap.size 3 1 (.slice (some ⟨g, 0, none⟩) k cap2) k (ys.map (Value.int .i64))) := HO2.out.alloc _
        have Hb3 : Hid (w.heap.size ≤ (w3.alloc (.cells #[.int .i64 1] 3)).heap.size) := by show _ ≤ _; simp; omega
        go_wp2_with (at_builtin; refine wpList_append_own _ rfl _ _ 23 rfl w.heap.size 3 i0 (.int .i64 0) 1 8 Try.underlying23 hi hz0 hz1 hz2 rfl (by decide) _ k _ rfl HO3.out ⟨w3.heap.size, 0, none⟩ 1 1 [.int .i64 1] rfl rfl (one_news (heap_alloc_new w3 _)) one_cell (by unfold maxLen; omega) (by omega) Hb3.out ?_
                     intro v' w4 hown4 hg4 _
                     have HO4 : Hid (w4.ownsRow w.heap.size 3 1 v' (ys ++ [1]).length ((ys ++ [1]).map (Value.int .i64))) := by (have e1 : ys.map (Value.int .i64) ++ [.int .i64 1] = (ys ++ [1]).map (Value.int .i64) := by simp); rw [e1] at hown4; (have e2 : (ys ++ [1]).length = k + 1 := by simp [Hlen.out]); rw [e2]; exact hown4
                     have HR4 : Hid (Rd w4 r ra len cap (p' + 1)) := (H3.out.bel ((Below.refl _ _).alloc (Nat.le_refl _) _)).own hg4 (fun b hb => by have := hrow.out b hb; omega)
                     have HG4 : Hid (w.grownBy w4 (some r)) := gr_own (gr_trans G3.out (World.grownBy_alloc w3 _ (some r))) hg4 (fun b hb => by have := hrow.out b hb; omega)
                     clear hown4 hg4)
        go_ret
        exact pil_own (ys ++ [1]) (by simp [Hlen.out]; omega) (fun y hy => by { rcases List.mem_append.1 hy with h | h; · { exact Hbd.out y h }; · { simp at h; subst h; omega } }) HO4.out hrw HR4.out (by have := Hp'.out; omega) HG4.out
      by_cases h1 : x = 1
      · subst h1
        have HO3 : Hid ((w3.alloc (.cells #[.int .i64 (-1)] 3)).ownsRow w3.heap.size 3 1 (.slice (some ⟨w3.heap.size, 0, none⟩) 1 1) 1 [.int .i64 (-1)]) := World.ownsRow_lit w3 #[.int .i64 (-1)] 1 (Nat.le_refl _) (by decide) rfl
        have HS3 : Hid ((w3.alloc (.cells #[.int .i64 (-1)] 3)).ownsRow w.heap.size 3 1 (.slice (some ⟨g, 0, none⟩) ys.length cap2) ys.length (ys.map (Value.int .i64))) := by show World.ownsRow _ _ _ _ _ _ _; rw [Hlen.out]; exact HO2.out.alloc _
        have Hrow3 : Hid (∀ b, (Value.slice (some ⟨w3.heap.size, 0, none⟩) 1 1).ownBlock = some b → w3.heap.size = b) := fun b hb => by simpa [Value.ownBlock] using hb
        obtain rfl : ys.length = k := Hlen.out
        go_wp2_with (at_builtin
                     refine wpList_append_own _ rfl _ _ 23 rfl w3.heap.size 3 i0 (.int .i64 0) 1 8 Try.underlying23 hi hz0 hz1 hz2 rfl (by decide) _ 1 _ rfl HO3.out ⟨g, 0, none⟩ ys.length cap2 (ys.map (Value.int .i64)) rfl (by simp) (own_news HS3.out) (ints_cell ys) (by unfold maxLen; omega) (by omega) (by simp) ?_
                     intro v' w4 hown4 hg4 _
                     obtain ⟨g', cap', rfl, hb', _⟩ := hown4.form (by omega)
                     obtain ⟨q1, q2, q3⟩ := own_form hown4
                     have HO4 : Hid (w4.ownsRow w3.heap.size 3 1 (.slice (some ⟨g', 0, none⟩) (1 + ys.length) cap') (-1 :: ys).length ((-1 :: ys).map (Value.int .i64))) := by (have e2 : (-1 :: ys).length = 1 + ys.length := by simp; omega); rw [e2]; exact hown4
                     have HR4 : Hid (Rd w4 r ra len cap (p' + 1)) := (H3.out.bel ((Below.refl _ _).alloc (Nat.le_refl _) _)).own hg4 (fun b hb => by have := Hrow3.out b hb; omega)
                     have HG4 : Hid (w.grownBy w4 (some r)) := gr_own (gr_trans G3.out (World.grownBy_alloc w3 _ (some r))) hg4 (fun b hb => by have := Hrow3.out b hb; omega)
                     clear hown4 hg4 hb')
        go_ret
        obtain ⟨a', c', he, _, hd⟩ := Drn.of_own HO4.out (by omega : r < w3.heap.size)
        refine ⟨_, ys.length, _, fun j => (-1 :: ys).getD j 0, p' + 1, rfl, fun j hj => ?_, by omega, fun j hj => ?_, HR4.out, by have := Hp'.out; omega, HG4.out⟩
        · obtain ⟨b, off, e1, h1, h2, h3⟩ := hd j (by simp; omega)
          have e4 : a' = some ⟨g', 0, none⟩ := by injection he with e3; exact e3.symm
          exact ⟨b, off, by rw [← e4]; exact e1, h1, h2, h3⟩
        · have hmem : ∀ y ∈ (-1 :: ys), -1 ≤ y ∧ y ≤ 2000000 := fun y hy => by rcases List.mem_cons.1 hy with rfl | h; · { omega }; · { exact Hbd.out y h }
          have hj' : j < (-1 :: ys).length := by simp; omega
          have e : (-1 :: ys).getD j 0 = (-1 :: ys)[j] := by rw [List.getD_eq_getElem?_getD, List.getElem?_eq_getElem hj']; rfl
          show -1 ≤ (-1 :: ys).getD j 0 ∧ (-1 :: ys).getD j 0 ≤ 2000000
          rw [e]
          exact hmem _ (List.getElem_mem hj')
      · go_wp2_with fail
        go_ret
        exact pil_own ys (by have := Hlen.out; omega) Hbd.out (by rw [Hlen.out]; exact HO2.out) hrw H3.out (by have := Hp'.out; omega) G3.out
end Go.Proofs.Ytbepcmjjgpbgaaa
