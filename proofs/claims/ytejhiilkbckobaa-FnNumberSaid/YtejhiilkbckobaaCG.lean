/- The draws of chapter 4 (package spec): DrawPlaceDigits, DrawPlaceNumber. -/
import Derived.Test.YtejhiilkbckobaaCF
namespace Go.Proofs.Ytejhiilkbckobaa
open Go.RowKit
set_option linter.unusedVariables false
set_option maxRecDepth 100000
theorem mul_bd2 (x y A B : Int) (h0 : 0 ≤ x) (h1 : x ≤ A) (g0 : 0 ≤ y) (g1 : y ≤ B) : 0 ≤ x * y ∧ x * y ≤ A * B :=
  ⟨Int.mul_nonneg h0 g0, Int.mul_le_mul h1 g1 g0 (by omega)⟩
theorem drawPlaceDigits_any (a : Option Addr) (len cap : Nat) (zs : List Int) (w : World) (h : IsRow .u8 w a len cap zs) :
    Calls Try.prog 17 #[.slice a len cap] w fun e w' => ∃ (b : Option Addr) (m c : Nat) (f : Nat → Int) (N : Int), e = .returned (.tuple #[.slice b m c, .int .i64 N]) ∧ Ls w' b m f ∧ m ≤ 5 ∧ (∀ j, j < m → 1 ≤ f j ∧ f j ≤ 100) ∧ -10 ≤ N ∧ N ≤ 10000 ∧ Below w.heap.size w w' := by
  have H := Lib.hid h; clear h
  go_enter Try.func17, Try.ntmps17
  go_wp2_with fail
  refine (l6Open_any a len cap zs _ H.out).mono ?_
  rintro e w1 ⟨a', l, c, rfl, hr, g1⟩
  have H1 := Lib.hid hr; have G1 := Lib.hid g1; clear hr g1
  go_wp2_with fail
  refine (l92Places_any _ a' l c 0 _ H1.out (by omega)).mono ?_
  rintro e w2 ⟨pa, pn, pc, f, p', rfl, hd, hn, hf, hr2, hp', g2⟩
  have H2 := Lib.hid hr2; have G2 := Lib.hid g2; have D2 := Lib.hid hd; have F := Lib.hid hf; clear hr2 g2 hd hf
  go_wp2_with fail
  refine (pick_any _ a' l c p' _ _ H2.out (by omega) (by omega) (by omega)).mono ?_
  rintro e w3 ⟨x, hx0, hx1, rfl, hr3, g3⟩
  have H3 := Lib.hid hr3; have G3 := Lib.hid (gr_trans G2.out g3); have D3 := Lib.hid (D2.out.gr g3); clear hr3 g3
  go_wp2_with fail
  refine (pick_any _ a' l c _ _ _ H3.out (by omega) (by omega) (by omega)).mono ?_
  rintro e w4 ⟨y, hy0, hy1, rfl, hr4, g4⟩
  have H4 := Lib.hid hr4; have G4 := Lib.hid (gr_trans G3.out g4); have D4 := Lib.hid (D3.out.gr g4); clear hr4 g4
  have hm := mul_bd2 x (1 + y) 199 20 hx0 (by omega) (by omega) (by omega)
  have hw : IntKind.i64.wrap (x * (1 + y)) = x * (1 + y) := IntWalk.i64_in _ (by omega)
  generalize hz : x * (1 + y) = z at *
  go_wp2_with fail
  refine (pick_any _ a' l c _ _ _ H4.out (by omega) (by omega) (by omega)).mono ?_
  rintro e w5 ⟨u, hu0, hu1, rfl, hr5, g5⟩
  have G5 := Lib.hid (gr_trans G4.out g5); have D5 := Lib.hid (D4.out.gr g5); clear hr5 g5
  go_wp2_with fail
  go_ret2
  exact ⟨pa, pn, pc, f, _, rfl, D5.out.ls, hn, F.out, by omega, by omega, bel_grown G1.out G5.out G1.out.size (Nat.le_refl _)⟩
set_option maxHeartbeats 1000000 in
theorem drawPlaceNumber_any (a : Option Addr) (len cap : Nat) (zs : List Int) (w : World) (h : IsRow .u8 w a len cap zs) :
    Calls Try.prog 30 #[.slice a len cap] w fun e w' => ∃ (b d : Option Addr) (m k c c' : Nat) (f g : Nat → Int), e = .returned (.tuple #[.slice b m c, .slice d k c']) ∧ Ls w' b m f ∧ Ls w' d k g ∧ m ≤ 5 ∧ k ≤ 6 ∧ Below w.heap.size w w' := by
  obtain ⟨i0, hi, hz0, hz1, hz2⟩ := info_parts info_int
  have H := Lib.hid h; clear h
  go_enter Try.func30, Try.ntmps30
  go_wp2_with fail
  refine (l6Open_any a len cap zs _ H.out).mono ?_
  rintro e w1 ⟨a', l, c, rfl, hr, g1⟩
  have H1 := Lib.hid hr; have G1 := Lib.hid g1; clear hr g1
  go_wp2_with fail
  refine (l92Places_any _ a' l c 0 _ H1.out (by omega)).mono ?_
  rintro e w2 ⟨pa, pn, pc, f, p', rfl, hd, hn, hf, hr2, hp', g2⟩
  have H2 := Lib.hid hr2; have G2 := Lib.hid g2; have D2 := Lib.hid hd; have F := Lib.hid hf; clear hr2 g2 hd hf
  have hrw := lt_of_block' H2.out.blk
  have Ho0 : Hid ((w2.alloc (.cells #[] 3)).ownsRow w2.heap.size 3 1 (.slice (some ⟨w2.heap.size, 0, none⟩) 0 0) 0 []) := World.ownsRow_lit w2 #[] 0 (Nat.le_refl _) (by decide) rfl
  have H2a := Lib.hid (H2.out.bel ((Below.refl _ _).alloc (Nat.le_refl _) (.cells #[] 3)))
  have G2a := Lib.hid (World.grownBy_alloc w2 (.cells #[] 3) (some w.heap.size))
  have Hww : Hid (w1.heap.size ≤ w2.heap.size) := Lib.hid G2.out.size
  have hw12 : w.heap.size ≤ w1.heap.size := G1.out.size
  have Hp := Lib.hid hp'; clear hp'
  go_wp2_with fail
  go_loopw [6, 7] (fun v i wr => ∃ (k q g cap2 : Nat) (ys : List Int), i = .int .i64 k ∧ k ≤ pn ∧ v = .slice (some ⟨g, 0, none⟩) k cap2 ∧ ys.length = k ∧ wr.ownsRow w2.heap.size 3 1 (.slice (some ⟨g, 0, none⟩) k cap2) k (ys.map (Value.int .i64)) ∧
      Rd wr w.heap.size a' l c q ∧ q = p' + 2 * k ∧ w2.grownBy wr (some w.heap.size) ∧ w2.heap.size ≤ wr.heap.size) (fun _ i _ => 8 - (intOf i).toNat)
  case atStart => exact ⟨0, p', _, _, [], rfl, by omega, rfl, rfl, Ho0.out, H2a.out, rfl, G2a.out, by simp⟩
  case round =>
    clear Ho0 H2 H1 H2a G2a
    obtain ⟨k, q, g, cap2, ys, rfl, hk, rfl, hlen, hown, hrd, hq, hgr, hszr⟩ := hrel
    have hdr := D2.out.gr hgr
    obtain ⟨f1, f2, f3⟩ := own_form hown
    have hq9 : q ≤ 900010 := by have := Hp.out; omega
    have Hlen := Lib.hid hlen; have Hown := Lib.hid hown; have Hrd := Lib.hid hrd; have Hq := Lib.hid hq; have Hgr := Lib.hid hgr; have Hdr := Lib.hid hdr
    have hrow : Hid (∀ b, (Value.slice (some ⟨g, 0, none⟩) k cap2).ownBlock = some b → g = b) := fun b hb => by simpa [Value.ownBlock] using hb
    have hgr' : some g ≠ some w.heap.size := by simp; omega
    have Hgr' := Lib.hid hgr'
    clear hlen hown hrd hq hgr hgr' hdr
    by_cases hlt : k < pn
    · obtain ⟨fk0, fk1⟩ := F.out k hlt
      obtain ⟨b1, o1, rfl, hb1, hb2, hc⟩ := Hdr.out k hlt
      have HrdD : Hid (Rd wr.drew w.heap.size a' l c q) := Hrd.out.bel (Below.refl _ _).drew
      have HownD : Hid (wr.drew.ownsRow w2.heap.size 3 1 (.slice (some ⟨g, 0, none⟩) k cap2) k (ys.map (Value.int .i64))) := Hown.out.drew
      have HbB : Hid (b1 < wr.heap.size ∧ b1 ≠ w.heap.size) := Lib.hid ⟨hb1, hb2⟩
      have hfk : IntKind.i64.wrap (f k) = f k := IntWalk.i64_in _ (by omega)
      generalize f k = y at *
      go_wp2_with fail
      go_region_law (first
        | (refine step_append_own rfl (.tmp 19) (.tmp 30) 24 rfl w2.heap.size 3 i0 (.int .i64 0) 1 8 Try.underlying24 hi hz0 hz1 hz2 rfl (by decide) _ k _ rfl (HO4.out.alloc _) ⟨w4.heap.size, 0, none⟩ 1 1 [.int .i64 t] rfl rfl (one_news (heap_alloc_new w4 _)) one_cell (by unfold maxLen; omega) (by omega) hb4 ?_
           intro v' w5 hown5 hg5)
        | (go_simp
           go_at_call 32
           refine (pick_any w.heap.size a' l c (q + 1) (y + z) w3 H3.out (by omega) (by omega) (by omega)).mono ?_
           rintro e w4 ⟨t, ht0, ht1, rfl, hr4, g4⟩
           have H4 := Lib.hid hr4
           have HO4 : Hid (w4.ownsRow w2.heap.size 3 1 (.slice (some ⟨g, 0, none⟩) k cap2) k (ys.map (Value.int .i64))) := HO3.out.kept g4 (.inr Hgr'.out)
           have hb4 : w2.heap.size ≤ (w4.alloc (.cells #[.int .i64 t] 3)).heap.size := by (have := g4.size; simp; omega)
           clear hr4)
        | (go_simp
           go_at_call 32
           refine (pick_any w.heap.size a' l c q 60 wr.drew HrdD.out (by decide) (by decide) (by omega)).mono ?_
           rintro e w3 ⟨x, hx0, hx1, rfl, hr3, g3⟩
           have hc3 : w3.cell? ⟨b1, o1 + k, none⟩ = some (.int .i64 y) := (World.cell?_of_block (g3.block b1 HbB.out.1 (by simpa using HbB.out.2))).trans hc
           have H3 := Lib.hid hr3
           have HO3 : Hid (w3.ownsRow w2.heap.size 3 1 (.slice (some ⟨g, 0, none⟩) k cap2) k (ys.map (Value.int .i64))) := HownD.out.kept g3 (.inr Hgr'.out)
           have hs3 : w2.heap.size ≤ w3.heap.size := by (have := g3.size; simp at this; omega)
           obtain ⟨z, hz, hz0', hz1'⟩ : ∃ z, x.tdiv 59 = z ∧ 0 ≤ z ∧ z ≤ 1 := ⟨_, rfl, by (rw [Int.tdiv_eq_ediv_of_nonneg hx0]; omega), by (rw [Int.tdiv_eq_ediv_of_nonneg hx0]; omega)⟩
           have hzd : x / 59 = z := by (rw [← hz, Int.tdiv_eq_ediv_of_nonneg hx0])
           have hzw : IntKind.i64.wrap z = z := IntWalk.i64_in _ (by omega)
           have hyz : IntKind.i64.wrap (y + z) = y + z := IntWalk.i64_in _ (by omega)
           clear hr3))
      all_goals
        obtain ⟨g', cap', rfl, hb', _⟩ := hown5.form (by omega)
        have e1 : ys.map (Value.int .i64) ++ [.int .i64 t] = (ys ++ [t]).map (Value.int .i64) := by simp
        rw [e1] at hown5
        have HO5 := Lib.hid hown5
        have HR5 : Hid (Rd w5 w.heap.size a' l c (q + 1 + 1)) := (H4.out.bel ((Below.refl _ _).alloc (Nat.le_refl _) _)).own hg5 (fun b hb => by have := hrow.out b hb; omega)
        have HG5 : Hid (w2.grownBy w5 (some w.heap.size)) := gr_own (gr_trans (gr_trans (gr_trans (gr_trans Hgr.out (gr_bel _ (Below.refl _ _).drew)) g3) g4) (World.grownBy_alloc w4 _ (some _))) hg5 (fun b hb => by have := hrow.out b hb; omega)
        have HS5 : Hid (w2.heap.size ≤ w5.heap.size) := Lib.hid HG5.out.size
        have HL5 : Hid ((ys ++ [t]).length = k + 1) := by show _ = _; simp [Hlen.out]
        clear hown5 hg5 g3 g4 hb' e1
        go_wp2
        go_roundw
        case rel => exact ⟨k + 1, q + 1 + 1, g', cap', _, by go_num, by omega, rfl, HL5.out, HO5.out, HR5.out, by have := Hq.out; omega, HG5.out, HS5.out⟩
        case measure => simp [intOf]; omega
    · obtain rfl : k = pn := by omega
      have Hg12 := Lib.hid (gr_trans G2.out Hgr.out)
      go_wp2_with fail
      refine (pick_any _ a' l c q _ _ Hrd.out (by omega) (by omega) (by omega)).mono ?_
      rintro e w3 ⟨x, hx0, hx1, rfl, hr3, g3⟩
      have hs3 := g3.size
      have HO2 : Hid (w3.ownsRow w2.heap.size 3 1 (.slice (some ⟨g, 0, none⟩) k cap2) k (ys.map (Value.int .i64))) := Hown.out.kept g3 (.inr Hgr'.out)
      have G3 := Lib.hid (gr_trans Hgr.out g3)
      clear hr3 g3
      by_cases h0 : x = 0
      · subst h0
        have HO3 : Hid ((w3.alloc (.cells #[.int .i64 0] 3)).ownsRow w2.heap.size 3 1 (.slice (some ⟨g, 0, none⟩) k cap2) k (ys.map (Value.int .i64))) := HO2.out.alloc _
        have Hb3 : Hid (w2.heap.size ≤ (w3.alloc (.cells #[.int .i64 0] 3)).heap.size) := by show _ ≤ _; simp; omega
        go_wp2_with (at_builtin; refine wpList_append_own _ rfl _ _ 24 rfl w2.heap.size 3 i0 (.int .i64 0) 1 8 Try.underlying24 hi hz0 hz1 hz2 rfl (by decide) _ k _ rfl HO3.out ⟨w3.heap.size, 0, none⟩ 1 1 [.int .i64 0] rfl rfl (one_news (heap_alloc_new w3 _)) one_cell (by unfold maxLen; omega) (by omega) Hb3.out ?_
                     intro v' w4 hown4 hg4 _
                     obtain ⟨g', cap', rfl, hb', _⟩ := hown4.form (by omega)
                     have HO4 : Hid (w4.ownsRow w2.heap.size 3 1 (.slice (some ⟨g', 0, none⟩) (k + 1) cap') (k + 1) ((ys ++ [0]).map (Value.int .i64))) := by (have e1 : ys.map (Value.int .i64) ++ [.int .i64 0] = (ys ++ [0]).map (Value.int .i64) := by simp); rw [e1] at hown4; exact hown4
                     have HG4 : Hid (w2.grownBy w4 (some w.heap.size)) := gr_own (gr_trans G3.out (World.grownBy_alloc w3 _ (some _))) hg4 (fun b hb => by have := hrow.out b hb; omega)
                     clear hown4 hg4 hb')
        go_ret2
        obtain ⟨a2, c2, he, _, hr⟩ := Rsp.of_own HO4.out
        injection he with he1 he2 he3
        subst he1
        exact ⟨pa, _, _, _, pc, _, f, _, rfl, (D2.out.gr HG4.out).ls, hr.ls, hn, by omega, bel_grown G1.out (gr_trans G2.out HG4.out) G1.out.size (Nat.le_refl _)⟩
      · have qx : (x == 0) = false := by rw [beq_eq_false_iff_ne]; exact h0
        clear h0
        go_wp2_with fail
        go_ret2
        obtain ⟨a2, c2, he, _, hr⟩ := Rsp.of_own HO2.out
        injection he with he1 he2 he3
        subst he1
        exact ⟨pa, _, _, _, pc, _, f, _, rfl, (D2.out.gr G3.out).ls, hr.ls, hn, by omega, bel_grown G1.out (gr_trans G2.out G3.out) G1.out.size (Nat.le_refl _)⟩
end Go.Proofs.Ytejhiilkbckobaa
