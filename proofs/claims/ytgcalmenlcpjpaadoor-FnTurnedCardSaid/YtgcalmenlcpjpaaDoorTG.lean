/- The draws of chapter 5 (package spec): l92Signed, DrawTaken... -/
import Derived.Test.YtgcalmenlcpjpaaDoorTF
namespace Go.Proofs.YtgcalmenlcpjpaaDoor
open Go.RowKit
set_option linter.unusedVariables false
set_option maxRecDepth 100000
theorem IsRow.below {k : IntKind} {w w' : World} {a : Option Addr} {len cap : Nat} {zs : List Int} (h : IsRow k w a len cap zs) (g : Below w.heap.size w w') : IsRow k w' a len cap zs := by
  rcases h with h | ⟨x, h1, h2, h3, h4, h5, h6⟩
  · exact .inl h
  · exact .inr ⟨x, h1, h2, h3, h4, fun i hi => (g.cell (World.block_lt_of_cell? w _ (h5 i hi))).trans (h5 i hi), h6⟩
/-- a signed pile that was drawn -/
def SgnOk (w : World) (a : Option Addr) (n : Nat) (f : Nat → Int) : Prop := Ls w a n f ∧ n ≤ 7 ∧ ∀ j, j < n → -2000000 ≤ f j ∧ f j ≤ 2000000
def SgnDrawn (w : World) (e : Ending) (w' : World) : Prop := ∃ (a : Option Addr) (n c : Nat) (f : Nat → Int) (b : Option Addr) (m d : Nat) (p : Nat → Int), e = .returned (.tuple #[.slice a n c, .slice b m d]) ∧ SysOk w' a n f ∧ SgnOk w' b m p ∧ Below w.heap.size w w'
theorem SysOk.below {w w' : World} {a : Option Addr} {n : Nat} {f : Nat → Int} (h : SysOk w a n f) (g : Below w.heap.size w w') : SysOk w' a n f := ⟨h.1.below g, h.2⟩
theorem Rd.place {w : World} {r : Nat} {a : Option Addr} {len cap p : Nat} (h : Rd w r a len cap p) (q : Nat) : Rd (w.setCell ⟨r, 1, none⟩ (.int .i64 q)) r a len cap q := by
  have hb := h.blk
  refine ⟨?_, h.small, fun i hi => ?_⟩
  · rw [heap_setCell_same _ _ _ _ _ _ hb]; rfl
  · obtain ⟨b, off, y, ha, hbr, hc, h0, h1⟩ := h.at' i hi
    exact ⟨b, off, y, ha, hbr, (World.cell?_of_block (Below.heap_setCell _ _ _ _ (show b ≠ r by omega))).trans hc, h0, h1⟩
theorem rsp_gr {w w' : World} {lo hi r n : Nat} {a : Option Addr} {f : Nat → Int} (h : Rsp w lo hi a n f) (g : w.grownBy w' (some r)) (hr : r < lo) : Rsp w' lo hi a n f := by
  rcases h with rfl | ⟨b, rfl, h1, h2, hrow⟩
  · exact .inl rfl
  · exact .inr ⟨b, rfl, h1, h2, hrow.keep (g.block b hrow.lt (by simp; omega))⟩
set_option maxHeartbeats 1000000 in
theorem l92Signed_any (ra : Option Addr) (len cap : Nat) (zs : List Int) (w : World) (h : IsRow .u8 w ra len cap zs) : Calls Tryd.prog 50 #[.slice ra len cap] w (SgnDrawn w) := by
  have H := Lib.hid h; clear h
  go_enter Tryd.func50, Tryd.ntmps50
  go_wp2_with fail
  refine (l91With_any ra len cap zs _ H.out).mono ?_
  rintro e w1 ⟨va, n, vc, f, N, rfl, hs, hN0, hN1, g1⟩
  have G1 := Lib.hid g1; have S1 := Lib.hid hs; have H1 := Lib.hid (H.out.below g1); clear g1 hs
  have hn : n ≤ 6 := S1.out.2.1
  go_wp2_with fail
  refine (l6Open_any ra len cap zs _ H1.out).mono ?_
  rintro e w2 ⟨a', l, c, rfl, hr, g2⟩
  have hrb := hr.blk
  have hc1 : w2.cell? ⟨w1.heap.size, 1, none⟩ = some (.int .i64 (0 : Nat)) := cell_at hrb rfl
  have hf1 : w2.frozen? ⟨w1.heap.size, 1, none⟩ = false := by simp [World.frozen?, hrb]
  have HR2 := Lib.hid (hr.place 61)
  have G2 : Hid (Below w1.heap.size w1 (w2.setCell ⟨w1.heap.size, 1, none⟩ (.int .i64 61))) := Lib.hid (g2.setCell (Nat.le_refl _) _)
  clear hr hrb
  go_wp2_with fail
  generalize w2.setCell ⟨w1.heap.size, 1, none⟩ (.int .i64 61) = W2 at *
  clear g2 hc1 hf1
  have hrW : w1.heap.size < W2.heap.size := lt_of_block' HR2.out.blk
  have C := Lib.hid (sTakenOf_any va n vc f N W2 (S1.out.below G2.out).1 (by omega))
  cases ho : ofB f n N with
  | false =>
    rw [ho] at C
    clear ho
    refine C.out.mono ?_
    rintro e w3 ⟨pS, mS, qS, rfl, hmS, hr3, g3⟩
    have HR3 := Lib.hid (HR2.out.bel g3); have G3 := Lib.hid (bel_chain G2.out g3)
    clear hr3 g3 hmS C
    go_wp2_with fail
    refine (l91Pile_row w1.heap.size a' l c 61 va n vc w3 HR3.out (by omega) hn).mono ?_
    rintro e w5 ⟨pb, m, pc, p, p', rfl, hr5, hm, hp, hrd5, hp5, g5⟩
    have R5 := Lib.hid hr5; have G5 : Hid (Below w1.heap.size w1 w5) := Lib.hid (bel_gr G3.out g5 G3.out.size (Nat.le_refl _)); have P5 := Lib.hid hp; have HS5 : Hid (w1.heap.size ≤ w3.heap.size) := Lib.hid G3.out.size
    clear hr5 g5 hp hrd5 hp5
    go_wp2_with fail
    go_loopw [10] (fun i wr => ∃ k : Nat, i = .int .i64 k ∧ k ≤ m ∧ Rsp wr w3.heap.size w5.heap.size pb m (fun j => if j < k then p j - 6 else p j) ∧ Mid w3.heap.size w5.heap.size w5 wr) (fun i _ => m - (intOf i).toNat)
    case atStart => exact ⟨0, rfl, by omega, R5.out.congr fun j hj => by simp, Mid.refl _ _ _⟩
    case round =>
      obtain ⟨k, rfl, hk, hres, hmid⟩ := hrel
      by_cases hlt : k < m
      · rcases hres with h0 | ⟨b, rfl, hb1, hb2, hrow⟩
        · omega
        have Hr := Lib.hid hrow; have Hm := Lib.hid hmid
        have hv0 : wr.cell? ⟨b, k, none⟩ = some (.int .i64 (p k)) := by have := hrow.cell k hlt; simpa using this
        have hfr := hrow.frozen k
        obtain ⟨q1, q2⟩ := P5.out k hlt
        clear hrow hmid
        have HR : Hid (Rsp (wr.setCell ⟨b, k, none⟩ (.int .i64 (p k - 6))) w3.heap.size w5.heap.size (some ⟨b, 0, none⟩) m (fun j => if j < k + 1 then p j - 6 else p j)) :=
          .inr ⟨b, rfl, hb1, hb2, (Hr.out.set_ k (p k - 6)).congr fun j hj => by
            by_cases e : j = k
            · subst e; simp
            · rw [if_neg e]
              by_cases h2 : j < k
              · rw [if_pos h2, if_pos (by omega)]
              · rw [if_neg h2, if_neg (by omega)]⟩
        have HM : Hid (Mid w3.heap.size w5.heap.size w5 (wr.setCell ⟨b, k, none⟩ (.int .i64 (p k - 6)))) := Lib.hid (Hm.out.setCell hb1 hb2 _ _)
        generalize p k = y at *
        go_wp2_with fail
        go_roundw
        case rel => exact ⟨k + 1, by go_num, by omega, HR.out, HM.out⟩
        case measure => simp [intOf]; omega
      · obtain rfl : k = m := by omega
        have HF : Hid (Below w1.heap.size w1 wr) := Lib.hid (hmid.bel G5.out HS5.out)
        have HL := Lib.hid hres.ls
        clear hres hmid
        go_wp2_with fail
        go_ret2
        exact ⟨va, n, vc, f, _, k, _, _, rfl, S1.out.below HF.out, ⟨HL.out, hm, fun j hj => by have := P5.out j hj; simp only [if_pos hj]; omega⟩, bel_chain G1.out HF.out⟩
  | true =>
    have BD := Lib.hid (tkF_bd ho)
    rw [ho] at C
    clear ho
    refine C.out.mono ?_
    rintro e w3 ⟨pS, mS, qS, rfl, hmS, hr3, g3⟩
    obtain rfl : n = mS := hmS.symm
    have HR3 := Lib.hid (HR2.out.bel g3); have G3 := Lib.hid (bel_chain G2.out g3); have L3 := Lib.hid hr3
    clear hr3 g3 hmS C
    go_wp2_with fail
    refine (pick_any w1.heap.size a' l c 61 _ _ HR3.out (by omega) (by omega) (by omega)).mono ?_
    rintro e w4 ⟨x, hx0, hx1, rfl, hr4, g4⟩
    have HR4 := Lib.hid hr4; have G4 := Lib.hid (bel_gr G3.out g4 G3.out.size (Nat.le_refl _)); have HGR := Lib.hid g4
    clear hr4 g4
    by_cases hx : x = 0
    · subst hx
      have L4 : Hid (Ls w4 pS n (tkF f n N)) := Lib.hid (rsp_gr L3.out HGR.out hrW).ls
      go_wp2_with fail
      go_ret2
      exact ⟨va, n, vc, f, _, n, _, _, rfl, S1.out.below G4.out, ⟨L4.out, by omega, fun j hj => by have := BD.out j hj; omega⟩, bel_chain G1.out G4.out⟩
    · have hq : (x == 0) = false := by rw [beq_eq_false_iff_ne]; exact hx
      clear hx
      go_wp2_with fail
      refine (l91Pile_row w1.heap.size a' l c 62 va n vc w4 HR4.out (by omega) hn).mono ?_
      rintro e w5 ⟨pb, m, pc, p, p', rfl, hr5, hm, hp, hrd5, hp5, g5⟩
      have R5 := Lib.hid hr5; have G5 : Hid (Below w1.heap.size w1 w5) := Lib.hid (bel_gr G4.out g5 G4.out.size (Nat.le_refl _)); have P5 := Lib.hid hp; have HS5 : Hid (w1.heap.size ≤ w4.heap.size) := Lib.hid G4.out.size
      clear hr5 g5 hp hrd5 hp5
      go_wp2_with fail
      go_loopw [10] (fun i wr => ∃ k : Nat, i = .int .i64 k ∧ k ≤ m ∧ Rsp wr w4.heap.size w5.heap.size pb m (fun j => if j < k then p j - 6 else p j) ∧ Mid w4.heap.size w5.heap.size w5 wr) (fun i _ => m - (intOf i).toNat)
      case atStart => exact ⟨0, rfl, by omega, R5.out.congr fun j hj => by simp, Mid.refl _ _ _⟩
      case round =>
        obtain ⟨k, rfl, hk, hres, hmid⟩ := hrel
        by_cases hlt : k < m
        · rcases hres with h0 | ⟨b, rfl, hb1, hb2, hrow⟩
          · omega
          have Hr := Lib.hid hrow; have Hm := Lib.hid hmid
          have hv0 : wr.cell? ⟨b, k, none⟩ = some (.int .i64 (p k)) := by have := hrow.cell k hlt; simpa using this
          have hfr := hrow.frozen k
          obtain ⟨q1, q2⟩ := P5.out k hlt
          clear hrow hmid
          have HR : Hid (Rsp (wr.setCell ⟨b, k, none⟩ (.int .i64 (p k - 6))) w4.heap.size w5.heap.size (some ⟨b, 0, none⟩) m (fun j => if j < k + 1 then p j - 6 else p j)) :=
            .inr ⟨b, rfl, hb1, hb2, (Hr.out.set_ k (p k - 6)).congr fun j hj => by
              by_cases e : j = k
              · subst e; simp
              · rw [if_neg e]
                by_cases h2 : j < k
                · rw [if_pos h2, if_pos (by omega)]
                · rw [if_neg h2, if_neg (by omega)]⟩
          have HM : Hid (Mid w4.heap.size w5.heap.size w5 (wr.setCell ⟨b, k, none⟩ (.int .i64 (p k - 6)))) := Lib.hid (Hm.out.setCell hb1 hb2 _ _)
          generalize p k = y at *
          go_wp2_with fail
          go_roundw
          case rel => exact ⟨k + 1, by go_num, by omega, HR.out, HM.out⟩
          case measure => simp [intOf]; omega
        · obtain rfl : k = m := by omega
          have HF : Hid (Below w1.heap.size w1 wr) := Lib.hid (hmid.bel G5.out HS5.out)
          have HL := Lib.hid hres.ls
          clear hres hmid
          go_wp2_with fail
          go_ret2
          exact ⟨va, n, vc, f, _, k, _, _, rfl, S1.out.below HF.out, ⟨HL.out, hm, fun j hj => by have := P5.out j hj; simp only [if_pos hj]; omega⟩, bel_chain G1.out HF.out⟩
theorem DrawTakenOf_any (ra : Option Addr) (len cap : Nat) (zs : List Int) (w : World) (h : IsRow .u8 w ra len cap zs) : Calls Tryd.prog 15 #[.slice ra len cap] w (WithDrawn w) := by
  have H := Lib.hid h; clear h
  go_enter Tryd.func15, Tryd.ntmps15
  go_wp2_with fail
  refine (l91With_any ra len cap zs _ H.out).mono ?_
  rintro e w1 ⟨a, n, c, f, N, rfl, h1, h2, h3, h4⟩
  have H1 := Lib.hid h1; have H4 := Lib.hid h4; clear h1 h4
  go_wp2_with fail
  go_ret2
  exact ⟨a, n, c, f, N, rfl, H1.out, h2, h3, H4.out⟩
theorem DrawTakenSaved_any (ra : Option Addr) (len cap : Nat) (zs : List Int) (w : World) (h : IsRow .u8 w ra len cap zs) : Calls Tryd.prog 26 #[.slice ra len cap] w (WithDrawn w) := by
  have H := Lib.hid h; clear h
  go_enter Tryd.func26, Tryd.ntmps26
  go_wp2_with fail
  refine (l91With_any ra len cap zs _ H.out).mono ?_
  rintro e w1 ⟨a, n, c, f, N, rfl, h1, h2, h3, h4⟩
  have H1 := Lib.hid h1; have H4 := Lib.hid h4; clear h1 h4
  go_wp2_with fail
  go_ret2
  exact ⟨a, n, c, f, N, rfl, H1.out, h2, h3, H4.out⟩
theorem DrawTakenValue_any (ra : Option Addr) (len cap : Nat) (zs : List Int) (w : World) (h : IsRow .u8 w ra len cap zs) : Calls Tryd.prog 20 #[.slice ra len cap] w (SgnDrawn w) := by
  have H := Lib.hid h; clear h
  go_enter Tryd.func20, Tryd.ntmps20
  go_wp2_with fail
  refine (l92Signed_any ra len cap zs _ H.out).mono ?_
  rintro e w1 ⟨a, n, c, f, b, m, d, p, rfl, h1, h2, h4⟩
  have H1 := Lib.hid h1; have H2 := Lib.hid h2; have H4 := Lib.hid h4; clear h1 h2 h4
  go_wp2_with fail
  go_ret2
  exact ⟨a, n, c, f, b, m, d, p, rfl, H1.out, H2.out, H4.out⟩
theorem DrawTakenSize_any (ra : Option Addr) (len cap : Nat) (zs : List Int) (w : World) (h : IsRow .u8 w ra len cap zs) : Calls Tryd.prog 23 #[.slice ra len cap] w (SgnDrawn w) := by
  have H := Lib.hid h; clear h
  go_enter Tryd.func23, Tryd.ntmps23
  go_wp2_with fail
  refine (l92Signed_any ra len cap zs _ H.out).mono ?_
  rintro e w1 ⟨a, n, c, f, b, m, d, p, rfl, h1, h2, h4⟩
  have H1 := Lib.hid h1; have H2 := Lib.hid h2; have H4 := Lib.hid h4; clear h1 h2 h4
  go_wp2_with fail
  go_ret2
  exact ⟨a, n, c, f, b, m, d, p, rfl, H1.out, H2.out, H4.out⟩
theorem DrawTakenTurned_any (ra : Option Addr) (len cap : Nat) (zs : List Int) (w : World) (h : IsRow .u8 w ra len cap zs) : Calls Tryd.prog 34 #[.slice ra len cap] w (SgnDrawn w) := by
  have H := Lib.hid h; clear h
  go_enter Tryd.func34, Tryd.ntmps34
  go_wp2_with fail
  refine (l92Signed_any ra len cap zs _ H.out).mono ?_
  rintro e w1 ⟨a, n, c, f, b, m, d, p, rfl, h1, h2, h4⟩
  have H1 := Lib.hid h1; have H2 := Lib.hid h2; have H4 := Lib.hid h4; clear h1 h2 h4
  go_wp2_with fail
  go_ret2
  exact ⟨a, n, c, f, b, m, d, p, rfl, H1.out, H2.out, H4.out⟩
theorem DrawTakenMost_any (ra : Option Addr) (len cap : Nat) (zs : List Int) (w : World) (h : IsRow .u8 w ra len cap zs) : Calls Tryd.prog 31 #[.slice ra len cap] w (WithDrawn w) := by
  have H := Lib.hid h; clear h
  go_enter Tryd.func31, Tryd.ntmps31
  go_wp2_with fail
  refine (l6Open_any ra len cap zs _ H.out).mono ?_
  rintro e w1 ⟨a', l, c, rfl, hr, g1⟩
  have H1 := Lib.hid hr; have G1 := Lib.hid g1; clear hr g1
  have hs1 := lt_of_block' H1.out.blk
  go_wp2_with fail
  refine (l91System_any _ a' l c 0 _ H1.out (by omega)).mono ?_
  rintro e w2 ⟨va, n, vc, f, p2, rfl, hd, hn, hf, hr2, hp2, g2⟩
  have HD2 := Lib.hid hd; have HF := Lib.hid hf; have H2 := Lib.hid hr2; have G2 := Lib.hid (bel_gr G1.out g2 G1.out.size (Nat.le_refl _))
  clear hd hf hr2 g2
  go_wp2_with fail
  refine (pick_any w.heap.size a' l c (p2) _ _ H2.out (by omega) (by omega) (by omega)).mono ?_
  rintro e w3 ⟨x, x0, x1, rfl, hr3, g3⟩
  have HD3 := Lib.hid (HD2.out.gr g3); have H3 := Lib.hid hr3; have G3 := Lib.hid (bel_gr G2.out g3 G2.out.size (Nat.le_refl _))
  clear hr3 g3
  go_wp2_with fail
  refine (pick_any w.heap.size a' l c (p2 + 1) _ _ H3.out (by omega) (by omega) (by omega)).mono ?_
  rintro e w5 ⟨u, u0, u1, rfl, hr5, g5⟩
  have HD5 := Lib.hid (HD3.out.gr g5); have H5 := Lib.hid hr5; have G5 := Lib.hid (bel_gr G3.out g5 G3.out.size (Nat.le_refl _))
  clear hr5 g5
  go_wp2_with fail
  refine (pick_any w.heap.size a' l c (p2 + 1 + 1) _ _ H5.out (by omega) (by omega) (by omega)).mono ?_
  rintro e w6 ⟨v, v0, v1, rfl, hr6, g6⟩
  have HD6 := Lib.hid (HD5.out.gr g6); have G6 := Lib.hid (bel_gr G5.out g6 G5.out.size (Nat.le_refl _))
  clear hr6 g6
  have u2 : 0 ≤ u / 23 ∧ u / 23 ≤ 1 := by omega
  have v2 : 0 ≤ v / 23 ∧ v / 23 ≤ 1 := by omega
  go_wp2_with fail
  go_ret2
  exact ⟨va, n, vc, f, _, rfl, ⟨HD6.out.ls, hn, HF.out⟩, by omega, by omega, G6.out⟩
end Go.Proofs.YtgcalmenlcpjpaaDoor
