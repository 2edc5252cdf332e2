/- The draws of chapter 2 (package spec): what each law draws. -/
import Derived.Test.YtbepcmjjgpbgaaaBE
namespace Go.Proofs.Ytbepcmjjgpbgaaa
open Go.RowKit
set_option linter.unusedVariables false
set_option maxRecDepth 100000
theorem Drn.bel {w w' : World} {r : Nat} {a : Option Addr} {n : Nat} {f : Nat → Int} (h : Drn w r a n f) (g : Below w.heap.size w w') : Drn w' r a n f := h.gr (gr_bel r g)
theorem Drn.own {w : World} {r b n : Nat} {f : Nat → Int} (h : Own w b n f) (hr : b ≠ r) : Drn w r (some ⟨b, 0, none⟩) n f := fun k hk => ⟨b, 0, rfl, h.lt, hr, by rw [Nat.zero_add]; exact h.cell k hk⟩
theorem mul2_bd (x y X Y : Int) (h0 : 0 ≤ x) (h1 : x ≤ X) (g0 : 0 ≤ y) (g1 : y ≤ Y) : 0 ≤ x * y ∧ x * y ≤ X * Y :=
  ⟨Int.mul_nonneg h0 g0, Int.mul_le_mul h1 g1 g0 (by omega)⟩
/-- a system that was drawn -/
def SysOk (w : World) (a : Option Addr) (n : Nat) (f : Nat → Int) : Prop := Ls w a n f ∧ n ≤ 6 ∧ ∀ j, j < n → 0 ≤ f j ∧ f j ≤ 2000000
/-- a pile that was drawn -/
def PilOk (w : World) (a : Option Addr) (n : Nat) (f : Nat → Int) : Prop := Ls w a n f ∧ n ≤ 7 ∧ ∀ j, j < n → -1 ≤ f j ∧ f j ≤ 2000000
def WithDrawn (w : World) (e : Ending) (w' : World) : Prop := ∃ (a : Option Addr) (n c : Nat) (f : Nat → Int) (N : Int), e = .returned (.tuple #[.slice a n c, .int .i64 N]) ∧ SysOk w' a n f ∧ -10000000 ≤ N ∧ N ≤ 10000000 ∧ Below w.heap.size w w'
def PiledDrawn (w : World) (e : Ending) (w' : World) : Prop := ∃ (a : Option Addr) (n c : Nat) (f : Nat → Int) (b : Option Addr) (m d : Nat) (p : Nat → Int), e = .returned (.tuple #[.slice a n c, .slice b m d]) ∧ SysOk w' a n f ∧ PilOk w' b m p ∧ Below w.heap.size w w'
def TwoDrawn (w : World) (e : Ending) (w' : World) : Prop := ∃ (a : Option Addr) (n c : Nat) (f : Nat → Int) (b : Option Addr) (m d : Nat) (p : Nat → Int) (b' : Option Addr) (l d' : Nat) (q : Nat → Int), e = .returned (.tuple #[.slice a n c, .slice b m d, .slice b' l d']) ∧ SysOk w' a n f ∧ PilOk w' b m p ∧ PilOk w' b' l q ∧ Below w.heap.size w w'
def InDrawn (w : World) (e : Ending) (w' : World) : Prop := ∃ (a : Option Addr) (n c : Nat) (f : Nat → Int), e = .returned (.slice a n c) ∧ SysOk w' a n f ∧ Below w.heap.size w w'

theorem DrawPileIn_any (ra : Option Addr) (len cap : Nat) (zs : List Int) (w : World) (h : IsRow .u8 w ra len cap zs) : Calls Try.prog 19 #[.slice ra len cap] w (InDrawn w) := by
  have H := Lib.hid h; clear h
  go_enter Try.func19, Try.ntmps19
  go_wp2_with fail
  refine (l6Open_any ra len cap zs _ H.out).mono ?_
  rintro e w1 ⟨a', l, c, rfl, hr, g1⟩
  have H1 := Lib.hid hr; have G1 := Lib.hid g1; clear hr g1
  have hs1 := lt_of_block' H1.out.blk
  go_wp2_with fail
  refine (l91System_any _ a' l c 0 _ H1.out (by omega)).mono ?_
  rintro e w2 ⟨va, n, vc, f, p2, rfl, hd, hn, hf, hr2, hp2, g2⟩
  have HD2 := Lib.hid hd; have HF := Lib.hid hf; have H2 := Lib.hid hr2; have G2 := Lib.hid (bel_gr G1.out g2 G1.out.size (Nat.le_refl _))
  have hs2 : w1.heap.size ≤ w2.heap.size := g2.size
  clear hd hf hr2 g2
  go_wp2_with fail
  go_ret
  exact ⟨va, n, vc, f, rfl, ⟨HD2.out.ls, hn, HF.out⟩, G2.out⟩
theorem l91With_any (ra : Option Addr) (len cap : Nat) (zs : List Int) (w : World) (h : IsRow .u8 w ra len cap zs) : Calls Try.prog 56 #[.slice ra len cap] w (WithDrawn w) := by
  have H := Lib.hid h; clear h
  go_enter Try.func56, Try.ntmps56
  go_wp2_with fail
  refine (l6Open_any ra len cap zs _ H.out).mono ?_
  rintro e w1 ⟨a', l, c, rfl, hr, g1⟩
  have H1 := Lib.hid hr; have G1 := Lib.hid g1; clear hr g1
  have hs1 := lt_of_block' H1.out.blk
  go_wp2_with fail
  refine (l91System_any _ a' l c 0 _ H1.out (by omega)).mono ?_
  rintro e w2 ⟨va, n, vc, f, p2, rfl, hd, hn, hf, hr2, hp2, g2⟩
  have HD2 := Lib.hid hd; have HF := Lib.hid hf; have H2 := Lib.hid hr2; have G2 := Lib.hid (bel_gr G1.out g2 G1.out.size (Nat.le_refl _))
  have hs2 : w1.heap.size ≤ w2.heap.size := g2.size
  clear hd hf hr2 g2
  go_wp2_with fail
  refine (pick_any w.heap.size a' l c (p2) _ _ H2.out (by omega) (by omega) (by omega)).mono ?_
  rintro e w3 ⟨x, x0, x1, rfl, hr3, g3⟩
  have HD3 := Lib.hid (HD2.out.gr g3); have H3 := Lib.hid hr3; have G3 := Lib.hid (bel_gr G2.out g3 G2.out.size (Nat.le_refl _))
  clear hr3 g3
  go_wp2_with fail
  refine (pick_any w.heap.size a' l c (p2 + 1) _ _ H3.out (by omega) (by omega) (by omega)).mono ?_
  rintro e w4 ⟨y, y0, y1, rfl, hr4, g4⟩
  have HD4 := Lib.hid (HD3.out.gr g4); have H4 := Lib.hid hr4; have G4 := Lib.hid (bel_gr G3.out g4 G3.out.size (Nat.le_refl _))
  clear hr4 g4
  go_wp2_with fail
  refine (pick_any w.heap.size a' l c (p2 + 1 + 1) _ _ H4.out (by omega) (by omega) (by omega)).mono ?_
  rintro e w5 ⟨u, u0, u1, rfl, hr5, g5⟩
  have HD5 := Lib.hid (HD4.out.gr g5); have H5 := Lib.hid hr5; have G5 := Lib.hid (bel_gr G4.out g5 G4.out.size (Nat.le_refl _))
  clear hr5 g5
  go_wp2_with fail
  refine (pick_any w.heap.size a' l c (p2 + 1 + 1 + 1) _ _ H5.out (by omega) (by omega) (by omega)).mono ?_
  rintro e w6 ⟨v, v0, v1, rfl, hr6, g6⟩
  have HD6 := Lib.hid (HD5.out.gr g6); have H6 := Lib.hid hr6; have G6 := Lib.hid (bel_gr G5.out g6 G5.out.size (Nat.le_refl _))
  clear hr6 g6
  have u2 : 0 ≤ u / 23 ∧ u / 23 ≤ 1 := by omega
  have v2 : 0 ≤ v / 23 ∧ v / 23 ≤ 1 := by omega
  go_wp2_with fail
  go_ret2
  exact ⟨va, n, vc, f, _, rfl, ⟨HD6.out.ls, hn, HF.out⟩, by omega, by omega, G6.out⟩
theorem DrawPileOf_any (ra : Option Addr) (len cap : Nat) (zs : List Int) (w : World) (h : IsRow .u8 w ra len cap zs) : Calls Try.prog 24 #[.slice ra len cap] w (WithDrawn w) := by
  have H := Lib.hid h; clear h
  go_enter Try.func24, Try.ntmps24
  go_wp2_with fail
  refine (l91With_any ra len cap zs _ H.out).mono ?_
  rintro e w1 ⟨a, n, c, f, N, rfl, h1, h2, h3, h4⟩
  have H1 := Lib.hid h1; have H4 := Lib.hid h4; clear h1 h4
  go_wp2_with fail
  go_ret2
  exact ⟨a, n, c, f, N, rfl, H1.out, h2, h3, H4.out⟩
theorem l91Piled_any (ra : Option Addr) (len cap : Nat) (zs : List Int) (w : World) (h : IsRow .u8 w ra len cap zs) : Calls Try.prog 60 #[.slice ra len cap] w (PiledDrawn w) := by
  have H := Lib.hid h; clear h
  go_enter Try.func60, Try.ntmps60
  go_wp2_with fail
  refine (l6Open_any ra len cap zs _ H.out).mono ?_
  rintro e w1 ⟨a', l, c, rfl, hr, g1⟩
  have H1 := Lib.hid hr; have G1 := Lib.hid g1; clear hr g1
  have hs1 := lt_of_block' H1.out.blk
  go_wp2_with fail
  refine (l91System_any _ a' l c 0 _ H1.out (by omega)).mono ?_
  rintro e w2 ⟨va, n, vc, f, p2, rfl, hd, hn, hf, hr2, hp2, g2⟩
  have HD2 := Lib.hid hd; have HF := Lib.hid hf; have H2 := Lib.hid hr2; have G2 := Lib.hid (bel_gr G1.out g2 G1.out.size (Nat.le_refl _))
  have hs2 : w1.heap.size ≤ w2.heap.size := g2.size
  clear hd hf hr2 g2
  go_wp2_with fail
  refine (pick_any w.heap.size a' l c (p2) _ _ H2.out (by omega) (by omega) (by omega)).mono ?_
  rintro e w3 ⟨x, x0, x1, rfl, hr3, g3⟩
  have HD3 := Lib.hid (HD2.out.gr g3); have H3 := Lib.hid hr3; have G3 := Lib.hid (bel_gr G2.out g3 G2.out.size (Nat.le_refl _))
  clear hr3 g3
  by_cases hx : x = 0
  · subst hx
    have C := Lib.hid (sPileIn_any va n vc f w3 HD3.out.ls (by omega))
    by_cases hs : sysB f n = true
    · rw [hs] at C
      obtain ⟨s1, s2, s3⟩ := sysB_sys hs
      have S1 := Lib.hid s1; have S3 := Lib.hid s3
      clear hs s1 s3
      go_wp2_with fail
      refine C.out.mono ?_
      rintro e w4 ⟨rfl, g4⟩
      have HD4 := Lib.hid (HD3.out.bel g4.bel0); have H4 := Lib.hid (H3.out.bel g4.bel0); have G4 := Lib.hid (G3.out.trans g4.bel0)
      clear g4
      go_wp2_with fail
      refine (pick_any w.heap.size a' l c (p2 + 1) _ _ H4.out (by omega) (by omega) (by omega)).mono ?_
      rintro e w5 ⟨y, y0, y1, rfl, hr5, g5⟩
      have HD5 := Lib.hid (HD4.out.gr g5); have H5 := Lib.hid hr5; have G5 := Lib.hid (bel_gr G4.out g5 G4.out.size (Nat.le_refl _))
      clear hr5 g5
      go_wp2_with fail
      refine (pick_any w.heap.size a' l c (p2 + 1 + 1) _ _ H5.out (by omega) (by omega) (by omega)).mono ?_
      rintro e w6 ⟨z, z0, z1, rfl, hr6, g6⟩
      have HD6 := Lib.hid (HD5.out.gr g6); have H6 := Lib.hid hr6; have G6 := Lib.hid (bel_gr G5.out g6 G5.out.size (Nat.le_refl _))
      clear hr6 g6
      obtain ⟨b0, b1⟩ := mul2_bd y (1 + z) 199 9 y0 (by omega) (by omega) (by omega)
      have hw : IntKind.i64.wrap (y * (1 + z)) = y * (1 + z) := IntWalk.i64_in _ (by omega)
      go_wp2_with fail
      refine (sl2Of_any va n vc f (y * (1 + z)) _ HD6.out.ls S1.out s2 S3.out b0 (by omega)).mono ?_
      rintro e w7 ⟨rfl, ho, g7, hsz⟩
      have HD7 := Lib.hid (HD6.out.bel g7); have HO := Lib.hid ho; have G7 := Lib.hid (bel_chain G6.out g7)
      clear ho g7 hsz
      go_wp2_with fail
      go_ret2
      refine ⟨va, n, vc, f, _, n, n, pl f n (y * (1 + z)), rfl, ⟨HD7.out.ls, hn, HF.out⟩, ⟨HO.out.ls, by omega, fun j hj => ?_⟩, G7.out⟩
      have q0 := pl_nonneg S1.out _ b0 j hj
      have q1 := pl_le S1.out _ b0 j hj
      omega
    · rw [show sysB f n = false by simpa using hs] at C
      clear hs
      go_wp2_with fail
      refine C.out.mono ?_
      rintro e w3' ⟨rfl, g4⟩
      have HD3' := Lib.hid (HD3.out.bel g4.bel0); have H3' := Lib.hid (H3.out.bel g4.bel0); have G3' := Lib.hid (G3.out.trans g4.bel0)
      clear g4
      go_wp2_with fail
      refine (l91Pile_any w.heap.size a' l c (p2 + 1) va n vc _ H3'.out (by omega) hn).mono ?_
      rintro e w4 ⟨pa, m, pc, q, p4, rfl, hd4, hm, hq, hr4, hp4, g4⟩
      have HD4 := Lib.hid (HD3'.out.gr g4); have HQ4 := Lib.hid hd4; have HQ := Lib.hid hq; have G4 := Lib.hid (bel_gr G3'.out g4 G3'.out.size (Nat.le_refl _))
      clear hd4 hq hr4 g4
      go_wp2_with fail
      go_ret2
      exact ⟨va, n, vc, f, pa, m, pc, q, rfl, ⟨HD4.out.ls, hn, HF.out⟩, ⟨HQ4.out.ls, hm, HQ.out⟩, G4.out⟩
  · go_wp2_with fail
    refine (l91Pile_any w.heap.size a' l c (p2 + 1) va n vc _ H3.out (by omega) hn).mono ?_
    rintro e w4 ⟨pa, m, pc, q, p4, rfl, hd4, hm, hq, hr4, hp4, g4⟩
    have HD4 := Lib.hid (HD3.out.gr g4); have HQ4 := Lib.hid hd4; have HQ := Lib.hid hq; have G4 := Lib.hid (bel_gr G3.out g4 G3.out.size (Nat.le_refl _))
    clear hd4 hq hr4 g4
    go_wp2_with fail
    go_ret2
    exact ⟨va, n, vc, f, pa, m, pc, q, rfl, ⟨HD4.out.ls, hn, HF.out⟩, ⟨HQ4.out.ls, hm, HQ.out⟩, G4.out⟩
theorem DrawPileValue_any (ra : Option Addr) (len cap : Nat) (zs : List Int) (w : World) (h : IsRow .u8 w ra len cap zs) : Calls Try.prog 29 #[.slice ra len cap] w (PiledDrawn w) := by
  have H := Lib.hid h; clear h
  go_enter Try.func29, Try.ntmps29
  go_wp2_with fail
  refine (l91Piled_any ra len cap zs _ H.out).mono ?_
  rintro e w1 ⟨a, n, c, f, b, m, d, p, rfl, h1, h2, h4⟩
  have H1 := Lib.hid h1; have H2 := Lib.hid h2; have H4 := Lib.hid h4; clear h1 h2 h4
  go_wp2_with fail
  go_ret2
  exact ⟨a, n, c, f, b, m, d, p, rfl, H1.out, H2.out, H4.out⟩
theorem DrawPilePlain_any (ra : Option Addr) (len cap : Nat) (zs : List Int) (w : World) (h : IsRow .u8 w ra len cap zs) : Calls Try.prog 31 #[.slice ra len cap] w (PiledDrawn w) := by
  have H := Lib.hid h; clear h
  go_enter Try.func31, Try.ntmps31
  go_wp2_with fail
  refine (l91Piled_any ra len cap zs _ H.out).mono ?_
  rintro e w1 ⟨a, n, c, f, b, m, d, p, rfl, h1, h2, h4⟩
  have H1 := Lib.hid h1; have H2 := Lib.hid h2; have H4 := Lib.hid h4; clear h1 h2 h4
  go_wp2_with fail
  go_ret2
  exact ⟨a, n, c, f, b, m, d, p, rfl, H1.out, H2.out, H4.out⟩
theorem DrawPileSize_any (ra : Option Addr) (len cap : Nat) (zs : List Int) (w : World) (h : IsRow .u8 w ra len cap zs) : Calls Try.prog 40 #[.slice ra len cap] w (PiledDrawn w) := by
  have H := Lib.hid h; clear h
  go_enter Try.func40, Try.ntmps40
  go_wp2_with fail
  refine (l91Piled_any ra len cap zs _ H.out).mono ?_
  rintro e w1 ⟨a, n, c, f, b, m, d, p, rfl, h1, h2, h4⟩
  have H1 := Lib.hid h1; have H2 := Lib.hid h2; have H4 := Lib.hid h4; clear h1 h2 h4
  go_wp2_with fail
  go_ret2
  exact ⟨a, n, c, f, b, m, d, p, rfl, H1.out, H2.out, H4.out⟩
theorem DrawPileSteps_any (ra : Option Addr) (len cap : Nat) (zs : List Int) (w : World) (h : IsRow .u8 w ra len cap zs) : Calls Try.prog 42 #[.slice ra len cap] w (PiledDrawn w) := by
  have H := Lib.hid h; clear h
  go_enter Try.func42, Try.ntmps42
  go_wp2_with fail
  refine (l91Piled_any ra len cap zs _ H.out).mono ?_
  rintro e w1 ⟨a, n, c, f, b, m, d, p, rfl, h1, h2, h4⟩
  have H1 := Lib.hid h1; have H2 := Lib.hid h2; have H4 := Lib.hid h4; clear h1 h2 h4
  go_wp2_with fail
  go_ret2
  exact ⟨a, n, c, f, b, m, d, p, rfl, H1.out, H2.out, H4.out⟩
theorem l91Two_any (ra : Option Addr) (len cap : Nat) (zs : List Int) (w : World) (h : IsRow .u8 w ra len cap zs) : Calls Try.prog 64 #[.slice ra len cap] w (TwoDrawn w) := by
  have H := Lib.hid h; clear h
  go_enter Try.func64, Try.ntmps64
  go_wp2_with fail
  refine (l6Open_any ra len cap zs _ H.out).mono ?_
  rintro e w1 ⟨a', l, c, rfl, hr, g1⟩
  have H1 := Lib.hid hr; have G1 := Lib.hid g1; clear hr g1
  have hs1 := lt_of_block' H1.out.blk
  go_wp2_with fail
  refine (l91System_any _ a' l c 0 _ H1.out (by omega)).mono ?_
  rintro e w2 ⟨va, n, vc, f, p2, rfl, hd, hn, hf, hr2, hp2, g2⟩
  have HD2 := Lib.hid hd; have HF := Lib.hid hf; have H2 := Lib.hid hr2; have G2 := Lib.hid (bel_gr G1.out g2 G1.out.size (Nat.le_refl _))
  have hs2 : w1.heap.size ≤ w2.heap.size := g2.size
  clear hd hf hr2 g2
  go_wp2_with fail
  refine (l91Pile_any w.heap.size a' l c p2 va n vc _ H2.out (by omega) hn).mono ?_
  rintro e w4 ⟨pa, m, pc, q, p4, rfl, hd4, hm, hq, hr4, hp4, g4⟩
  have HD4 := Lib.hid (HD2.out.gr g4); have HQ4 := Lib.hid hd4; have HQ := Lib.hid hq; have H4 := Lib.hid hr4; have G4 := Lib.hid (bel_gr G2.out g4 G2.out.size (Nat.le_refl _))
  clear hd4 hq hr4 g4
  go_wp2_with fail
  refine (l91Pile_any w.heap.size a' l c p4 va n vc _ H4.out (by omega) hn).mono ?_
  rintro e w5 ⟨pb, m', pd, q', p5, rfl, hd5, hm', hq', hr5, hp5, g5⟩
  have HD5 := Lib.hid (HD4.out.gr g5); have HQ5 := Lib.hid (HQ4.out.gr g5); have HQ' := Lib.hid hq'; have HQ5' := Lib.hid hd5; have G5 := Lib.hid (bel_gr G4.out g5 G4.out.size (Nat.le_refl _))
  clear hd5 hq' hr5 g5
  go_wp2_with fail
  go_ret3
  exact ⟨va, n, vc, f, pa, m, pc, q, pb, m', pd, q', rfl, ⟨HD5.out.ls, hn, HF.out⟩, ⟨HQ5.out.ls, hm, HQ.out⟩, ⟨HQ5'.out.ls, hm', HQ'.out⟩, G5.out⟩
theorem DrawPileSum_any (ra : Option Addr) (len cap : Nat) (zs : List Int) (w : World) (h : IsRow .u8 w ra len cap zs) : Calls Try.prog 34 #[.slice ra len cap] w (TwoDrawn w) := by
  have H := Lib.hid h; clear h
  go_enter Try.func34, Try.ntmps34
  go_wp2_with fail
  refine (l91Two_any ra len cap zs _ H.out).mono ?_
  rintro e w1 ⟨a, n, c, f, b, m, d, p, b', l, d', q, rfl, h1, h2, h3, h4⟩
  have H1 := Lib.hid h1; have H2 := Lib.hid h2; have H3 := Lib.hid h3; have H4 := Lib.hid h4; clear h1 h2 h3 h4
  go_wp2_with fail
  go_ret3
  exact ⟨a, n, c, f, b, m, d, p, b', l, d', q, rfl, H1.out, H2.out, H3.out, H4.out⟩
theorem DrawPileLess_any (ra : Option Addr) (len cap : Nat) (zs : List Int) (w : World) (h : IsRow .u8 w ra len cap zs) : Calls Try.prog 37 #[.slice ra len cap] w (TwoDrawn w) := by
  have H := Lib.hid h; clear h
  go_enter Try.func37, Try.ntmps37
  go_wp2_with fail
  refine (l91Two_any ra len cap zs _ H.out).mono ?_
  rintro e w1 ⟨a, n, c, f, b, m, d, p, b', l, d', q, rfl, h1, h2, h3, h4⟩
  have H1 := Lib.hid h1; have H2 := Lib.hid h2; have H3 := Lib.hid h3; have H4 := Lib.hid h4; clear h1 h2 h3 h4
  go_wp2_with fail
  go_ret3
  exact ⟨a, n, c, f, b, m, d, p, b', l, d', q, rfl, H1.out, H2.out, H3.out, H4.out⟩
end Go.Proofs.Ytbepcmjjgpbgaaa
