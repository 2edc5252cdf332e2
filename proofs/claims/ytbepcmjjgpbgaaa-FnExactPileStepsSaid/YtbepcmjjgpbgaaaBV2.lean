/- The model's chapter 2 (package spec): PileSum, PileLess, PileSize, PileSteps. -/
import Derived.Test.YtbepcmjjgpbgaaaBV
namespace Go.Proofs.Ytbepcmjjgpbgaaa
open Go.RowKit
set_option linter.unusedVariables false
set_option maxRecDepth 100000
def sumB (f : Nat → Int) (n : Nat) (p : Nat → Int) (m : Nat) (q : Nat → Int) (l : Nat) : Bool := pilB f n p m && (pilB f n q l && ofB f n (val f p n + val f q n))
theorem PileR.no {w w1 : World} {f : Nat → Int} {n : Nat} {N : Int} {ok : Bool} {a : Option Addr} {c : Nat} (h : ok = false) (g : Below w.heap.size w w1) : PileR w w1 f n N ok (.returned (.tuple #[.slice a 0 c, .bool false])) :=
  ⟨a, 0, c, by rw [h], by rw [h]; rfl, Res.none_ _ _ _ _ _, g⟩
theorem PileR.later {w w1 w2 : World} {f : Nat → Int} {n : Nat} {N : Int} {ok ok' : Bool} {e : Ending} (h : PileR w1 w2 f n N ok e) (g : Below w.heap.size w w1) (hk : ok = ok') : PileR w w2 f n N ok' e := by
  obtain ⟨a, m, c, rfl, rfl, hr, hb⟩ := h
  subst hk
  exact ⟨a, _, c, rfl, rfl, hr.mono g.size (Nat.le_refl _), g.trans (hb.mono g.size)⟩
theorem sPileSum_any (a b b' : Option Addr) (n m l c d d' : Nat) (f p q : Nat → Int) (w : World) (h : Ls w a n f) (h' : Ls w b m p) (h'' : Ls w b' l q) (hn : n ≤ 10000000) (hm : m ≤ 10000000) (hl : l ≤ 10000000) :
    Calls Try.prog 36 #[.slice a n c, .slice b m d, .slice b' l d'] w fun e w' => PileR w w' f n (val f p n + val f q n) (sumB f n p m q l) e := by
  have H := Lib.hid h; have H' := Lib.hid h'; have H'' := Lib.hid h''; clear h h' h''
  have C1 := Lib.hid (sl2Pile_any a b n m c d f p w H.out H'.out hn hm)
  have C2 : Hid (∀ w1, Mid 0 0 w w1 → Calls Try.prog 61 #[.slice a n c, .slice b' l d'] w1 fun e w' => e = .returned (.bool (pilB f n q l)) ∧ Mid 0 0 w1 w') := fun w1 g => sl2Pile_any a b' n l c d' f q w1 (H.out.below g.bel0) (H''.out.below g.bel0) hn hl
  by_cases hp : pilB f n p m = true
  · rw [hp] at C1
    by_cases hq : pilB f n q l = true
    · rw [hq] at C2
      obtain ⟨s1, s2, s3, rfl, s4, s5⟩ := pilB_sys hp
      obtain ⟨_, _, _, rfl, t4, t5⟩ := pilB_sys hq
      have B1 := (val_bd s1.pos s3 s4 s5 s2 l (Nat.le_refl _)); have B2 := (val_bd s1.pos s3 t4 t5 s2 l (Nat.le_refl _))
      obtain ⟨b10, b11, _⟩ := B1
      obtain ⟨b20, b21, _⟩ := B2
      have C3 : Hid (∀ w1, Mid 0 0 w w1 → Calls Try.prog 62 #[.slice a l c, .slice b l d] w1 fun e w' => e = .returned (.int .i64 (val f p l)) ∧ Mid 0 0 w1 w') := fun w1 g => sl2Value_any a b l c d f p w1 (H.out.below g.bel0) (H'.out.below g.bel0) hp
      have C4 : Hid (∀ w1, Mid 0 0 w w1 → Calls Try.prog 62 #[.slice a l c, .slice b' l d'] w1 fun e w' => e = .returned (.int .i64 (val f q l)) ∧ Mid 0 0 w1 w') := fun w1 g => sl2Value_any a b' l c d' f q w1 (H.out.below g.bel0) (H''.out.below g.bel0) hq
      have C5 : Hid (∀ w1, Mid 0 0 w w1 → Calls Try.prog 25 #[.slice a l c, .int .i64 (val f p l + val f q l)] w1 fun e w' => PileR w1 w' f l (val f p l + val f q l) (ofB f l (val f p l + val f q l)) e) := fun w1 g => sPileOf_any a l c f _ w1 (H.out.below g.bel0) hn
      have HS : Hid (ofB f l (val f p l + val f q l) = sumB f l p l q l) := by
        show _ = _; unfold sumB; rw [hp, hq]; rfl
      clear hp hq s1 s3 s4 s5 t4 t5
      generalize val f p l = x at *
      generalize val f q l = y at *
      go_enter Try.func36, Try.ntmps36
      go_wp2_with fail
      refine C1.out.mono ?_
      rintro e w1 ⟨rfl, g1⟩
      have G1 := Lib.hid g1; clear g1
      go_wp2_with fail
      refine (C2.out _ G1.out).mono ?_
      rintro e w2 ⟨rfl, g2⟩
      have G2 := Lib.hid (G1.out.trans g2); clear g2 G1
      go_wp2_with fail
      refine (C3.out _ G2.out).mono ?_
      rintro e w3 ⟨rfl, g3⟩
      have G3 := Lib.hid (G2.out.trans g3); clear g3 G2
      go_wp2_with fail
      refine (C4.out _ G3.out).mono ?_
      rintro e w4 ⟨rfl, g4⟩
      have G4 := Lib.hid (G3.out.trans g4); clear g4 G3
      go_wp2_with fail
      refine (C5.out _ G4.out).mono ?_
      rintro e w5 hr
      obtain ⟨a1, m1, c1, rfl, hm1, hres, hb⟩ := hr
      have HR : Hid (PileR w w5 f l (x + y) (sumB f l p l q l) (.returned (.tuple #[.slice a1 m1 c1, .bool (ofB f l (x + y))]))) :=
        PileR.later ⟨a1, m1, c1, rfl, hm1, hres, hb⟩ (G4.out.bel0) HS.out
      clear hm1 hres hb HS
      go_wp2_with fail
      go_ret2
      exact HR.out
    · have HS : Hid (sumB f n p m q l = false) := by
        show _ = _; unfold sumB; rw [show pilB f n q l = false by simpa using hq]; simp
      rw [show pilB f n q l = false by simpa using hq] at C2
      clear hp hq
      go_enter Try.func36, Try.ntmps36
      go_wp2_with fail
      refine C1.out.mono ?_
      rintro e w1 ⟨rfl, g1⟩
      have G1 := Lib.hid g1; clear g1
      go_wp2_with fail
      refine (C2.out _ G1.out).mono ?_
      rintro e w2 ⟨rfl, g2⟩
      have G2 := Lib.hid (G1.out.trans g2); clear g2 G1
      go_wp2_with fail
      go_ret2
      exact PileR.no HS.out (G2.out.bel0.alloc (Nat.le_of_eq G2.out.size.symm) _)
  · have HS : Hid (sumB f n p m q l = false) := by
      show _ = _; unfold sumB; rw [show pilB f n p m = false by simpa using hp]; rfl
    rw [show pilB f n p m = false by simpa using hp] at C1
    clear hp
    go_enter Try.func36, Try.ntmps36
    go_wp2_with fail
    refine C1.out.mono ?_
    rintro e w1 ⟨rfl, g1⟩
    have G1 := Lib.hid g1; clear g1
    go_wp2_with fail
    go_ret2
    exact PileR.no HS.out (G1.out.bel0.alloc (Nat.le_of_eq G1.out.size.symm) _)
def lessB (f : Nat → Int) (n : Nat) (p : Nat → Int) (m : Nat) (q : Nat → Int) (l : Nat) : Bool := valB f n p m && (valB f n q l && decide (val f q n ≤ val f p n))
theorem valR_eq {f : Nat → Int} {n : Nat} {p : Nat → Int} {m : Nat} (h : valB f n p m = true) : valR f n p m = val f p n := by unfold valR; rw [if_pos h]
set_option maxHeartbeats 400000 in
theorem sPileLess_any (a b b' : Option Addr) (n m l c d d' : Nat) (f p q : Nat → Int) (w : World) (h : Ls w a n f) (h' : Ls w b m p) (h'' : Ls w b' l q) (hn : n ≤ 10000000) (hm : m ≤ 10000000) (hl : l ≤ 10000000) :
    Calls Try.prog 39 #[.slice a n c, .slice b m d, .slice b' l d'] w fun e w' => PileR w w' f n (val f p n - val f q n) (lessB f n p m q l) e := by
  have H := Lib.hid h; have H' := Lib.hid h'; have H'' := Lib.hid h''; clear h h' h''
  have C1 := Lib.hid (sPileValue_any a b n m c d f p w H.out H'.out hn hm)
  have C2 : Hid (∀ w1, Mid 0 0 w w1 → Calls Try.prog 30 #[.slice a n c, .slice b' l d'] w1 fun e w' => e = .returned (.tuple #[.int .i64 (valR f n q l), .bool (valB f n q l)]) ∧ Mid 0 0 w1 w') := fun w1 g => sPileValue_any a b' n l c d' f q w1 (H.out.below g.bel0) (H''.out.below g.bel0) hn hl
  by_cases hp : valB f n p m = true
  · rw [hp, valR_eq hp] at C1
    by_cases hq : valB f n q l = true
    · rw [hq, valR_eq hq] at C2
      by_cases hlt : val f p n < val f q n
      · have HS : Hid (lessB f n p m q l = false) := by
          show _ = _; unfold lessB; rw [show decide (val f q n ≤ val f p n) = false from decide_eq_false (by omega)]; simp
        clear hp hq
        generalize val f p n = x at *
        generalize val f q n = y at *
        go_enter Try.func39, Try.ntmps39
        go_wp2_with fail
        refine C1.out.mono ?_
        rintro e w1 ⟨rfl, g1⟩
        have G1 := Lib.hid g1; clear g1
        go_wp2_with fail
        refine (C2.out _ G1.out).mono ?_
        rintro e w2 ⟨rfl, g2⟩
        have G2 := Lib.hid (G1.out.trans g2); clear g2 G1
        go_wp2_with fail
        go_ret2
        exact PileR.no HS.out (G2.out.bel0.alloc (Nat.le_of_eq G2.out.size.symm) _)
      · obtain ⟨k1, k2⟩ := valB_spec.1 hp
        obtain ⟨l1, l2⟩ := valB_spec.1 hq
        obtain ⟨s1, s2, s3, rfl, s4, s5⟩ := pilB_sys k1
        obtain ⟨_, _, _, rfl, t4, t5⟩ := pilB_sys l1
        have b1 := (val_bd s1.pos s3 s4 s5 s2 l (Nat.le_refl _)).1
        have b2 := (val_bd s1.pos s3 t4 t5 s2 l (Nat.le_refl _)).1
        have HS : Hid (lessB f l p l q l = true) := by
          show _ = _; unfold lessB; rw [hp, hq, decide_eq_true (by omega : val f q l ≤ val f p l)]; rfl
        have C5 : Hid (∀ w1, Mid 0 0 w w1 → Calls Try.prog 57 #[.slice a l c, .int .i64 (val f p l - val f q l)] w1 fun e w' => e = .returned (.slice (some ⟨w1.heap.size, 0, none⟩) l l) ∧ Own w' w1.heap.size l (pl f l (val f p l - val f q l)) ∧ Below w1.heap.size w1 w' ∧ w'.heap.size = w1.heap.size + 1) := fun w1 g => sl2Of_any a l c f _ w1 (H.out.below g.bel0) s1 s2 s3 (by omega) (by omega)
        clear hp hq k1 l1 s1 s3 s4 s5 t4 t5
        generalize val f p l = x at *
        generalize val f q l = y at *
        go_enter Try.func39, Try.ntmps39
        go_wp2_with fail
        refine C1.out.mono ?_
        rintro e w1 ⟨rfl, g1⟩
        have G1 := Lib.hid g1; clear g1
        go_wp2_with fail
        refine (C2.out _ G1.out).mono ?_
        rintro e w2 ⟨rfl, g2⟩
        have G2 := Lib.hid (G1.out.trans g2); clear g2 G1
        go_wp2_with fail
        refine (C5.out _ G2.out).mono ?_
        rintro e w3 ⟨rfl, hown, g3, hsz⟩
        have Hown := Lib.hid hown; have G3 := Lib.hid g3; have Hsz := Lib.hid hsz; clear hown g3 hsz
        go_wp2_with fail
        go_ret2
        refine ⟨_, l, l, by rw [HS.out]; rfl, by rw [HS.out, if_pos rfl], ?_, G2.out.bel0.trans (G3.out.mono (Nat.le_of_eq G2.out.size.symm))⟩
        exact (Hown.out.res).mono (Nat.le_of_eq G2.out.size.symm) (by rw [Hsz.out]; exact Nat.le_refl _)
    · have HS : Hid (lessB f n p m q l = false) := by
        show _ = _; unfold lessB; rw [show valB f n q l = false by simpa using hq]; simp
      rw [show valB f n q l = false by simpa using hq] at C2
      clear hp hq
      go_enter Try.func39, Try.ntmps39
      go_wp2_with fail
      refine C1.out.mono ?_
      rintro e w1 ⟨rfl, g1⟩
      have G1 := Lib.hid g1; clear g1
      go_wp2_with fail
      refine (C2.out _ G1.out).mono ?_
      rintro e w2 ⟨rfl, g2⟩
      have G2 := Lib.hid (G1.out.trans g2); clear g2 G1
      go_wp2_with fail
      go_ret2
      exact PileR.no HS.out (G2.out.bel0.alloc (Nat.le_of_eq G2.out.size.symm) _)
  · have HS : Hid (lessB f n p m q l = false) := by
      show _ = _; unfold lessB; rw [show valB f n p m = false by simpa using hp]; rfl
    rw [show valB f n p m = false by simpa using hp] at C1
    clear hp
    go_enter Try.func39, Try.ntmps39
    go_wp2_with fail
    refine C1.out.mono ?_
    rintro e w1 ⟨rfl, g1⟩
    have G1 := Lib.hid g1; clear g1
    go_wp2_with fail
    refine (C2.out _ G1.out).mono ?_
    rintro e w2 ⟨rfl, g2⟩
    have G2 := Lib.hid (G1.out.trans g2); clear g2 G1
    go_wp2_with fail
    go_ret2
    exact PileR.no HS.out (G2.out.bel0.alloc (Nat.le_of_eq G2.out.size.symm) _)
def sizR (f : Nat → Int) (n : Nat) (p : Nat → Int) (m : Nat) : Int := if pilB f n p m = true then sumF p n else 0
theorem sum_bd {p : Nat → Int} {n : Nat} (h0 : ∀ j, j < n → 0 ≤ p j) (h1 : ∀ j, j < n → p j ≤ 1000000) (hn : n ≤ 6) : ∀ k, k ≤ n → 0 ≤ sumF p k ∧ sumF p k ≤ 1000000 * k
  | 0, _ => by simp [sumF]
  | k + 1, hk => by
    have := sum_bd h0 h1 hn k (by omega)
    have := h0 k (by omega)
    have := h1 k (by omega)
    simp only [sumF]
    omega
theorem sPileSize_any (a b : Option Addr) (n m c d : Nat) (f p : Nat → Int) (w : World) (h : Ls w a n f) (h' : Ls w b m p) (hn : n ≤ 10000000) (hm : m ≤ 10000000) :
    Calls Try.prog 41 #[.slice a n c, .slice b m d] w fun e w' => e = .returned (.tuple #[.int .i64 (sizR f n p m), .bool (pilB f n p m)]) ∧ Mid 0 0 w w' := by
  have H := Lib.hid h; have H' := Lib.hid h'; clear h h'
  have C1 := Lib.hid (sl2Pile_any a b n m c d f p w H.out H'.out hn hm)
  by_cases hp : pilB f n p m = true
  · obtain ⟨s1, s2, s3, rfl, s4, s5⟩ := pilB_sys hp
    have Bd := Lib.hid (sum_bd s4 s5 s2)
    have S4 := Lib.hid s4; have S5 := Lib.hid s5; have Hp := Lib.hid hp
    have HR : Hid (sizR f m p m = sumF p m) := by show _ = _; unfold sizR; rw [if_pos hp]
    rw [hp] at C1
    clear s1 s3 s4 s5 hp
    go_enter Try.func41, Try.ntmps41
    go_wp2_with fail
    refine C1.out.mono ?_
    rintro e w1 ⟨rfl, g1⟩
    have G1 := Lib.hid g1; clear g1
    go_wp2_with fail
    go_loop [6, 7] (fun x i => ∃ k : Nat, i = .int .i64 k ∧ k ≤ m ∧ x = .int .i64 (sumF p k)) (fun _ i => m - (intOf i).toNat)
    case atStart => exact ⟨0, rfl, by omega, rfl⟩
    case round =>
      obtain ⟨k, rfl, hk, rfl⟩ := hrel
      obtain ⟨v1, v2⟩ := Bd.out k hk
      by_cases hlt : k < m
      · obtain ⟨b2, o2, rfl, hb2, hc2⟩ := H'.out.below G1.out.bel0 k hlt
        have u1 := S4.out k hlt
        have u2 := S5.out k hlt
        have Hst : Hid (sumF p (k + 1) = sumF p k + p k) := rfl
        generalize sumF p k = V at *
        generalize p k = z at *
        go_wp2_with fail
        go_round
        case rel => exact ⟨k + 1, by go_num, by omega, by rw [Hst.out]⟩
        case measure => simp [intOf]; omega
      · obtain rfl : k = m := by omega
        go_wp2_with fail
        go_ret2
        exact ⟨ret_int_bool HR.out.symm Hp.out.symm, G1.out⟩
  · have HB := Lib.hid (show pilB f n p m = false by simpa using hp)
    have HR : Hid (sizR f n p m = 0) := by show _ = _; unfold sizR; rw [HB.out]; rfl
    rw [HB.out] at C1
    clear hp
    go_enter Try.func41, Try.ntmps41
    go_wp2_with fail
    refine C1.out.mono ?_
    rintro e w1 ⟨rfl, g1⟩
    have G1 := Lib.hid g1; clear g1
    go_wp2_with fail
    go_ret2
    exact ⟨ret_int_bool HR.out.symm HB.out.symm, G1.out⟩
def stpR (f : Nat → Int) (n : Nat) (p : Nat → Int) (m : Nat) : Int := if valB f n p m = true then stp f p (n - 1) else 0
theorem stp_bd {f p : Nat → Int} {n : Nat} (hs : SysF f n) (h0 : ∀ j, j < n → 0 ≤ p j) (h1 : ∀ j, j < n → p j ≤ 1000000) (hn : n ≤ 6) : ∀ k, k < n → 0 ≤ stp f p k ∧ stp f p k ≤ 1000000 * k
  | 0, _ => by simp [stp, sumF]
  | k + 1, hk => by
    have := stp_bd hs h0 h1 hn k (by omega)
    have := car_nonneg hs h0 (k + 1) hk
    have := car_le hs h0 h1 (by omega) (k + 1) hk
    unfold stp at *
    simp only [sumF]
    omega
set_option maxHeartbeats 800000 in
theorem sPileSteps_any (a b : Option Addr) (n m c d : Nat) (f p : Nat → Int) (w : World) (h : Ls w a n f) (h' : Ls w b m p) (hn : n ≤ 10000000) (hm : m ≤ 10000000) :
    Calls Try.prog 43 #[.slice a n c, .slice b m d] w fun e w' => e = .returned (.tuple #[.int .i64 (stpR f n p m), .bool (valB f n p m)]) ∧ Mid 0 0 w w' := by
  have H := Lib.hid h; have H' := Lib.hid h'; clear h h'
  have C1 := Lib.hid (sPileValue_any a b n m c d f p w H.out H'.out hn hm)
  by_cases hp : valB f n p m = true
  · obtain ⟨s1, s2, s3, rfl, s4, s5⟩ := pilB_sys (valB_spec.1 hp).1
    have Bd := Lib.hid (stp_bd s1 s4 s5 s2)
    have Cn := Lib.hid (car_nonneg s1 s4); have Cl := Lib.hid (car_le s1 s4 s5 (by omega))
    have s6 := s1.len
    have S1 := Lib.hid s1; have S3 := Lib.hid s3; have S4 := Lib.hid s4; have S5 := Lib.hid s5; have Hp := Lib.hid hp
    have HR : Hid (stpR f m p m = stp f p (m - 1)) := by show _ = _; unfold stpR; rw [if_pos hp]
    rw [hp] at C1
    clear s1 s3 s4 s5 hp
    go_enter Try.func43, Try.ntmps43
    go_wp2_with fail
    refine C1.out.mono ?_
    rintro e w1 ⟨rfl, g1⟩
    have G1 := Lib.hid g1; clear g1
    go_wp2_with fail
    go_loopw [8, 9, 10] (fun x y i wr => ∃ k q : Nat, i = .int .i64 k ∧ k + 1 ≤ m ∧ x = .int .i64 (stp f p k) ∧ y = .int .i64 (car f p k) ∧ wr = w1.drewN q) (fun _ _ i _ => m - (intOf i).toNat)
    case atStart => exact ⟨0, 0, rfl, by omega, rfl, rfl, rfl⟩
    case round =>
      obtain ⟨k, q, rfl, hk, rfl, rfl, rfl⟩ := hrel
      by_cases hlt : k + 1 < m
      · have hlt' : (k : Int) + 1 < m := by omega
        obtain ⟨b1, o1, rfl, hb1, hc1⟩ := (H.out.below G1.out.bel0).pos (by omega)
        obtain ⟨b2, o2, rfl, hb2, hc2⟩ := H'.out.below G1.out.bel0 k (by omega)
        have hck := hc1 k (by omega)
        have hcl := hc1 (k + 1) hlt
        have x1 := S1.out.pos k (by omega)
        have y1 := S1.out.pos (k + 1) hlt
        have y2 := S3.out (k + 1) hlt
        obtain ⟨q1, q2, q3⟩ := quo_bd (f k) (f (k + 1)) x1 y1 y2
        have r2 := S1.out.rat_two hlt
        have u1 := S4.out k (by omega)
        have u2 := S5.out k (by omega)
        have u3 := Cn.out k (by omega)
        have u4 := Cl.out k (by omega)
        have u5 := Cn.out (k + 1) hlt
        have u6 := Cl.out (k + 1) hlt
        obtain ⟨u7, u8⟩ := Bd.out k (by omega)
        have Hr : Hid (rat f k = f (k + 1) / f k) := rfl
        have Hc : Hid (car f p (k + 1) = (p k + car f p k) / rat f k) := rfl
        have Hst : Hid (stp f p (k + 1) = stp f p k + car f p (k + 1)) := rfl
        have ht : (p k + car f p k).tdiv (f (k + 1) / f k) = car f p (k + 1) := by
          rw [Int.tdiv_eq_ediv_of_nonneg (by omega), Hc.out, Hr.out]
        rw [Hr.out] at r2
        have hw1 : IntKind.i64.wrap (p k + car f p k) = p k + car f p k := IntWalk.i64_in _ (by omega)
        have r3 : ((f (k + 1) / f k) == 0) = false := by rw [beq_eq_false_iff_ne]; omega
        clear hc1 Hr Hc
        obtain ⟨nc, hnc⟩ : ∃ nc, car f p (k + 1) = nc := ⟨_, rfl⟩
        rw [hnc] at u5 u6 ht Hst
        have Hnc := Lib.hid hnc; clear hnc
        generalize stp f p k = st at *
        generalize car f p k = oc at *
        generalize f (k + 1) = y at *
        generalize f k = x at *
        generalize p k = z at *
        have hw0 : IntKind.i64.wrap ((k : Int) + 1) = (k : Int) + 1 := IntWalk.i64_in _ (by omega)
        go_wp2_with fail
        go_quiet (fail)
        go_wp2_with fail
        go_roundw
        case rel => exact ⟨k + 1, _, by go_num, by omega, by rw [Hst.out], by rw [Hnc.out], rfl⟩
        case measure => simp [intOf]; omega
      · have hlt' : ¬ (k : Int) + 1 < m := by omega
        obtain rfl : k = m - 1 := by omega
        go_wp2_with fail
        go_ret2
        exact ⟨ret_int_bool HR.out.symm Hp.out.symm, G1.out.drewN _⟩
  · have HB := Lib.hid (show valB f n p m = false by simpa using hp)
    have HR : Hid (stpR f n p m = 0) := by show _ = _; unfold stpR; rw [HB.out]; rfl
    have HV : Hid (valR f n p m = 0) := by show _ = _; unfold valR; rw [HB.out]; rfl
    rw [HB.out, HV.out] at C1
    clear hp
    go_enter Try.func43, Try.ntmps43
    go_wp2_with fail
    refine C1.out.mono ?_
    rintro e w1 ⟨rfl, g1⟩
    have G1 := Lib.hid g1; clear g1
    go_wp2_with fail
    go_ret2
    exact ⟨ret_int_bool HR.out.symm HB.out.symm, G1.out⟩
end Go.Proofs.Ytbepcmjjgpbgaaa
