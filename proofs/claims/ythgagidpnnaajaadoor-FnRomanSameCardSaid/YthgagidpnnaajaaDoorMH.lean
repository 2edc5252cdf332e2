/- The law FnRomanSame: its draw and its walk. -/
import Derived.Test.YthgagidpnnaajaaDoorMG
import Derived.Test.YthgagidpnnaajaaDoorQX
import Derived.Test.YthgagidpnnaajaaDoorDt
namespace Go.Proofs.YthgagidpnnaajaaDoor
open Go.RowKit
set_option linter.unusedVariables false
set_option maxRecDepth 100000
theorem tdiv23 (x : Int) (h : 0 ≤ x) : x.tdiv 23 = x / 23 := Int.tdiv_eq_ediv_of_nonneg h
/-- the draw's last step: the number by two picks -/
theorem draw_same (a : Option Addr) (len cap : Nat) (zs : List Int) (w : World) (h : IsRow .u8 w a len cap zs) :
    Calls Tryd.prog 33 #[.slice a len cap] w fun e w' => ∃ k n : Int, e = .returned (.tuple #[.int .i64 k, .int .i64 n]) ∧ Below w.heap.size w w' := by
  have H := Lib.hid h; clear h
  go_enter Tryd.func33, Tryd.ntmps33
  go_wp2_with fail
  refine (l6Open_any a len cap zs _ H.out).mono ?_
  rintro e w1 ⟨a', l, c, rfl, hr, g1⟩
  have H1 := Lib.hid hr; clear hr
  go_wp2_with fail
  refine (pick_any _ a' l c 0 _ _ H1.out (by omega) (by omega) (by omega)).mono ?_
  rintro e w2 ⟨x, hx0, hx1, rfl, hr2, g2⟩
  have H2 := Lib.hid hr2; have G2 := Lib.hid g2; clear hr2 g2
  have e1 : IntKind.i64.wrap (1 + x) = 1 + x := IntWalk.i64_in _ (by omega)
  go_wp2_with fail
  refine (pick_any _ a' l c _ _ _ H2.out (by omega) (by omega) (by omega)).mono ?_
  rintro e w3 ⟨y, hy0, hy1, rfl, hr3, g3⟩
  have H3 := Lib.hid hr3; have G3 := Lib.hid (grown_trans G2.out g3); clear hr3 g3
  have e2 := tdiv23 y hy0
  have e3 : IntKind.i64.wrap (y / 23) = y / 23 := IntWalk.i64_in _ (by omega)
  have e4 : IntKind.i64.wrap (1 + x - y / 23) = 1 + x - y / 23 := IntWalk.i64_in _ (by omega)
  go_wp2_with fail
  refine (l91Loose_any _ a' l c _ _ H3.out (by omega)).mono ?_
  rintro e w4 ⟨z, p4, hz, rfl, hr4, hp4, g4⟩
  obtain ⟨z, rfl⟩ := as_list z
  have ez : (⟨z.toArray⟩ : ByteArray).size = z.length := by show z.toArray.size = z.length; simp
  rw [ez] at hz
  have H4 := Lib.hid hr4; have G4 := Lib.hid (grown_trans G3.out g4); clear hr4 g4 ez
  have c1 := sRomanLoose_any z
  unfold looseR at c1
  by_cases hok : 1 ≤ z.length ∧ z.length ≤ 16 ∧ okL z = true
  · rw [if_pos hok] at c1
    have C1 := Lib.hid (c1 w4 (by omega)); clear c1 hok
    generalize looseL z = L at *
    go_wp2_with fail
    refine C1.out.mono ?_
    rintro e w5 ⟨rfl, rfl⟩
    go_wp2_with fail
    refine (pick_any _ a' l c _ _ _ H4.out (by omega) (by omega) (by omega)).mono ?_
    rintro e w5 ⟨t, ht0, ht1, rfl, hr5, g5⟩
    have H5 := Lib.hid hr5; have G5 := Lib.hid (grown_trans G4.out g5); clear hr5 g5
    by_cases ht : t = 0
    · subst ht
      go_wp2_with fail
      go_ret2
      exact ⟨_, _, rfl, bel_grown g1 G5.out g1.size (Nat.le_refl _)⟩
    · go_wp2_with fail
      refine (pick_any _ a' l c _ _ _ H5.out (by omega) (by omega) (by omega)).mono ?_
      rintro e w6 ⟨u, hu0, hu1, rfl, hr6, g6⟩
      have H6 := Lib.hid hr6; have G6 := Lib.hid (grown_trans G5.out g6); clear hr6 g6
      go_wp2_with fail
      refine (pick_any _ a' l c _ _ _ H6.out (by omega) (by omega) (by omega)).mono ?_
      rintro e w7 ⟨q, hq0, hq1, rfl, hr7, g7⟩
      have G7 := Lib.hid (grown_trans G6.out g7); clear hr7 g7
      have f1 := tdiv23 q hq0
      have f2 : IntKind.i64.wrap (q / 23) = q / 23 := IntWalk.i64_in _ (by omega)
      have f3 : IntKind.i64.wrap (q / 23 * 5000) = q / 23 * 5000 := IntWalk.i64_in _ (by omega)
      have f4 : IntKind.i64.wrap (u + q / 23 * 5000) = u + q / 23 * 5000 := IntWalk.i64_in _ (by omega)
      go_wp2_with fail
      go_ret2
      exact ⟨_, _, rfl, bel_grown g1 G7.out g1.size (Nat.le_refl _)⟩
  · rw [if_neg hok] at c1
    have C1 := Lib.hid (c1 w4 (by omega)); clear c1 hok
    go_wp2_with fail
    refine C1.out.mono ?_
    rintro e w5 ⟨rfl, rfl⟩
    go_wp2_with fail
    refine (pick_any _ a' l c _ _ _ H4.out (by omega) (by omega) (by omega)).mono ?_
    rintro e w6 ⟨u, hu0, hu1, rfl, hr6, g6⟩
    have H6 := Lib.hid hr6; have G6 := Lib.hid (grown_trans G4.out g6); clear hr6 g6
    go_wp2_with fail
    refine (pick_any _ a' l c _ _ _ H6.out (by omega) (by omega) (by omega)).mono ?_
    rintro e w7 ⟨q, hq0, hq1, rfl, hr7, g7⟩
    have G7 := Lib.hid (grown_trans G6.out g7); clear hr7 g7
    have f1 := tdiv23 q hq0
    have f2 : IntKind.i64.wrap (q / 23) = q / 23 := IntWalk.i64_in _ (by omega)
    have f3 : IntKind.i64.wrap (q / 23 * 5000) = q / 23 * 5000 := IntWalk.i64_in _ (by omega)
    have f4 : IntKind.i64.wrap (u + q / 23 * 5000) = u + q / 23 * 5000 := IntWalk.i64_in _ (by omega)
    go_wp2_with fail
    go_ret2
    exact ⟨_, _, rfl, bel_grown g1 G7.out g1.size (Nat.le_refl _)⟩
theorem wFnRomanSame (a : Option Addr) (len cap : Nat) (zs : List Int) (w : World) (h : IsRow .u8 w a len cap zs) (hl : LV w) :
    Calls Tryd.prog 9 #[.slice a len cap] w fun e w' => e = .returned (.bool true) ∧ Below w.heap.size w w' := by
  have H := Lib.hid h; have HL := Lib.hid hl; clear h hl
  by_cases hbig : 1048576 < len
  · go_enter Tryd.func9, Tryd.ntmps9
    go_wp2_with fail
    go_ret
    exact ⟨rfl, Below.refl _ _⟩
  · go_enter Tryd.func9, Tryd.ntmps9
    go_wp2_with fail
    refine (draw_same a len cap zs _ H.out).mono ?_
    rintro e w1 ⟨k, n, rfl, g1⟩
    have HL1 := Lib.hid (HL.out.step g1)
    have c1 := sRomanSame_any k n
    have c2 := iRomanSame_any k n
    have c3 := iRomanShort_any n
    unfold sameR at c1 c2
    unfold romanShortR at c3
    by_cases hk : (1 ≤ k ∧ k ≤ 5) ∧ (1 ≤ n ∧ n ≤ 5000)
    · rw [if_pos hk] at c1 c2
      have hb : same k.toNat n ≤ 1000000 := by
        have := sum7_le (f := fun c => cnt k.toNat c n) (m := 7 ^ 5) fun c _ => Nat.le_trans (cnt_le k.toNat c n) (Nat.pow_le_pow_right (by omega) (by omega))
        show sum7 _ ≤ _
        omega
      by_cases hn : n ≤ 3999
      · rw [if_pos ⟨hk.2.1, hn⟩] at c3
        obtain ⟨K, rfl⟩ := Int.eq_ofNat_of_zero_le (show 0 ≤ k by omega)
        obtain ⟨N, rfl⟩ := Int.eq_ofNat_of_zero_le (show 0 ≤ n by omega)
        have hs := same_short K N (by omega) (by omega) (by omega)
        rw [Int.toNat_natCast] at c1 c2 hb
        generalize shortT N = T at *
        generalize same K N = S at *
        have hsz : (⟨T.toArray⟩ : ByteArray).size = T.length := by show T.toArray.size = T.length; simp
        have C1 := Lib.hid c1; have C2 := Lib.hid c2; have C3 := Lib.hid c3; clear c1 c2 c3
        go_wp2_with fail
        refine (C2.out _ HL1.out).mono ?_
        rintro e w2 ⟨rfl, g2⟩
        have HL2 := Lib.hid (HL1.out.step g2)
        go_wp2_with fail
        refine (C1.out _).mono ?_
        rintro e w3 ⟨rfl, rfl⟩
        go_wp2_with fail
        refine (C3.out _ HL2.out).mono ?_
        rintro e w4 ⟨rfl, g4⟩
        obtain ⟨hs1, hs2⟩ := hs
        by_cases hS : S = 0
        · subst hS
          have hne : ¬ (T.length : Int) = (K : Int) := by omega
          clear hs1 hs2
          go_wp2_with fail
          go_ret
          exact ⟨rfl, bel_chain (bel_chain g1 g2) g4⟩
        · have hS1 : 0 < S := by omega
          have hS2 : ¬ (S : Int) = 0 := by omega
          have hle : (T.length : Int) ≤ (K : Int) := by omega
          clear hs1 hs2 hS
          go_wp2_with fail
          all_goals
            go_ret
            exact ⟨rfl, bel_chain (bel_chain g1 g2) g4⟩
      · rw [if_neg (fun e => hn e.2)] at c3
        generalize same k.toNat n = S at *
        have C1 := Lib.hid c1; have C2 := Lib.hid c2; have C3 := Lib.hid c3; clear c1 c2 c3 hk
        go_wp2_with fail
        refine (C2.out _ HL1.out).mono ?_
        rintro e w2 ⟨rfl, g2⟩
        have HL2 := Lib.hid (HL1.out.step g2)
        go_wp2_with fail
        refine (C1.out _).mono ?_
        rintro e w3 ⟨rfl, rfl⟩
        go_wp2_with fail
        refine (C3.out _ HL2.out).mono ?_
        rintro e w4 ⟨rfl, g4⟩
        go_wp2_with fail
        go_ret
        exact ⟨rfl, bel_chain (bel_chain g1 g2) g4⟩
    · rw [if_neg hk] at c1 c2
      clear c3 hk
      have C1 := Lib.hid c1; have C2 := Lib.hid c2; clear c1 c2
      go_wp2_with fail
      refine (C2.out _ HL1.out).mono ?_
      rintro e w2 ⟨rfl, g2⟩
      go_wp2_with fail
      refine (C1.out _).mono ?_
      rintro e w3 ⟨rfl, rfl⟩
      go_wp2_with fail
      go_ret
      exact ⟨rfl, bel_chain g1 g2⟩
end Go.Proofs.YthgagidpnnaajaaDoor
