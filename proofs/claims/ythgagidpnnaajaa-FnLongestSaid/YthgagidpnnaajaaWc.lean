/- The law FnLongest: its walk. -/
import Derived.Test.YthgagidpnnaajaaDr
import Derived.Test.YthgagidpnnaajaaRSl
import Derived.Test.YthgagidpnnaajaaRIl
namespace Go.Proofs.Ythgagidpnnaajaa
open Go.RowKit
set_option linter.unusedVariables false
set_option maxRecDepth 100000
theorem draw_longest (a : Option Addr) (len cap : Nat) (zs : List Int) (w : World) (h : IsRow .u8 w a len cap zs) :
    Calls Try.prog 7 #[.slice a len cap] w fun e w' => ∃ x : Int, 0 ≤ x ∧ x ≤ 4000 ∧ e = .returned (.int .i64 x) ∧ Below w.heap.size w w' := by
  have H := Lib.hid h; clear h
  go_enter Try.func7, Try.ntmps7
  go_wp2_with fail
  refine (l91One_any a len cap zs _ H.out).mono ?_
  rintro e w1 ⟨x, hx0, hx1, rfl, g1⟩
  go_wp2_with fail
  go_ret
  exact ⟨x, hx0, hx1, rfl, g1⟩
theorem wFnLongest (a : Option Addr) (len cap : Nat) (zs : List Int) (w : World) (h : IsRow .u8 w a len cap zs) :
    Calls Try.prog 3 #[.slice a len cap] w fun e w' => e = .returned (.bool true) ∧ Below w.heap.size w w' := by
  have H := Lib.hid h; clear h
  by_cases hbig : 1048576 < len
  · go_enter Try.func3, Try.ntmps3
    go_wp2_with fail
    go_ret
    exact ⟨rfl, Below.refl _ _⟩
  · go_enter Try.func3, Try.ntmps3
    go_wp2_with fail
    refine (draw_longest a len cap zs _ H.out).mono ?_
    rintro e w1 ⟨n, hn0, hn1, rfl, g1⟩
    have c1 := sRomanLongest_any n
    have c2 := iRomanLongest_any n
    unfold romanLongestR at c1 c2
    by_cases h : 1 ≤ n ∧ n ≤ 3999
    · rw [if_pos h] at c1 c2
      obtain ⟨h1, h2⟩ := h
      obtain ⟨N, rfl⟩ := Int.eq_ofNat_of_zero_le hn0
      rw [Int.toNat_natCast] at c1 c2
      have hb := best_pos strictLen N (by omega)
      have hmax := best_max strictLen N (by omega)
      generalize best strictLen N = bb at *
      have Hmax := Lib.hid hmax; clear hmax
      have C1 := Lib.hid c1; have C2 := Lib.hid c2; clear c1 c2
      have c3 := iRomanOf_yes (bb : Int) (h1 := by omega) (h2 := by omega)
      rw [Int.toNat_natCast] at c3
      have hM : Hid (strictLen bb = (strict bb).length) := rfl
      generalize strict bb = M at *
      have hMl : M.length ≤ 15 ∨ True := .inr trivial
      clear hMl
      have C3 := Lib.hid c3; clear c3
      go_wp2_with fail
      refine (C2.out _).mono ?_
      rintro e w2 ⟨rfl, g2⟩
      go_wp2_with fail
      refine (C1.out _).mono ?_
      rintro e w3 ⟨rfl, g3⟩
      go_wp2_with fail
      refine (C3.out _).mono ?_
      rintro e w4 ⟨rfl, g4⟩
      have gb := bel_chain (bel_chain (bel_chain g1 g2) g3) g4
      clear g1 g2 g3 g4
      go_wp2_with fail
      go_loopw [10] (fun i wr => ∃ k : Nat, i = .int .i64 k ∧ 1 ≤ k ∧ k ≤ N + 1 ∧ Below w.heap.size w wr) (fun i _ => N + 1 - (intOf i).toNat)
      case atStart => exact ⟨1, rfl, by omega, by omega, gb⟩
      case round =>
        obtain ⟨k, rfl, hk1, hk2, hbel⟩ := hrel
        by_cases hlt : k ≤ N
        · have c3 := iRomanOf_yes (k : Int) (h1 := by omega) (h2 := by omega)
          rw [Int.toNat_natCast] at c3
          have hL : strictLen k = (strict k).length := rfl
          have hm := Hmax.out k hk1 hlt
          rw [hL, hM.out] at hm
          clear hL
          generalize strict k = L at *
          obtain ⟨hm1, hm2⟩ := hm
          have C3 := Lib.hid c3; clear c3
          by_cases hkb : k < bb
          · have hm2 := hm2 hkb
            have ht : ((L.length : Int) == (M.length : Int)) = false := by rw [beq_eq_false_iff_ne]; omega
            go_wp2_with fail
            refine (C3.out _).mono ?_
            rintro e w5 ⟨rfl, g5⟩
            go_wp2_with fail
            go_roundw
            case rel => exact ⟨k + 1, by go_num, by omega, by omega, bel_chain hbel g5⟩
            case measure => simp [intOf]; omega
          · clear hm2
            go_wp2_with fail
            refine (C3.out _).mono ?_
            rintro e w5 ⟨rfl, g5⟩
            go_wp2_with fail
            go_roundw
            case rel => exact ⟨k + 1, by go_num, by omega, by omega, bel_chain hbel g5⟩
            case measure => simp [intOf]; omega
        · go_wp2_with fail
          go_ret
          exact ⟨by first | rfl | (congr 2; simp; omega), hbel⟩
    · rw [if_neg h] at c1 c2
      have C1 := Lib.hid c1; have C2 := Lib.hid c2; clear c1 c2 h
      go_wp2_with fail
      refine (C2.out _).mono ?_
      rintro e w2 ⟨rfl, g2⟩
      go_wp2_with fail
      refine (C1.out _).mono ?_
      rintro e w3 ⟨rfl, g3⟩
      go_wp2_with fail
      go_ret
      exact ⟨rfl, bel_chain (bel_chain g1 g2) g3⟩
end Go.Proofs.Ythgagidpnnaajaa
