/- The laws FnRoman, FnPiled, FnLoose, FnStrict, FnAdd: their walks. -/
import Derived.Test.YthgagidpnnaajaaDoorDt
import Derived.Test.YthgagidpnnaajaaDoorSV
import Derived.Test.YthgagidpnnaajaaDoorLP
namespace Go.Proofs.YthgagidpnnaajaaDoor
open Go.RowKit
set_option linter.unusedVariables false
set_option maxRecDepth 100000
theorem ret_dec {p : Prop} [Decidable p] (h : p) : Ending.returned (.bool (decide p)) = .returned (.bool true) := by rw [decide_eq_true h]
theorem wFnRoman (a : Option Addr) (len cap : Nat) (zs : List Int) (w : World) (h : IsRow .u8 w a len cap zs) (hl : LV w) :
    Calls Tryd.prog 3 #[.slice a len cap] w fun e w' => e = .returned (.bool true) ∧ Below w.heap.size w w' := by
  have H := Lib.hid h; have HL := Lib.hid hl; clear h hl
  by_cases hbig : 1048576 < len
  · go_enter Tryd.func3, Tryd.ntmps3
    go_wp2_with fail
    go_ret
    exact ⟨rfl, Below.refl _ _⟩
  · go_enter Tryd.func3, Tryd.ntmps3
    go_wp2_with fail
    refine (draw_of a len cap zs _ H.out).mono ?_
    rintro e w1 ⟨n, hn0, hn1, rfl, g1⟩
    have HL1 := Lib.hid (HL.out.step g1)
    have c1 := sRomanOf_any n
    have c2 := iRomanOf_any n
    unfold romanOfR at c1 c2
    by_cases hn : 1 ≤ n ∧ n ≤ 3999
    · rw [if_pos hn] at c1 c2
      obtain ⟨N, rfl⟩ := Int.eq_ofNat_of_zero_le hn0
      rw [Int.toNat_natCast] at c1 c2
      have c3 := iRomanLoose_any (strict N)
      have c4 := iRomanStrict_any (strict N)
      have hS := strict_len N (by omega)
      rw [strict_looseR N (by omega) (by omega)] at c3
      rw [strict_ok N (by omega) (by omega)] at c4
      generalize strict N = S at *
      have C1 := Lib.hid c1; have C2 := Lib.hid c2; have C3 := Lib.hid c3; have C4 := Lib.hid c4; clear c1 c2 c3 c4
      go_wp2_with fail
      refine (C2.out _).mono ?_
      rintro e w2 ⟨rfl, g2⟩
      go_wp2_with fail
      refine (C1.out _).mono ?_
      rintro e w3 ⟨rfl, g3⟩
      have HL3 := Lib.hid ((HL1.out.step g2).step g3)
      go_wp2_with fail
      refine (C3.out _ HL3.out).mono ?_
      rintro e w4 ⟨rfl, g4⟩
      have HL4 := Lib.hid (HL3.out.step g4)
      go_wp2_with fail
      refine (C4.out _ HL4.out).mono ?_
      rintro e w5 ⟨rfl, g5⟩
      go_wp2_with fail
      go_ret
      exact ⟨ret_dec (by omega), bel_chain (bel_chain (bel_chain (bel_chain g1 g2) g3) g4) g5⟩
    · rw [if_neg hn] at c1 c2
      have C1 := Lib.hid c1; have C2 := Lib.hid c2; clear c1 c2 hn
      go_wp2_with fail
      refine (C2.out _).mono ?_
      rintro e w2 ⟨rfl, g2⟩
      go_wp2_with fail
      refine (C1.out _).mono ?_
      rintro e w3 ⟨rfl, g3⟩
      go_wp2_with fail
      go_ret
      exact ⟨rfl, bel_chain (bel_chain g1 g2) g3⟩
theorem wFnPiled (a : Option Addr) (len cap : Nat) (zs : List Int) (w : World) (h : IsRow .u8 w a len cap zs) (hl : LV w) :
    Calls Tryd.prog 8 #[.slice a len cap] w fun e w' => e = .returned (.bool true) ∧ Below w.heap.size w w' := by
  have H := Lib.hid h; have HL := Lib.hid hl; clear h hl
  by_cases hbig : 1048576 < len
  · go_enter Tryd.func8, Tryd.ntmps8
    go_wp2_with fail
    go_ret
    exact ⟨rfl, Below.refl _ _⟩
  · go_enter Tryd.func8, Tryd.ntmps8
    go_wp2_with fail
    refine (draw_piled a len cap zs _ H.out).mono ?_
    rintro e w1 ⟨n, hn0, hn1, rfl, g1⟩
    have HL1 := Lib.hid (HL.out.step g1)
    have c1 := sRomanPiled_any n
    have c2 := iRomanPiled_any n
    have c4 := iRomanOf_any n
    unfold romanPiledR at c1 c2
    unfold romanOfR at c4
    by_cases hn : 1 ≤ n ∧ n ≤ 3999
    · rw [if_pos hn] at c1 c2 c4
      obtain ⟨N, rfl⟩ := Int.eq_ofNat_of_zero_le hn0
      rw [Int.toNat_natCast] at c1 c2 c4
      have c3 := iRomanLoose_any (piled N)
      obtain ⟨hb1, hb2, hb3⟩ := piled_back N (by omega)
      have hpos := strict_pos N (by omega) (by omega)
      have hpl := piled_len N [] 0 N rfl
      have hmax : (piled N).length ≤ 4000 := take_len1 addedP N (by decide) |> fun h => by unfold piled; omega
      by_cases hlen : 16 < (piled N).length
      · rw [looseR_out _ (by omega)] at c3
        clear hb1 hb2
        generalize strict N = S at *
        generalize piled N = Q at *
        have C1 := Lib.hid c1; have C2 := Lib.hid c2; have C3 := Lib.hid c3; have C4 := Lib.hid c4; clear c1 c2 c3 c4
        go_wp2_with fail
        refine (C2.out _).mono ?_
        rintro e w2 ⟨rfl, g2⟩
        go_wp2_with fail
        refine (C1.out _).mono ?_
        rintro e w3 ⟨rfl, g3⟩
        have HL3 := Lib.hid ((HL1.out.step g2).step g3)
        go_wp2_with fail
        refine (C3.out _ HL3.out).mono ?_
        rintro e w4 ⟨rfl, g4⟩
        go_wp2_with fail
        refine (C4.out _).mono ?_
        rintro e w5 ⟨rfl, g5⟩
        go_wp2_with fail
        go_ret
        exact ⟨rfl, bel_chain (bel_chain (bel_chain (bel_chain g1 g2) g3) g4) g5⟩
      · have hR : looseR (piled N) = .tuple #[.int .i64 (N : Nat), .bool true] := by
          unfold looseR
          rw [if_pos ⟨by omega, by omega, hb2⟩, hb1]
        rw [hR] at c3
        clear hb1 hb2 hR
        generalize strict N = S at *
        generalize piled N = Q at *
        have C1 := Lib.hid c1; have C2 := Lib.hid c2; have C3 := Lib.hid c3; have C4 := Lib.hid c4; clear c1 c2 c3 c4
        go_wp2_with fail
        refine (C2.out _).mono ?_
        rintro e w2 ⟨rfl, g2⟩
        go_wp2_with fail
        refine (C1.out _).mono ?_
        rintro e w3 ⟨rfl, g3⟩
        have HL3 := Lib.hid ((HL1.out.step g2).step g3)
        go_wp2_with fail
        refine (C3.out _ HL3.out).mono ?_
        rintro e w4 ⟨rfl, g4⟩
        go_wp2_with fail
        refine (C4.out _).mono ?_
        rintro e w5 ⟨rfl, g5⟩
        go_wp2_with fail
        go_ret
        exact ⟨rfl, bel_chain (bel_chain (bel_chain (bel_chain g1 g2) g3) g4) g5⟩
    · rw [if_neg hn] at c1 c2
      have C1 := Lib.hid c1; have C2 := Lib.hid c2; clear c1 c2 c4 hn
      go_wp2_with fail
      refine (C2.out _).mono ?_
      rintro e w2 ⟨rfl, g2⟩
      go_wp2_with fail
      refine (C1.out _).mono ?_
      rintro e w3 ⟨rfl, g3⟩
      go_wp2_with fail
      go_ret
      exact ⟨rfl, bel_chain (bel_chain g1 g2) g3⟩
end Go.Proofs.YthgagidpnnaajaaDoor
