/- The laws FnLoose, FnStrict, FnAdd: their walks. -/
import Derived.Test.YthgagidpnnaajaaDoorDt
import Derived.Test.YthgagidpnnaajaaDoorSV
import Derived.Test.YthgagidpnnaajaaDoorLP
namespace Go.Proofs.YthgagidpnnaajaaDoor
open Go.RowKit
set_option linter.unusedVariables false
set_option maxRecDepth 100000
theorem ret_dec2 {p : Prop} [Decidable p] (h : p) : Ending.returned (.bool (decide p)) = .returned (.bool true) := by rw [decide_eq_true h]
theorem wFnLoose (a : Option Addr) (len cap : Nat) (zs : List Int) (w : World) (h : IsRow .u8 w a len cap zs) (hl : LV w) :
    Calls Tryd.prog 4 #[.slice a len cap] w fun e w' => e = .returned (.bool true) ∧ Below w.heap.size w w' := by
  have H := Lib.hid h; have HL := Lib.hid hl; clear h hl
  by_cases hbig : 1048576 < len
  · go_enter Tryd.func4, Tryd.ntmps4
    go_wp2_with fail
    go_ret
    exact ⟨rfl, Below.refl _ _⟩
  · go_enter Tryd.func4, Tryd.ntmps4
    go_wp2_with fail
    refine (draw_loose a len cap zs _ H.out).mono ?_
    rintro e w1 ⟨l, hlen, rfl, g1⟩
    have HL1 := Lib.hid (HL.out.step g1)
    have c1 := fun w => sRomanLoose_any l w (by omega)
    have c2 := iRomanLoose_any l
    have c3 := iRomanLoose_any (77 :: l)
    unfold looseR at c1 c2
    by_cases h1 : 1 ≤ l.length ∧ l.length ≤ 16 ∧ okL l = true
    · rw [if_pos h1] at c1 c2
      have hp := loose_pos l h1.2.2 h1.1
      have hb := (looseL_bd l).2
      have hm := loose_m l h1.2.2
      have hcat : Hid (((⟨#[77]⟩ : ByteArray) ++ (⟨l.toArray⟩ : ByteArray)) = ⟨(77 :: l).toArray⟩) := bytes_append [77] l
      by_cases h15 : 15 < l.length
      · rw [looseR_out _ (by simp; omega)] at c3
        clear hm
        generalize looseL l = n at *
        obtain ⟨hl0, hl1, _⟩ := h1
        have C1 := Lib.hid c1; have C2 := Lib.hid c2; have C3 := Lib.hid c3; clear c1 c2 c3
        go_wp2_with fail
        refine (C2.out _ HL1.out).mono ?_
        rintro e w2 ⟨rfl, g2⟩
        have HL2 := Lib.hid (HL1.out.step g2)
        go_wp2_with fail
        refine (C1.out _).mono ?_
        rintro e w3 ⟨rfl, rfl⟩
        go_wp2_with fail
        rw [hcat.out]
        refine (C3.out _ HL2.out).mono ?_
        rintro e w4 ⟨rfl, g4⟩
        go_wp2_with fail
        go_ret
        exact ⟨rfl, bel_chain (bel_chain g1 g2) g4⟩
      · have hR : looseR (77 :: l) = .tuple #[.int .i64 (looseL l + 1000), .bool true] := by
          unfold looseR
          rw [if_pos ⟨by simp, by simp; omega, hm.2⟩, hm.1]
        rw [hR] at c3
        clear hm hR
        generalize looseL l = n at *
        obtain ⟨hl0, hl1, _⟩ := h1
        have C1 := Lib.hid c1; have C2 := Lib.hid c2; have C3 := Lib.hid c3; clear c1 c2 c3
        go_wp2_with fail
        refine (C2.out _ HL1.out).mono ?_
        rintro e w2 ⟨rfl, g2⟩
        have HL2 := Lib.hid (HL1.out.step g2)
        go_wp2_with fail
        refine (C1.out _).mono ?_
        rintro e w3 ⟨rfl, rfl⟩
        go_wp2_with fail
        rw [hcat.out]
        refine (C3.out _ HL2.out).mono ?_
        rintro e w4 ⟨rfl, g4⟩
        go_wp2_with fail
        go_ret
        exact ⟨rfl, bel_chain (bel_chain g1 g2) g4⟩
    · rw [if_neg h1] at c1 c2
      have C1 := Lib.hid c1; have C2 := Lib.hid c2; clear c1 c2 c3 h1
      go_wp2_with fail
      refine (C2.out _ HL1.out).mono ?_
      rintro e w2 ⟨rfl, g2⟩
      go_wp2_with fail
      refine (C1.out _).mono ?_
      rintro e w3 ⟨rfl, rfl⟩
      go_wp2_with fail
      go_ret
      exact ⟨rfl, bel_chain g1 g2⟩
theorem wFnStrict (a : Option Addr) (len cap : Nat) (zs : List Int) (w : World) (h : IsRow .u8 w a len cap zs) (hl : LV w) :
    Calls Tryd.prog 5 #[.slice a len cap] w fun e w' => e = .returned (.bool true) ∧ Below w.heap.size w w' := by
  have H := Lib.hid h; have HL := Lib.hid hl; clear h hl
  by_cases hbig : 1048576 < len
  · go_enter Tryd.func5, Tryd.ntmps5
    go_wp2_with fail
    go_ret
    exact ⟨rfl, Below.refl _ _⟩
  · go_enter Tryd.func5, Tryd.ntmps5
    go_wp2_with fail
    refine (draw_strict a len cap zs _ H.out).mono ?_
    rintro e w1 ⟨l, hlen, rfl, g1⟩
    have HL1 := Lib.hid (HL.out.step g1)
    have c1 := fun w => sRomanStrict_any l w (by omega)
    have c2 := iRomanStrict_any l
    by_cases hs : strictB l = true
    · rw [hs] at c1 c2
      have hv := strictB_val l hs
      have c3 := iRomanLoose_any l
      have c4 := iRomanOf_any (looseL l)
      unfold looseR at c3
      unfold romanOfR at c4
      rw [if_pos ⟨hv.2.2.1, hv.2.2.2.1, hv.2.2.2.2.1⟩] at c3
      rw [if_pos ⟨hv.1, hv.2.1⟩, hv.2.2.2.2.2] at c4
      clear hs hv
      generalize looseL l = n at *
      have C1 := Lib.hid c1; have C2 := Lib.hid c2; have C3 := Lib.hid c3; have C4 := Lib.hid c4; clear c1 c2 c3 c4
      go_wp2_with fail
      refine (C2.out _ HL1.out).mono ?_
      rintro e w2 ⟨rfl, g2⟩
      go_wp2_with fail
      refine (C1.out _).mono ?_
      rintro e w3 ⟨rfl, g3⟩
      have HL3 := Lib.hid ((HL1.out.step g2).step g3)
      go_wp2_with fail
      refine (C3.out _ HL3.out).mono ?_
      rintro e w4 ⟨rfl, g4⟩
      go_wp2_with fail
      refine (C4.out _).mono ?_
      rintro e w5 ⟨rfl, g5⟩
      go_wp2_with fail
      go_ret
      exact ⟨rfl, bel_chain (bel_chain (bel_chain (bel_chain g1 g2) g3) g4) g5⟩
    · rw [show strictB l = false by simpa using hs] at c1 c2
      have C1 := Lib.hid c1; have C2 := Lib.hid c2; clear c1 c2 hs
      go_wp2_with fail
      refine (C2.out _ HL1.out).mono ?_
      rintro e w2 ⟨rfl, g2⟩
      go_wp2_with fail
      refine (C1.out _).mono ?_
      rintro e w3 ⟨rfl, g3⟩
      go_wp2_with fail
      go_ret
      exact ⟨rfl, bel_chain (bel_chain g1 g2) g3⟩
theorem wFnAdd (a : Option Addr) (len cap : Nat) (zs : List Int) (w : World) (h : IsRow .u8 w a len cap zs) (hl : LV w) :
    Calls Tryd.prog 7 #[.slice a len cap] w fun e w' => e = .returned (.bool true) ∧ Below w.heap.size w w' := by
  have H := Lib.hid h; have HL := Lib.hid hl; clear h hl
  by_cases hbig : 1048576 < len
  · go_enter Tryd.func7, Tryd.ntmps7
    go_wp2_with fail
    go_ret
    exact ⟨rfl, Below.refl _ _⟩
  · go_enter Tryd.func7, Tryd.ntmps7
    go_wp2_with fail
    refine (draw_add a len cap zs _ H.out).mono ?_
    rintro e w1 ⟨l, k, hlen, hlen2, rfl, g1⟩
    have HL1 := Lib.hid (HL.out.step g1)
    have c1 := fun w => sRomanAdd_any l k w (by omega) (by omega)
    have c2 := iRomanAdd_any l k
    have c2' := iRomanAdd_any k l
    have c3 := iRomanLoose_any l
    have c3' := iRomanLoose_any k
    by_cases hb : strictB l = true ∧ strictB k = true
    · have e1 : addR l k = romanOfR (looseL l + looseL k) := by unfold addR; rw [if_pos hb]
      have e2 : addR k l = romanOfR (looseL l + looseL k) := by unfold addR; rw [if_pos ⟨hb.2, hb.1⟩, Int.add_comm]
      have hv := strictB_val l hb.1
      have hv' := strictB_val k hb.2
      unfold looseR at c3 c3'
      rw [if_pos ⟨hv.2.2.1, hv.2.2.2.1, hv.2.2.2.2.1⟩] at c3
      rw [if_pos ⟨hv'.2.2.1, hv'.2.2.2.1, hv'.2.2.2.2.1⟩] at c3'
      rw [e1] at c1 c2
      rw [e2] at c2'
      have hx1 := hv.1; have hx2 := hv.2.1; have hy1 := hv'.1; have hy2 := hv'.2.1
      clear e1 e2 hb hv hv'
      generalize looseL l = x at *
      generalize looseL k = y at *
      by_cases hs : x + y ≤ 3999
      · have eR : romanOfR (x + y) = .tuple #[.string ⟨(strict (x + y).toNat).toArray⟩, .bool true] := by unfold romanOfR; rw [if_pos ⟨by omega, hs⟩]
        have c5 := iRomanLoose_any (strict (x + y).toNat)
        rw [strict_looseR _ (by omega) (by omega)] at c5
        rw [eR] at c1 c2 c2'
        have ex : (((x + y).toNat : Nat) : Int) = x + y := by omega
        rw [ex] at c5
        clear eR ex
        generalize strict (x + y).toNat = S at *
        have C1 := Lib.hid c1; have C2 := Lib.hid c2; have C2' := Lib.hid c2'; have C3 := Lib.hid c3; have C3' := Lib.hid c3'; have C5 := Lib.hid c5; clear c1 c2 c2' c3 c3' c5
        go_wp2_with fail
        refine (C2.out _ HL1.out).mono ?_
        rintro e w2 ⟨rfl, g2⟩
        go_wp2_with fail
        refine (C1.out _).mono ?_
        rintro e w3 ⟨rfl, g3⟩
        have HL3 := Lib.hid ((HL1.out.step g2).step g3)
        go_wp2_with fail
        refine (C2'.out _ HL3.out).mono ?_
        rintro e w4 ⟨rfl, g4⟩
        have HL4 := Lib.hid (HL3.out.step g4)
        go_wp2_with fail
        refine (C3.out _ HL4.out).mono ?_
        rintro e w5 ⟨rfl, g5⟩
        have HL5 := Lib.hid (HL4.out.step g5)
        go_wp2_with fail
        refine (C3'.out _ HL5.out).mono ?_
        rintro e w6 ⟨rfl, g6⟩
        have HL6 := Lib.hid (HL5.out.step g6)
        go_wp2_with fail
        refine (C5.out _ HL6.out).mono ?_
        rintro e w7 ⟨rfl, g7⟩
        go_wp2_with fail
        go_ret
        exact ⟨rfl, bel_chain (bel_chain (bel_chain (bel_chain (bel_chain (bel_chain g1 g2) g3) g4) g5) g6) g7⟩
      · have eR : romanOfR (x + y) = .tuple #[.string ⟨#[]⟩, .bool false] := by unfold romanOfR; rw [if_neg (by omega)]
        rw [eR] at c1 c2
        have C1 := Lib.hid c1; have C2 := Lib.hid c2; clear c1 c2 c2' c3 c3' eR
        go_wp2_with fail
        refine (C2.out _ HL1.out).mono ?_
        rintro e w2 ⟨rfl, g2⟩
        go_wp2_with fail
        refine (C1.out _).mono ?_
        rintro e w3 ⟨rfl, g3⟩
        go_wp2_with fail
        go_ret
        exact ⟨rfl, bel_chain (bel_chain g1 g2) g3⟩
    · have eR : addR l k = .tuple #[.string ⟨#[]⟩, .bool false] := by unfold addR; rw [if_neg hb]
      rw [eR] at c1 c2
      have C1 := Lib.hid c1; have C2 := Lib.hid c2; clear c1 c2 c2' c3 c3' eR hb
      go_wp2_with fail
      refine (C2.out _ HL1.out).mono ?_
      rintro e w2 ⟨rfl, g2⟩
      go_wp2_with fail
      refine (C1.out _).mono ?_
      rintro e w3 ⟨rfl, g3⟩
      go_wp2_with fail
      go_ret
      exact ⟨rfl, bel_chain (bel_chain g1 g2) g3⟩
end Go.Proofs.YthgagidpnnaajaaDoor
