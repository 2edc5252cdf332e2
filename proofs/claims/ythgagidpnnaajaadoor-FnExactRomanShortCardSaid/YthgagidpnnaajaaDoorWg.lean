/- The laws FnShort, FnExactRomanShort: their walks. -/
import Derived.Test.YthgagidpnnaajaaDoorQX
import Derived.Test.YthgagidpnnaajaaDoorQS
import Derived.Test.YthgagidpnnaajaaDoorWe
namespace Go.Proofs.YthgagidpnnaajaaDoor
open Go.RowKit
set_option linter.unusedVariables false
set_option maxRecDepth 100000
theorem wFnExactRomanShort (n : Int) (w : World) (wn : (Lit.int .i64 n).wf = true) (hl : LV w) : Calls Tryd.prog 12 #[.int .i64 n] w fun e w' => e = .returned (.bool true) ∧ Below w.heap.size w w' := by
  have c1 := sRomanShort_any n
  have c2 := iRomanShort_any n
  have HL := Lib.hid hl
  unfold romanShortR at c1 c2
  by_cases h : 1 ≤ n ∧ n ≤ 3999
  · rw [if_pos h] at c1 c2
    clear wn h hl
    generalize shortT n = S at *
    have C1 := Lib.hid c1; have C2 := Lib.hid c2; clear c1 c2
    go_enter Tryd.func12, Tryd.ntmps12
    go_wp2_with fail
    refine (C1.out _).mono ?_
    rintro e w1 ⟨rfl, g1⟩
    go_wp2_with fail
    refine (C2.out _ (HL.out.step g1)).mono ?_
    rintro e w2 ⟨rfl, g2⟩
    go_wp2_with fail
    go_ret
    exact ⟨rfl, bel_chain g1 g2⟩
  · rw [if_neg h] at c1 c2
    clear wn h hl
    have C1 := Lib.hid c1; have C2 := Lib.hid c2; clear c1 c2
    go_enter Tryd.func12, Tryd.ntmps12
    go_wp2_with fail
    refine (C1.out _).mono ?_
    rintro e w1 ⟨rfl, g1⟩
    go_wp2_with fail
    refine (C2.out _ (HL.out.step g1)).mono ?_
    rintro e w2 ⟨rfl, g2⟩
    go_wp2_with fail
    go_ret
    exact ⟨rfl, bel_chain g1 g2⟩
theorem short_looseR (N : Nat) (h1 : 1 ≤ N) (h2 : N ≤ 3999) : looseR (shortT N) = .tuple #[.int .i64 N, .bool true] := by
  obtain ⟨a1, a2, a3⟩ := shortT_ok N h1 h2
  have hs := shortLen_spec N h1 h2
  have := strict_len N h2
  unfold looseR
  rw [if_pos ⟨by omega, by omega, a2⟩, a1]
theorem wFnShort (a : Option Addr) (len cap : Nat) (zs : List Int) (w : World) (h : IsRow .u8 w a len cap zs) (hl : LV w) :
    Calls Tryd.prog 6 #[.slice a len cap] w fun e w' => e = .returned (.bool true) ∧ Below w.heap.size w w' := by
  have H := Lib.hid h; have HL := Lib.hid hl; clear h hl
  by_cases hbig : 1048576 < len
  · go_enter Tryd.func6, Tryd.ntmps6
    go_wp2_with fail
    go_ret
    exact ⟨rfl, Below.refl _ _⟩
  · go_enter Tryd.func6, Tryd.ntmps6
    go_wp2_with fail
    refine (draw_short a len cap zs _ H.out).mono ?_
    rintro e w1 ⟨n, hn0, hn1, rfl, g1⟩
    have HL1 := Lib.hid (HL.out.step g1)
    have c1 := sRomanShort_any n
    have c2 := iRomanShort_any n
    have c4 := iRomanOf_any n
    unfold romanShortR at c1 c2
    unfold romanOfR at c4
    by_cases hn : 1 ≤ n ∧ n ≤ 3999
    · rw [if_pos hn] at c1 c2 c4
      obtain ⟨N, rfl⟩ := Int.eq_ofNat_of_zero_le hn0
      rw [Int.toNat_natCast] at c4
      have hN1 : 1 ≤ N := by omega
      have hN2 : N ≤ 3999 := by omega
      have c3 := iRomanLoose_any (shortT N)
      rw [short_looseR N hN1 hN2] at c3
      have hle : (shortT N).length ≤ (strict N).length := by rw [(shortT_ok N hN1 hN2).2.2]; exact (shortLen_spec N hN1 hN2).2.2.1
      have hls := shortT_least N hN1 hN2
      have hS := strict_len N hN2
      generalize shortT N = S at *
      generalize strict N = T at *
      have hsz1 : (⟨S.toArray⟩ : ByteArray).size = S.length := by show S.toArray.size = S.length; simp
      have hsz2 : (⟨T.toArray⟩ : ByteArray).size = T.length := by show T.toArray.size = T.length; simp
      have C1 := Lib.hid c1; have C2 := Lib.hid c2; have C3 := Lib.hid c3; have C4 := Lib.hid c4; have Hls := Lib.hid hls; clear c1 c2 c3 c4 hls
      go_wp2_with fail
      refine (C2.out _ HL1.out).mono ?_
      rintro e w2 ⟨rfl, g2⟩
      have HL2 := Lib.hid (HL1.out.step g2)
      go_wp2_with fail
      refine (C1.out _).mono ?_
      rintro e w3 ⟨rfl, g3⟩
      have HL3 := Lib.hid (HL2.out.step g3)
      go_wp2_with fail
      refine (C3.out _ HL3.out).mono ?_
      rintro e w4 ⟨rfl, g4⟩
      go_wp2_with fail
      refine (C4.out _).mono ?_
      rintro e w5 ⟨rfl, g5⟩
      by_cases hlt : S.length < T.length
      · go_wp2_with fail
        go_ret
        exact ⟨rfl, bel_chain (bel_chain (bel_chain (bel_chain g1 g2) g3) g4) g5⟩
      · have heq : S.length = T.length := by omega
        have hc := Hls.out heq
        go_wp2_with fail
        go_ret
        exact ⟨rfl, bel_chain (bel_chain (bel_chain (bel_chain g1 g2) g3) g4) g5⟩
    · rw [if_neg hn] at c1 c2
      have C1 := Lib.hid c1; have C2 := Lib.hid c2; clear c1 c2 hn
      go_wp2_with fail
      refine (C2.out _ HL1.out).mono ?_
      rintro e w2 ⟨rfl, g2⟩
      go_wp2_with fail
      refine (C1.out _).mono ?_
      rintro e w3 ⟨rfl, g3⟩
      go_wp2_with fail
      go_ret
      exact ⟨rfl, bel_chain (bel_chain g1 g2) g3⟩
end Go.Proofs.YthgagidpnnaajaaDoor
