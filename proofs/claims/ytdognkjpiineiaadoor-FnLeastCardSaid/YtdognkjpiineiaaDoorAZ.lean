/- The laws FnExactAlphaLeast and FnLeast: their walks. -/
import Derived.Test.YtdognkjpiineiaaDoorAO4
import Derived.Test.YtdognkjpiineiaaDoorAH
namespace Go.Proofs.YtdognkjpiineiaaDoor
open Go.RowKit
set_option linter.unusedVariables false
set_option maxRecDepth 100000
theorem wFnExactAlphaLeast (n : Int) (w : World) (wn : (Lit.int .i64 n).wf = true) (hl : AT w) :
    Calls Tryd.prog 7 #[.int .i64 n] w fun e w' => e = .returned (.bool true) ∧ Below w.heap.size w w' := by
  have HL := Lib.hid hl; clear hl
  obtain ⟨x, b, hx, hxs⟩ := leastR_two n
  have Hx := Lib.hid hx; clear hx
  go_enter Tryd.func7, Tryd.ntmps7
  go_wp2_with fail
  refine (sAlphaLeast_any n _).mono ?_
  rw [Hx.out]
  rintro e w1 ⟨rfl, g1⟩
  go_wp2_with fail
  refine (iAlphaLeast_any n _ (HL.out.step g1)).mono ?_
  rw [Hx.out]
  rintro e w2 ⟨rfl, g2⟩
  cases b
  · go_wp2_with fail
    go_ret
    exact ⟨rfl, bel_chain g1 g2⟩
  · go_wp2_with fail
    go_ret
    exact ⟨rfl, bel_chain g1 g2⟩
theorem wFnLeast (a : Option Addr) (len cap : Nat) (zs : List Int) (w : World) (h : IsRow .u8 w a len cap zs) (hl : AT w) :
    Calls Tryd.prog 13 #[.slice a len cap] w fun e w' => e = .returned (.bool true) ∧ Below w.heap.size w w' := by
  have H := Lib.hid h; have HL := Lib.hid hl; clear h hl
  by_cases hbig : 1048576 < len
  · go_enter Tryd.func13, Tryd.ntmps13
    go_wp2_with fail
    go_ret
    exact ⟨rfl, Below.refl _ _⟩
  · go_enter Tryd.func13, Tryd.ntmps13
    go_wp2_with fail
    refine (drawAlphaLeast_any a len cap zs _ H.out).mono ?_
    rintro e w1 ⟨n, hn0, hn1, rfl, g1⟩
    have HL1 := Lib.hid (HL.out.step g1)
    by_cases hn : 1 ≤ n ∧ n ≤ 2000
    · obtain ⟨N, rfl⟩ := Int.eq_ofNat_of_zero_le hn0
      have Hle := Lib.hid (leastR_yes N (by omega) (by omega))
      obtain ⟨f1, f2, f3⟩ := least_facts N
      have f4 := few_pos N (by omega); have f5 := few_five N (by omega)
      have Hs : Hid (alphaSumR (least N) = .tuple #[.int .i64 (N : Nat), .bool true]) := by
        show _ = _
        rw [alphaSumR_yes _ (by unfold isW; exact decide_eq_true ⟨by omega, by omega, f2⟩), f1]
      have Hof : Hid (alphaOfR (N : Int) = .tuple #[.string ⟨(aof N).toArray⟩, .bool true]) := by
        show _ = _
        unfold alphaOfR
        rw [if_pos ⟨by omega, by omega⟩]; rfl
      have hlen := aof_len N
      have hd : N < 1000 → (least N).length ≤ (aof N).length := fun h => by rw [f3]; exact few_digits N h
      obtain ⟨hn2, hn3⟩ := hn
      clear f1 f2
      by_cases hbN : 999 < N
      · clear hd
        generalize least N = W at *
        generalize aof N = L at *
        go_wp2_with fail
        refine (iAlphaLeast_any _ _ HL1.out).mono ?_
        rw [Hle.out]
        rintro e w2 ⟨rfl, g2⟩
        have HL2 := Lib.hid (HL1.out.step g2)
        go_wp2_with fail
        refine (sAlphaLeast_any _ _).mono ?_
        rw [Hle.out]
        rintro e w3 ⟨rfl, g3⟩
        have HL3 := Lib.hid (HL2.out.step g3)
        go_wp2_with fail
        refine (iAlphaSum_any W _ HL3.out).mono ?_
        rw [Hs.out]
        rintro e w4 ⟨rfl, rfl⟩
        go_wp2_with fail
        refine (iAlphaOf_any _ _ HL3.out).mono ?_
        rw [Hof.out]
        rintro e w5 ⟨rfl, rfl⟩
        go_wp2_with fail
        go_ret
        exact ⟨rfl, bel_chain (bel_chain g1 g2) g3⟩
      · have hd' := hd (by omega)
        clear hd
        generalize least N = W at *
        generalize aof N = L at *
        go_wp2_with fail
        refine (iAlphaLeast_any _ _ HL1.out).mono ?_
        rw [Hle.out]
        rintro e w2 ⟨rfl, g2⟩
        have HL2 := Lib.hid (HL1.out.step g2)
        go_wp2_with fail
        refine (sAlphaLeast_any _ _).mono ?_
        rw [Hle.out]
        rintro e w3 ⟨rfl, g3⟩
        have HL3 := Lib.hid (HL2.out.step g3)
        go_wp2_with fail
        refine (iAlphaSum_any W _ HL3.out).mono ?_
        rw [Hs.out]
        rintro e w4 ⟨rfl, rfl⟩
        go_wp2_with fail
        refine (iAlphaOf_any _ _ HL3.out).mono ?_
        rw [Hof.out]
        rintro e w5 ⟨rfl, rfl⟩
        go_wp2_with fail
        go_ret
        have q : (decide (999 < (N : Int)) || decide (few N ≤ L.length)) = true := by simp; omega
        exact ⟨congrArg (fun b => Ending.returned (Value.bool b)) q, bel_chain (bel_chain g1 g2) g3⟩
    · have Hle := Lib.hid (leastR_no n hn)
      clear hn
      go_wp2_with fail
      refine (iAlphaLeast_any n _ HL1.out).mono ?_
      rw [Hle.out]
      rintro e w2 ⟨rfl, g2⟩
      go_wp2_with fail
      refine (sAlphaLeast_any n _).mono ?_
      rw [Hle.out]
      rintro e w3 ⟨rfl, g3⟩
      go_wp2_with fail
      go_ret
      exact ⟨rfl, bel_chain (bel_chain g1 g2) g3⟩
end Go.Proofs.YtdognkjpiineiaaDoor
