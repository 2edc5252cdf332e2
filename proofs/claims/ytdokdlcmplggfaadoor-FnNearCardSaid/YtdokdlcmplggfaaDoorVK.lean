/- The drawn laws of chapter 7: their walks (printed by genvk.py). -/
import Derived.IntWalk
import Derived.Test.YtdokdlcmplggfaaDoorVD
import Derived.Test.YtdokdlcmplggfaaDoorVX
namespace Go.Proofs.YtdokdlcmplggfaaDoor
open Go.RowKit
set_option linter.unusedVariables false
set_option maxRecDepth 100000
set_option maxRecDepth 100000 in
set_option maxHeartbeats 1000000 in
theorem wFnStroke (a : Option Addr) (len cap : Nat) (z : List Int) (u0 : World) (h0 : IsRow .u8 u0 a len cap z) (hTB : TBs false false u0) : Calls Tryd.prog 3 #[.slice a len cap] u0 fun e w' => e = .returned (.bool true) ∧ Below u0.heap.size u0 w' := by
  have H0 := Lib.hid h0; have HR := Lib.hid hTB; clear h0 hTB
  by_cases big : 1048576 < len
  · go_enter Tryd.func3, Tryd.ntmps3
    go_wp2_with fail
    go_ret
    exact ⟨rfl, Below.refl _ _⟩
  go_enter Tryd.func3, Tryd.ntmps3
  go_wp2_with fail
  refine (drawStrokeOf_any a len cap z _ H0.out).mono ?_
  rintro e u1 ⟨n, hn0, hn1, rfl, hb⟩
  have G1 := Lib.hid hb; clear hb H0 big
  have C1 := Lib.hid (fun (w : World) (hT : TBs false false w) => iStrokeOf_any n w ⟨by omega, by omega⟩ hT)
  have C2 := Lib.hid (fun (w : World) (_ : TBs false false w) => sStrokeOf_any n w)
  by_cases hok : 0 ≤ n ∧ n ≤ 9999
  · obtain ⟨k, rfl⟩ := Int.eq_ofNat_of_zero_le hok.1
    have hk : k ≤ 9999 := by omega
    rw [skR_yes k _ hk] at C1 C2
    obtain ⟨r1, r2⟩ := rd_sg k hk
    have hl := sg_lt k
    have C3 := Lib.hid (fun (w : World) (hT : TBs false false w) => iStrokeRead_any (vsg k : Nat) w ⟨by omega, by omega⟩ hT)
    rw [srR_yes (vsg k) (by omega) r1, r2] at C3
    generalize vsg k = s at *
    clear r1 r2
    clear hok hk
    go_wp2_with fail
    refine (C1.out _ (HR.out.step G1.out)).mono ?_
    rintro e u2 ⟨rfl, hb⟩
    have G2 := Lib.hid (bel_chain G1.out hb); clear hb C1
    go_wp2_with fail
    refine (C2.out _ (HR.out.step G2.out)).mono ?_
    rintro e u3 ⟨rfl, hb⟩
    have G3 := Lib.hid (bel_chain G2.out hb); clear hb C2
    go_wp2_with fail
    refine (C3.out _ (HR.out.step G3.out)).mono ?_
    rintro e u4 ⟨rfl, hb⟩
    have G4 := Lib.hid (bel_chain G3.out hb); clear hb C3
    go_wp2_with fail
    go_ret
    exact ⟨rfl, G4.out⟩
  · rw [skR_no n _ hok] at C1 C2
    clear hok
    go_wp2_with fail
    refine (C1.out _ (HR.out.step G1.out)).mono ?_
    rintro e u2 ⟨rfl, hb⟩
    have G2 := Lib.hid (bel_chain G1.out hb); clear hb C1
    go_wp2_with fail
    refine (C2.out _ (HR.out.step G2.out)).mono ?_
    rintro e u3 ⟨rfl, hb⟩
    have G3 := Lib.hid (bel_chain G2.out hb); clear hb C2
    go_wp2_with fail
    go_ret
    exact ⟨rfl, G3.out⟩
set_option maxRecDepth 100000 in
set_option maxHeartbeats 1000000 in
theorem wFnStrokeRead (a : Option Addr) (len cap : Nat) (z : List Int) (u0 : World) (h0 : IsRow .u8 u0 a len cap z) (hTB : TBs false false u0) : Calls Tryd.prog 4 #[.slice a len cap] u0 fun e w' => e = .returned (.bool true) ∧ Below u0.heap.size u0 w' := by
  have H0 := Lib.hid h0; have HR := Lib.hid hTB; clear h0 hTB
  by_cases big : 1048576 < len
  · go_enter Tryd.func4, Tryd.ntmps4
    go_wp2_with fail
    go_ret
    exact ⟨rfl, Below.refl _ _⟩
  go_enter Tryd.func4, Tryd.ntmps4
  go_wp2_with fail
  refine (drawStrokeRead_any a len cap z _ H0.out).mono ?_
  rintro e u1 ⟨s, hs0, hs1, rfl, hb⟩
  have G1 := Lib.hid hb; clear hb H0 big
  have C1 := Lib.hid (fun (w : World) (hT : TBs false false w) => iStrokeRead_any s w ⟨by omega, by omega⟩ hT)
  have C2 := Lib.hid (fun (w : World) (_ : TBs false false w) => sStrokeRead_any s w)
  by_cases hok : (0 ≤ s ∧ s ≤ 1048575) ∧ skB s.toNat = true
  · obtain ⟨k, rfl⟩ := Int.eq_ofNat_of_zero_le hok.1.1
    have hr : rall k 4 := (skB_spec k).1 hok.2
    obtain ⟨n, hn, hs, hg⟩ := rd_of k (by omega) hr
    rw [srR_yes k (by omega) hr, hs] at C1 C2
    have C3 := Lib.hid (fun (w : World) (hT : TBs false false w) => iStrokeOf_any (n : Nat) w ⟨by omega, by omega⟩ hT)
    rw [skR_yes n _ hn, hg] at C3
    clear hok hr hs hg
    go_wp2_with fail
    refine (C1.out _ (HR.out.step G1.out)).mono ?_
    rintro e u2 ⟨rfl, hb⟩
    have G2 := Lib.hid (bel_chain G1.out hb); clear hb C1
    go_wp2_with fail
    refine (C2.out _ (HR.out.step G2.out)).mono ?_
    rintro e u3 ⟨rfl, hb⟩
    have G3 := Lib.hid (bel_chain G2.out hb); clear hb C2
    go_wp2_with fail
    refine (C3.out _ (HR.out.step G3.out)).mono ?_
    rintro e u4 ⟨rfl, hb⟩
    have G4 := Lib.hid (bel_chain G3.out hb); clear hb C3
    go_wp2_with fail
    go_ret
    exact ⟨rfl, G4.out⟩
  · rw [show srR s = .tuple #[.int .i64 0, .bool false] by unfold srR; rw [if_neg hok]] at C1 C2
    clear hok
    go_wp2_with fail
    refine (C1.out _ (HR.out.step G1.out)).mono ?_
    rintro e u2 ⟨rfl, hb⟩
    have G2 := Lib.hid (bel_chain G1.out hb); clear hb C1
    go_wp2_with fail
    refine (C2.out _ (HR.out.step G2.out)).mono ?_
    rintro e u3 ⟨rfl, hb⟩
    have G3 := Lib.hid (bel_chain G2.out hb); clear hb C2
    go_wp2_with fail
    go_ret
    exact ⟨rfl, G3.out⟩
set_option maxRecDepth 100000 in
set_option maxHeartbeats 1000000 in
theorem wFnStrokes (a : Option Addr) (len cap : Nat) (z : List Int) (u0 : World) (h0 : IsRow .u8 u0 a len cap z) (hTB : TBs true true u0) : Calls Tryd.prog 5 #[.slice a len cap] u0 fun e w' => e = .returned (.bool true) ∧ Below u0.heap.size u0 w' := by
  have H0 := Lib.hid h0; have HR := Lib.hid hTB; clear h0 hTB
  by_cases big : 1048576 < len
  · go_enter Tryd.func5, Tryd.ntmps5
    go_wp2_with fail
    go_ret
    exact ⟨rfl, Below.refl _ _⟩
  go_enter Tryd.func5, Tryd.ntmps5
  go_wp2_with fail
  refine (drawStrokeCount_any a len cap z _ H0.out).mono ?_
  rintro e u1 ⟨n, hn0, hn1, rfl, hb⟩
  have G1 := Lib.hid hb; clear hb H0 big
  have C1 := Lib.hid (fun (w : World) (hT : TBs true true w) => iStrokeCount_any n w ⟨by omega, by omega⟩ hT)
  have C2 := Lib.hid (fun (w : World) (_ : TBs true true w) => sStrokeCount_any n w)
  by_cases hok : 0 ≤ n ∧ n ≤ 9999
  · obtain ⟨k, rfl⟩ := Int.eq_ofNat_of_zero_le hok.1
    have hk : k ≤ 9999 := by omega
    rw [skR_yes k _ hk] at C1 C2
    have t1 := (tnd_dig k hk).1
    have m1 := (mrd_dig k hk).1
    have hle := bc_le k hk
    have C3 := Lib.hid (fun (w : World) (hT : TBs true true w) => iStrokeTurned_any (k : Nat) w ⟨by omega, by omega⟩ hT)
    have C4 := Lib.hid (fun (w : World) (hT : TBs true true w) => iStrokeMirror_any (k : Nat) w ⟨by omega, by omega⟩ hT)
    have C5 := Lib.hid (fun (w : World) (hT : TBs true true w) => iStrokeCount_any (tnd k : Nat) w ⟨by omega, by omega⟩ hT)
    have C6 := Lib.hid (fun (w : World) (hT : TBs true true w) => iStrokeCount_any (mrd k : Nat) w ⟨by omega, by omega⟩ hT)
    rw [skR_yes k _ hk] at C3 C4
    rw [skR_yes _ _ t1, bc_tnd k hk] at C5
    rw [skR_yes _ _ m1, bc_mrd k hk] at C6
    generalize bc (vsg k) = y at *
    generalize tnd k = t at *
    generalize mrd k = m at *
    have hle2 : (y : Int) ≤ 12 := by omega
    clear hok hk
    go_wp2_with fail
    refine (C1.out _ (HR.out.step G1.out)).mono ?_
    rintro e u2 ⟨rfl, hb⟩
    have G2 := Lib.hid (bel_chain G1.out hb); clear hb C1
    go_wp2_with fail
    refine (C2.out _ (HR.out.step G2.out)).mono ?_
    rintro e u3 ⟨rfl, hb⟩
    have G3 := Lib.hid (bel_chain G2.out hb); clear hb C2
    go_wp2_with fail
    refine (C3.out _ (HR.out.step G3.out)).mono ?_
    rintro e u4 ⟨rfl, hb⟩
    have G4 := Lib.hid (bel_chain G3.out hb); clear hb C3
    go_wp2_with fail
    refine (C4.out _ (HR.out.step G4.out)).mono ?_
    rintro e u5 ⟨rfl, hb⟩
    have G5 := Lib.hid (bel_chain G4.out hb); clear hb C4
    go_wp2_with fail
    refine (C5.out _ (HR.out.step G5.out)).mono ?_
    rintro e u6 ⟨rfl, hb⟩
    have G6 := Lib.hid (bel_chain G5.out hb); clear hb C5
    go_wp2_with fail
    refine (C6.out _ (HR.out.step G6.out)).mono ?_
    rintro e u7 ⟨rfl, hb⟩
    have G7 := Lib.hid (bel_chain G6.out hb); clear hb C6
    go_wp2_with fail
    go_ret
    exact ⟨rfl, G7.out⟩
  · rw [skR_no n _ hok] at C1 C2
    clear hok
    go_wp2_with fail
    refine (C1.out _ (HR.out.step G1.out)).mono ?_
    rintro e u2 ⟨rfl, hb⟩
    have G2 := Lib.hid (bel_chain G1.out hb); clear hb C1
    go_wp2_with fail
    refine (C2.out _ (HR.out.step G2.out)).mono ?_
    rintro e u3 ⟨rfl, hb⟩
    have G3 := Lib.hid (bel_chain G2.out hb); clear hb C2
    go_wp2_with fail
    go_ret
    exact ⟨rfl, G3.out⟩
set_option maxRecDepth 100000 in
set_option maxHeartbeats 1000000 in
theorem wFnStrokeTurned (a : Option Addr) (len cap : Nat) (z : List Int) (u0 : World) (h0 : IsRow .u8 u0 a len cap z) (hTB : TBs true true u0) : Calls Tryd.prog 6 #[.slice a len cap] u0 fun e w' => e = .returned (.bool true) ∧ Below u0.heap.size u0 w' := by
  have H0 := Lib.hid h0; have HR := Lib.hid hTB; clear h0 hTB
  by_cases big : 1048576 < len
  · go_enter Tryd.func6, Tryd.ntmps6
    go_wp2_with fail
    go_ret
    exact ⟨rfl, Below.refl _ _⟩
  go_enter Tryd.func6, Tryd.ntmps6
  go_wp2_with fail
  refine (drawStrokeTurned_any a len cap z _ H0.out).mono ?_
  rintro e u1 ⟨n, hn0, hn1, rfl, hb⟩
  have G1 := Lib.hid hb; clear hb H0 big
  have C1 := Lib.hid (fun (w : World) (hT : TBs true true w) => iStrokeTurned_any n w ⟨by omega, by omega⟩ hT)
  have C2 := Lib.hid (fun (w : World) (_ : TBs true true w) => sStrokeTurned_any n w)
  by_cases hok : 0 ≤ n ∧ n ≤ 9999
  · obtain ⟨k, rfl⟩ := Int.eq_ofNat_of_zero_le hok.1
    have hk : k ≤ 9999 := by omega
    rw [skR_yes k _ hk] at C1 C2
    have t1 := (tnd_dig k hk).1
    have m1 := (mrd_dig k hk).1
    have C3 := Lib.hid (fun (w : World) (hT : TBs true true w) => iStrokeTurned_any (tnd k : Nat) w ⟨by omega, by omega⟩ hT)
    have C4 := Lib.hid (fun (w : World) (hT : TBs true true w) => iStrokeMirror_any (tnd k : Nat) w ⟨by omega, by omega⟩ hT)
    have C5 := Lib.hid (fun (w : World) (hT : TBs true true w) => iStrokeMirror_any (k : Nat) w ⟨by omega, by omega⟩ hT)
    have C6 := Lib.hid (fun (w : World) (hT : TBs true true w) => iStrokeTurned_any (mrd k : Nat) w ⟨by omega, by omega⟩ hT)
    rw [skR_yes _ _ t1, tnd_tnd k hk] at C3
    rw [skR_yes _ _ t1, mrd_tnd k hk] at C4
    rw [skR_yes k _ hk] at C5
    rw [skR_yes _ _ m1] at C6
    generalize tnd (mrd k) = y at *
    generalize tnd k = t at *
    generalize mrd k = m at *
    clear hok hk
    go_wp2_with fail
    refine (C1.out _ (HR.out.step G1.out)).mono ?_
    rintro e u2 ⟨rfl, hb⟩
    have G2 := Lib.hid (bel_chain G1.out hb); clear hb C1
    go_wp2_with fail
    refine (C2.out _ (HR.out.step G2.out)).mono ?_
    rintro e u3 ⟨rfl, hb⟩
    have G3 := Lib.hid (bel_chain G2.out hb); clear hb C2
    go_wp2_with fail
    refine (C3.out _ (HR.out.step G3.out)).mono ?_
    rintro e u4 ⟨rfl, hb⟩
    have G4 := Lib.hid (bel_chain G3.out hb); clear hb C3
    go_wp2_with fail
    refine (C4.out _ (HR.out.step G4.out)).mono ?_
    rintro e u5 ⟨rfl, hb⟩
    have G5 := Lib.hid (bel_chain G4.out hb); clear hb C4
    go_wp2_with fail
    refine (C5.out _ (HR.out.step G5.out)).mono ?_
    rintro e u6 ⟨rfl, hb⟩
    have G6 := Lib.hid (bel_chain G5.out hb); clear hb C5
    go_wp2_with fail
    refine (C6.out _ (HR.out.step G6.out)).mono ?_
    rintro e u7 ⟨rfl, hb⟩
    have G7 := Lib.hid (bel_chain G6.out hb); clear hb C6
    go_wp2_with fail
    go_ret
    exact ⟨rfl, G7.out⟩
  · rw [skR_no n _ hok] at C1 C2
    clear hok
    go_wp2_with fail
    refine (C1.out _ (HR.out.step G1.out)).mono ?_
    rintro e u2 ⟨rfl, hb⟩
    have G2 := Lib.hid (bel_chain G1.out hb); clear hb C1
    go_wp2_with fail
    refine (C2.out _ (HR.out.step G2.out)).mono ?_
    rintro e u3 ⟨rfl, hb⟩
    have G3 := Lib.hid (bel_chain G2.out hb); clear hb C2
    go_wp2_with fail
    go_ret
    exact ⟨rfl, G3.out⟩
set_option maxRecDepth 100000 in
set_option maxHeartbeats 1000000 in
theorem wFnMirror (a : Option Addr) (len cap : Nat) (z : List Int) (u0 : World) (h0 : IsRow .u8 u0 a len cap z) (hTB : TBs false true u0) : Calls Tryd.prog 7 #[.slice a len cap] u0 fun e w' => e = .returned (.bool true) ∧ Below u0.heap.size u0 w' := by
  have H0 := Lib.hid h0; have HR := Lib.hid hTB; clear h0 hTB
  by_cases big : 1048576 < len
  · go_enter Tryd.func7, Tryd.ntmps7
    go_wp2_with fail
    go_ret
    exact ⟨rfl, Below.refl _ _⟩
  go_enter Tryd.func7, Tryd.ntmps7
  go_wp2_with fail
  refine (drawStrokeMirror_any a len cap z _ H0.out).mono ?_
  rintro e u1 ⟨n, hn0, hn1, rfl, hb⟩
  have G1 := Lib.hid hb; clear hb H0 big
  have C1 := Lib.hid (fun (w : World) (hT : TBs false true w) => iStrokeMirror_any n w ⟨by omega, by omega⟩ hT)
  have C2 := Lib.hid (fun (w : World) (_ : TBs false true w) => sStrokeMirror_any n w)
  by_cases hok : 0 ≤ n ∧ n ≤ 9999
  · obtain ⟨k, rfl⟩ := Int.eq_ofNat_of_zero_le hok.1
    have hk : k ≤ 9999 := by omega
    rw [skR_yes k _ hk] at C1 C2
    have m1 := (mrd_dig k hk).1
    have C3 := Lib.hid (fun (w : World) (hT : TBs false true w) => iStrokeMirror_any (mrd k : Nat) w ⟨by omega, by omega⟩ hT)
    rw [skR_yes _ _ m1, mrd_mrd k hk] at C3
    generalize mrd k = m at *
    clear hok hk
    go_wp2_with fail
    refine (C1.out _ (HR.out.step G1.out)).mono ?_
    rintro e u2 ⟨rfl, hb⟩
    have G2 := Lib.hid (bel_chain G1.out hb); clear hb C1
    go_wp2_with fail
    refine (C2.out _ (HR.out.step G2.out)).mono ?_
    rintro e u3 ⟨rfl, hb⟩
    have G3 := Lib.hid (bel_chain G2.out hb); clear hb C2
    go_wp2_with fail
    refine (C3.out _ (HR.out.step G3.out)).mono ?_
    rintro e u4 ⟨rfl, hb⟩
    have G4 := Lib.hid (bel_chain G3.out hb); clear hb C3
    go_wp2_with fail
    go_ret
    exact ⟨rfl, G4.out⟩
  · rw [skR_no n _ hok] at C1 C2
    clear hok
    go_wp2_with fail
    refine (C1.out _ (HR.out.step G1.out)).mono ?_
    rintro e u2 ⟨rfl, hb⟩
    have G2 := Lib.hid (bel_chain G1.out hb); clear hb C1
    go_wp2_with fail
    refine (C2.out _ (HR.out.step G2.out)).mono ?_
    rintro e u3 ⟨rfl, hb⟩
    have G3 := Lib.hid (bel_chain G2.out hb); clear hb C2
    go_wp2_with fail
    go_ret
    exact ⟨rfl, G3.out⟩
set_option maxRecDepth 100000 in
set_option maxHeartbeats 1000000 in
theorem wFnNear (a : Option Addr) (len cap : Nat) (z : List Int) (u0 : World) (h0 : IsRow .u8 u0 a len cap z) (hTB : TBs false false u0) : Calls Tryd.prog 8 #[.slice a len cap] u0 fun e w' => e = .returned (.bool true) ∧ Below u0.heap.size u0 w' := by
  have H0 := Lib.hid h0; have HR := Lib.hid hTB; clear h0 hTB
  by_cases big : 1048576 < len
  · go_enter Tryd.func8, Tryd.ntmps8
    go_wp2_with fail
    go_ret
    exact ⟨rfl, Below.refl _ _⟩
  go_enter Tryd.func8, Tryd.ntmps8
  go_wp2_with fail
  refine (drawStrokeNear_any a len cap z _ H0.out).mono ?_
  rintro e u1 ⟨m, n, hm0, hm1, hn0, hn1, rfl, hb⟩
  have G1 := Lib.hid hb; clear hb H0 big
  have C1 := Lib.hid (fun (w : World) (hT : TBs false false w) => iStrokeNear_any m n w ⟨by omega, by omega⟩ ⟨by omega, by omega⟩ hT)
  have C2 := Lib.hid (fun (w : World) (_ : TBs false false w) => sStrokeNear_any m n w)
  by_cases hok : (0 ≤ m ∧ m ≤ 9999) ∧ (0 ≤ n ∧ n ≤ 9999)
  · obtain ⟨j, rfl⟩ := Int.eq_ofNat_of_zero_le hok.1.1
    obtain ⟨k, rfl⟩ := Int.eq_ofNat_of_zero_le hok.2.1
    have hj : j ≤ 9999 := by omega
    have hk : k ≤ 9999 := by omega
    have C3 := Lib.hid (fun (w : World) (hT : TBs false false w) => iStrokeNear_any (k : Nat) (j : Nat) w ⟨by omega, by omega⟩ ⟨by omega, by omega⟩ hT)
    have C4 := Lib.hid (fun (w : World) (hT : TBs false false w) => iStrokeCount_any (j : Nat) w ⟨by omega, by omega⟩ hT)
    have C5 := Lib.hid (fun (w : World) (hT : TBs false false w) => iStrokeCount_any (k : Nat) w ⟨by omega, by omega⟩ hT)
    rw [show nrV (j : Int) (k : Int) = .tuple #[.int .i64 (bc (vsg j ^^^ vsg k) : Nat), .bool true] by unfold nrV; rw [if_pos hok]; rfl] at C1 C2
    rw [show nrV (k : Int) (j : Int) = .tuple #[.int .i64 (bc (vsg j ^^^ vsg k) : Nat), .bool true] by unfold nrV; rw [if_pos ⟨hok.2, hok.1⟩, (bc_near j k).1]; rfl] at C3
    rw [skR_yes _ _ hj] at C4
    rw [skR_yes _ _ hk] at C5
    have hb2 := (bc_near j k).2
    have hsm := bc_same j k hj hk
    have l1 := bc_le j hj
    have l2 := bc_le k hk
    generalize bc (vsg j ^^^ vsg k) = x at *
    generalize bc (vsg j) = y at *
    generalize bc (vsg k) = z at *
    have hxx : (x : Int) ≤ (y : Int) + (z : Int) := by omega
    have hws : IntKind.i64.wrap ((y : Int) + (z : Int)) = (y : Int) + (z : Int) := IntWalk.i64_in _ (by omega)
    by_cases hjk : j = k
    · have hx0 : x = 0 := hsm.2 hjk
      have Hx := Lib.hid hx0
      have e1 : ((x : Int) == 0) = true := by rw [beq_iff_eq]; omega
      have e2 : ((j : Int) == (k : Int)) = true := by rw [beq_iff_eq]; omega
      clear hok hj hk hsm hjk hx0
      go_wp2_with fail
      refine (C1.out _ (HR.out.step G1.out)).mono ?_
      rintro e u2 ⟨rfl, hb⟩
      have G2 := Lib.hid (bel_chain G1.out hb); clear hb C1
      go_wp2_with fail
      refine (C2.out _ (HR.out.step G2.out)).mono ?_
      rintro e u3 ⟨rfl, hb⟩
      have G3 := Lib.hid (bel_chain G2.out hb); clear hb C2
      go_wp2_with fail
      refine (C3.out _ (HR.out.step G3.out)).mono ?_
      rintro e u4 ⟨rfl, hb⟩
      have G4 := Lib.hid (bel_chain G3.out hb); clear hb C3
      go_wp2_with fail
      refine (C4.out _ (HR.out.step G4.out)).mono ?_
      rintro e u5 ⟨rfl, hb⟩
      have G5 := Lib.hid (bel_chain G4.out hb); clear hb C4
      go_wp2_with fail
      refine (C5.out _ (HR.out.step G5.out)).mono ?_
      rintro e u6 ⟨rfl, hb⟩
      have G6 := Lib.hid (bel_chain G5.out hb); clear hb C5
      go_wp2_with fail
      go_ret
      exact ⟨rfl, G6.out⟩
    · have hx0 : ¬ x = 0 := fun h => hjk (hsm.1 h)
      have e1 : ((x : Int) == 0) = false := by rw [beq_eq_false_iff_ne]; omega
      have e2 : ((j : Int) == (k : Int)) = false := by rw [beq_eq_false_iff_ne]; omega
      clear hok hj hk hsm hjk
      go_wp2_with fail
      refine (C1.out _ (HR.out.step G1.out)).mono ?_
      rintro e u2 ⟨rfl, hb⟩
      have G2 := Lib.hid (bel_chain G1.out hb); clear hb C1
      go_wp2_with fail
      refine (C2.out _ (HR.out.step G2.out)).mono ?_
      rintro e u3 ⟨rfl, hb⟩
      have G3 := Lib.hid (bel_chain G2.out hb); clear hb C2
      go_wp2_with fail
      refine (C3.out _ (HR.out.step G3.out)).mono ?_
      rintro e u4 ⟨rfl, hb⟩
      have G4 := Lib.hid (bel_chain G3.out hb); clear hb C3
      go_wp2_with fail
      refine (C4.out _ (HR.out.step G4.out)).mono ?_
      rintro e u5 ⟨rfl, hb⟩
      have G5 := Lib.hid (bel_chain G4.out hb); clear hb C4
      go_wp2_with fail
      refine (C5.out _ (HR.out.step G5.out)).mono ?_
      rintro e u6 ⟨rfl, hb⟩
      have G6 := Lib.hid (bel_chain G5.out hb); clear hb C5
      go_wp2_with fail
      go_ret
      exact ⟨rfl, G6.out⟩
  · rw [show nrV m n = .tuple #[.int .i64 0, .bool false] by unfold nrV; rw [if_neg hok]] at C1 C2
    clear hok
    go_wp2_with fail
    refine (C1.out _ (HR.out.step G1.out)).mono ?_
    rintro e u2 ⟨rfl, hb⟩
    have G2 := Lib.hid (bel_chain G1.out hb); clear hb C1
    go_wp2_with fail
    refine (C2.out _ (HR.out.step G2.out)).mono ?_
    rintro e u3 ⟨rfl, hb⟩
    have G3 := Lib.hid (bel_chain G2.out hb); clear hb C2
    go_wp2_with fail
    go_ret
    exact ⟨rfl, G3.out⟩
end Go.Proofs.YtdokdlcmplggfaaDoor
