/- The walk of FnExactPlaceReadings (printed by genr.py). -/
import Derived.Test.YtejhiilkbckobaaDoorDG
import Derived.Test.YtejhiilkbckobaaDoorDC
namespace Go.Proofs.YtejhiilkbckobaaDoor
open Go.RowKit
set_option linter.unusedVariables false
set_option maxRecDepth 100000
theorem markIntS_rint (lo hi : Nat) (a : Option Addr) (n c : Nat) (f : Nat → Int) (k0 : Int) (w : World) (h : Rsp w lo hi a n f) (hn : n ≤ 10000000) (hk : 0 ≤ k0) (hk0 : k0 ≤ 1000000000) :
    Calls Tryd.prog 17 #[.slice a n c, .int .i64 k0] w fun e w' => e = .returned (.int .i64 (k0 + n)) ∧ Rsp w' lo hi a n (fun j => k0 + j) ∧ Mid lo hi w w' := by
  obtain ⟨k, rfl⟩ := Int.eq_ofNat_of_zero_le hk
  exact markIntS_row lo hi a n c f k w h hn (by omega)
theorem heldIntS_rint (a : Option Addr) (n c : Nat) (f : Nat → Int) (k0 : Int) (w : World) (h : Ls w a n f) (hn : n ≤ 10000000) (hk : 0 ≤ k0) (hk0 : k0 ≤ 1000000000) (e : ∀ j, j < n → f j = k0 + j) :
    Calls Tryd.prog 18 #[.slice a n c, .int .i64 k0] w fun e w' => e = .returned (.int .i64 (k0 + n)) ∧ w = w' := by
  obtain ⟨k, rfl⟩ := Int.eq_ofNat_of_zero_le hk
  exact heldIntS_yes a n c f k w h hn (by omega) e
theorem rds_le (l : List UInt8) : (rds l).length ≤ 216000 := by
  unfold rds
  exact Nat.le_trans (List.length_filter_le _ _) (Nat.le_of_eq List.length_range)
set_option maxRecDepth 100000 in
set_option maxHeartbeats 1000000 in
theorem wFnExactPlaceReadings (s0 : ByteArray) (u0 : World) (h0 : s0.size ≤ maxLen) (hs : u0.ShapedOpen Tryd.prog) : Calls Tryd.prog 6 #[.string s0] u0 fun e w' => e = .returned (.bool true) ∧ Below u0.heap.size u0 w' := by
  clear hs
  obtain ⟨l, rfl, hl⟩ := str_list s0
  have HL := Lib.hid hl
  by_cases big : 1048576 < l.length
  · have bg : 1048576 < (⟨l.toArray⟩ : ByteArray).size := by omega
    unfold maxLen at h0
    clear hl
    have hq : l.length ≤ 9223372036854775807 := by have := HL.out; omega
    go_enter Tryd.func6, Tryd.ntmps6
    go_wp2_with fail
    go_ret
    exact ⟨rfl, Below.refl _ _⟩
  have hq : l.length ≤ 1048576 := by omega
  have C1 := Lib.hid (fun w : World => sPlaceReadings_any l w hq)
  have C2 := Lib.hid (fun w : World => iPlaceReadings_any l w hq)
  have hn := rds_le l
  clear hl h0 big
  generalize rdsF l = f at *
  generalize (rds l).length = n at *
  generalize prsB l = b at *
  have G0 := Lib.hid (Below.refl u0.heap.size u0)
  go_enter Tryd.func6, Tryd.ntmps6
  go_wp2_with fail
  refine (C1.out _).mono ?_
  rintro e u1 hr
  obtain ⟨pS, mS, qS, rfl, hmS, hres, hb⟩ := hr
  have bS : mS ≤ 10000000 := by rw [hmS]; split <;> omega
  have HmS := Lib.hid hmS; clear hmS
  have dS : decide (1 + (mS : Int) < 0) = false := decide_eq_false (by omega)
  have g1 : Below u0.heap.size u0 u1 := hb
  have s1 : u0.heap.size ≤ u1.heap.size := g1.size
  have G1 := Lib.hid (bel_chain G0.out g1)
  have RS1 : Hid (Rsp u1 u0.heap.size u1.heap.size pS mS f) := hres
  clear hres hb g1
  go_wp2_with fail
  refine (C2.out _).mono ?_
  rintro e u2 hr
  obtain ⟨pI, mI, qI, rfl, hmI, hres, hb⟩ := hr
  obtain rfl : mS = mI := HmS.out.trans hmI.symm
  clear hmI
  have g2 : Below u1.heap.size u1 u2 := hb
  have s2 : u1.heap.size ≤ u2.heap.size := g2.size
  have RS2 := Lib.hid (RS1.out.below g2)
  clear RS1
  have G2 := Lib.hid (bel_chain G1.out g2)
  have RI2 : Hid (Rsp u2 u1.heap.size u2.heap.size pI mS f) := hres
  clear hres hb g2
  go_wp2_with fail
  refine (eqIntS_yes pI pS mS _ _ f f u2 RI2.out.ls RS2.out.ls (by omega) (fun _ _ => rfl)).mono ?_
  rintro e u3 ⟨rfl, hm⟩
  have g3 : Below u2.heap.size u2 u3 := hm.bel0
  have s3 : u2.heap.size ≤ u3.heap.size := g3.size
  have RS3 := Lib.hid (RS2.out.below g3)
  have RI3 := Lib.hid (RI2.out.below g3)
  clear RS2 RI2
  have G3 := Lib.hid (bel_chain G2.out g3)
  clear hm g3
  go_wp2_with fail
  refine (markIntS_rint u1.heap.size u2.heap.size pI mS _ f (1) u3 RI3.out (by omega) (by omega) (by omega)).mono ?_
  rintro e u4 ⟨rfl, hr, hm⟩
  have RS4 := Lib.hid (RS3.out.mid hm (by omega))
  clear RS3 RI3
  have s4 : u3.heap.size ≤ u4.heap.size := Nat.le_of_eq hm.size.symm
  have G4 := Lib.hid (hm.bel G3.out (by omega))
  have RI4 := Lib.hid hr
  clear hr hm
  go_wp2_with fail
  refine (heldIntS_rint pI mS _ (fun j => (1 : Int) + j) (1) u4 RI4.out.ls (by omega) (by omega) (by omega) (fun _ _ => rfl)).mono ?_
  rintro e u5 ⟨rfl, rfl⟩
  go_wp2_with fail
  refine (C2.out _).mono ?_
  rintro e u5 hr
  obtain ⟨pH, mH, qH, rfl, hmH, hres, hb⟩ := hr
  obtain rfl : mS = mH := HmS.out.trans hmH.symm
  clear hmH
  have g5 : Below u4.heap.size u4 u5 := hb
  have s5 : u4.heap.size ≤ u5.heap.size := g5.size
  have RS5 := Lib.hid (RS4.out.below g5)
  have RI5 := Lib.hid (RI4.out.below g5)
  clear RS4 RI4
  have G5 := Lib.hid (bel_chain G4.out g5)
  have RH5 : Hid (Rsp u5 u4.heap.size u5.heap.size pH mS f) := hres
  clear hres hb g5
  go_wp2_with fail
  refine (eqIntS_yes pH pS mS _ _ f f u5 RH5.out.ls RS5.out.ls (by omega) (fun _ _ => rfl)).mono ?_
  rintro e u6 ⟨rfl, hm⟩
  have g6 : Below u5.heap.size u5 u6 := hm.bel0
  have s6 : u5.heap.size ≤ u6.heap.size := g6.size
  have RS6 := Lib.hid (RS5.out.below g6)
  have RI6 := Lib.hid (RI5.out.below g6)
  have RH6 := Lib.hid (RH5.out.below g6)
  clear RS5 RI5 RH5
  have G6 := Lib.hid (bel_chain G5.out g6)
  clear hm g6
  go_wp2_with fail
  refine (heldIntS_rint pI mS _ (fun j => (1 : Int) + j) (1) u6 RI6.out.ls (by omega) (by omega) (by omega) (fun _ _ => rfl)).mono ?_
  rintro e u7 ⟨rfl, rfl⟩
  go_wp2_with fail
  go_ret
  exact ⟨rfl, G6.out⟩
end Go.Proofs.YtejhiilkbckobaaDoor
