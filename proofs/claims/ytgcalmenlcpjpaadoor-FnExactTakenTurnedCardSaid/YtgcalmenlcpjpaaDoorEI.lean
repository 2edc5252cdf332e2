/- The program's readSigned. -/
import Derived.Test.YtgcalmenlcpjpaaDoorEH
namespace Go.Proofs.YtgcalmenlcpjpaaDoor
open Go.RowKit
set_option linter.unusedVariables false
set_option maxRecDepth 100000
/-- a system and a signed pile of it, or the error that there is none -/
def RdR (w : World) (C A : Array Value) (B : Bool) (e : Ending) (w' : World) : Prop := ∃ E, e = .returned (.tuple #[.agg C, .agg A, E]) ∧ ErrOf B E ∧ Below w.heap.size w w'
def RdY (w : World) (C A : Array Value) (e : Ending) (w' : World) : Prop := e = .returned (.tuple #[.agg C, .agg A, .nilIface]) ∧ Below w.heap.size w w'
def RdN (w : World) (C A : Array Value) (e : Ending) (w' : World) : Prop := ∃ s, e = .returned (.tuple #[.agg C, .agg A, errV s]) ∧ Below w.heap.size w w'
theorem RdR.yes {w w' : World} {C A : Array Value} {B : Bool} {e : Ending} (h : RdR w C A B e w') (hB : B = true) : RdY w C A e w' := by
  obtain ⟨E, he, h1 | h1, hw⟩ := h
  · obtain ⟨_, rfl⟩ := h1; exact ⟨he, hw⟩
  · exact absurd (h1.1.symm.trans hB) (by decide)
theorem RdR.no {w w' : World} {C A : Array Value} {B : Bool} {e : Ending} (h : RdR w C A B e w') (hB : B = false) : RdN w C A e w' := by
  obtain ⟨E, he, h1 | h1, hw⟩ := h
  · exact absurd (h1.1.symm.trans hB) (by decide)
  · obtain ⟨_, s, rfl⟩ := h1; exact ⟨s, he, hw⟩
theorem RdR.mkN {w w' : World} {C A : Array Value} {B : Bool} {E : Value} (h : ∃ s, E = errV s) (hB : B = false) (hw : Below w.heap.size w w') : RdR w C A B (.returned (.tuple #[.agg C, .agg A, E])) w' := ⟨_, rfl, .inr ⟨hB, h⟩, hw⟩
theorem RdR.mkY {w w' : World} {C A : Array Value} {B : Bool} (hB : B = true) (hw : Below w.heap.size w w') : RdR w C A B (.returned (.tuple #[.agg C, .agg A, .nilIface])) w' := ⟨_, rfl, .inl ⟨hB, rfl⟩, hw⟩
theorem results_two_val {P : Program} {fn : Func} {p p' q : Tmp} {ty ty' : TypeId} (h : fn.results = #[.cell p ty, .cell p' ty', .tmp q]) (tmps : Array Value) (w : World) (T T' : TypeId) (b b' N N' : Nat) (v v' : Nat → Value) (x : Value) (d d' : TypeDesc)
    (hp : tmps.getD p undef = .pointer (some ⟨b, 0, none⟩)) (hp2 : tmps.getD p' undef = .pointer (some ⟨b', 0, none⟩)) (hq : tmps.getD q undef = x) (hb : VRow T w b N v) (hb2 : VRow T' w b' N' v')
    (hu : P.underlying ty = some d) (hd : d.isRow = true) (hi : (P.info? ty).map (·.size) = some N) (hu' : P.underlying ty' = some d') (hd' : d'.isRow = true) (hi' : (P.info? ty').map (·.size) = some N') :
    (results fn tmps).run P w = .ok (.tuple #[.agg (vals v N).toArray, .agg (vals v' N').toArray, x]) w := by
  have e1 : tmps[p]?.getD undef = .pointer (some ⟨b, 0, none⟩) := by simpa using hp
  have e2 : tmps[p']?.getD undef = .pointer (some ⟨b', 0, none⟩) := by simpa using hp2
  have e3 : tmps[q]?.getD undef = x := by simpa using hq
  have hr := run_loadVar_row (P := P) w b T ty _ _ d hb hu (by cases d <;> simp_all [TypeDesc.isRow]) (by rw [hi]; simp [vals])
  have hr' := run_loadVar_row (P := P) w b' T' ty' _ _ d' hb2 hu' (by cases d' <;> simp_all [TypeDesc.isRow]) (by rw [hi']; simp [vals])
  simp [results, h, e1, e2, e3, asAddr, hr, hr']
def rsN (f : Nat → Int) (n : Nat) (p : Nat → Int) (m : Nat) : Nat := if sgnB f n p m = true then n else 0
def rsA (f : Nat → Int) (n : Nat) (p : Nat → Int) (m : Nat) : Array Value := sgA (pad (fun j => gA (p j)) (rsN f n p m)) (mrk p (rsN f n p m))
theorem rs_no {f : Nat → Int} {n : Nat} {p : Nat → Int} {m : Nat} (h : sgnB f n p m = false) : arr7 f (rsN f n p m) = zero7 ∧ rsA f n p m = zero12 := by
  have e : rsN f n p m = 0 := by unfold rsN; rw [h]; rfl
  unfold rsA
  rw [e, arr7_none, sg_nil]
  exact ⟨rfl, rfl⟩
theorem rs_yes {f : Nat → Int} {n : Nat} {p : Nat → Int} {m : Nat} (h : sgnB f n p m = true) : arr7 f (rsN f n p m) = arr7 f n ∧ rsA f n p m = sgA (pad (fun j => gA (p j)) n) (mrk p n) := by
  have e : rsN f n p m = n := if_pos h
  unfold rsA
  rw [e]
  exact ⟨rfl, rfl⟩
set_option maxHeartbeats 2000000 in
theorem readSigned_any (a b : Option Addr) (n m c d : Nat) (f p : Nat → Int) (w : World) (h : Ls w a n f) (h' : Ls w b m p) (hn : n ≤ 10000000) (hm : m ≤ 10000000) (hfit : Fit f n) (hbd : Bnd p m) :
    Calls Tryd.prog 48 #[.slice a n c, .slice b m d] w (RdR w (arr7 f (rsN f n p m)) (rsA f n p m) (sgnB f n p m)) := by
  obtain ⟨w1, hw1, hb1, hb2, hbel, hsz⟩ := boxes w zero7 zero12 41 50
  have HY1 : Hid (Blk 41 w1 w.heap.size 7 (fun _ => 0)) := Lib.hid (by rw [zero7_eq] at hb1; exact hb1)
  have HZ1 : Hid (Sg w1 (w.heap.size + 1) (fun _ => 0) (fun _ => false)) := Lib.hid (by rw [zero12_eq] at hb2; exact hb2)
  have HB := Lib.hid hbel
  have Hsz := Lib.hid hsz
  have C1 := Lib.hid (readSystem_any a n c f w1 (h.below hbel) hn hfit)
  have H' := Lib.hid h'
  have HNo := Lib.hid (fun h => rs_no (f := f) (n := n) (p := p) (m := m) h)
  have HYes := Lib.hid (fun h => rs_yes (f := f) (n := n) (p := p) (m := m) h)
  have HD := Lib.hid (sgnB_sb f n p m)
  have HSN := Lib.hid (fun h => sysN_no (f := f) (n := n) h)
  have HS6 := Lib.hid (fun h => (sysB_sys (f := f) (n := n) h).2.1)
  have Hbd := Lib.hid hbd
  clear h h' hfit hbd hb1 hb2 hbel hsz
  generalize arr7 f (rsN f n p m) = RC at *
  generalize rsA f n p m = RA at *
  generalize sgnB f n p m = W at *
  unfold zero7 zero12 at hw1
  have Hw1 := Lib.hid hw1
  clear hw1
  have SEx : Hid (∀ w : World, Sg (w.alloc (.cells zero12 50)) w.heap.size (fun _ => 0) (fun _ => false)) := Lib.hid sg_zero
  cases hB : sysB f n with
  | false =>
    have HW : Hid (W = false) := Lib.hid (by rw [HD.out, hB]; rfl)
    have HR : Hid (arr7 f (sysN f n) = (intCells (sysF f 0) 7).toArray) := Lib.hid (by rw [HSN.out hB]; rfl)
    have C2 := Lib.hid (C1.out.mono fun _ _ h => h.no hB)
    obtain ⟨E1, E2⟩ := HNo.out HW.out
    have HE1 := Lib.hid E1; have HE2 := Lib.hid E2
    clear C1 hB E1 E2
    generalize arr7 f (sysN f n) = R at *
    go_enter Tryd.func48, Tryd.ntmps48
    go_wp2_with fail
    rw [← Hw1.out]
    refine C2.out.mono ?_
    rintro e w2 ⟨s, rfl, g2⟩
    rw [Hsz.out] at g2
    have HY2 := Lib.hid (HY1.out.keep (g2.block _ (by omega))); have HZ2 := Lib.hid (VRow.keep HZ1.out (g2.block _ (by omega)))
    have HW2 : Hid (Below w.heap.size w w2) := Lib.hid (HB.out.trans (g2.mono (by omega)))
    have hlt2 : w.heap.size + 1 < w2.heap.size := VRow.lt HZ2.out
    clear g2
    have HV : Hid (Blk 41 (w2.alloc (.cells zero7 41)) w2.heap.size 7 (fun _ => 0)) := zero7_blk w2 _
    have HVY := Lib.hid (HY2.out.alloc (.cells zero7 41)); have HVZ := Lib.hid (VRow.alloc HZ2.out (.cells zero7 41))
    have HVW : Hid (Below w.heap.size w (w2.alloc (.cells zero7 41))) := HW2.out.alloc (by omega) _
    unfold errV
    go_wp2_with (first
      | ((with_reducible refine here ⟨none, .store 41 (.tmp 7) (.tmp 13), _, _, _, _⟩ ?_)
         refine wpList_store_blk rfl 41 (.tmp 7) (.tmp 13) rfl 41 w2.heap.size 7 (fun _ => 0) (sysF f 0) rfl (by rw [← HR.out]; rfl) HV.out szSys ?_
         intro w4 hb4 hm4
         have HY4 := Lib.hid (HVY.out.mid hm4 (by omega)); have HZ4 := Lib.hid (VRow.mid HVZ.out hm4 (by omega)); have HW4 : Hid (Below w.heap.size w w4) := hm4.bel HVW.out (by omega); clear hb4 hm4)
      | ((with_reducible refine here ⟨none, .store 41 (.tmp 4) (.tmp 17), _, _, _, _⟩ ?_)
         refine wpList_store_blk rfl 41 (.tmp 4) (.tmp 17) rfl 41 w.heap.size 7 (fun _ => 0) (fun _ => 0) rfl rfl HY4.out szSys ?_
         intro w5 hb5 hm5
         have HY5 := Lib.hid hb5; have HZ5 := Lib.hid (VRow.mid HZ4.out hm5 (by omega)); have HW5 : Hid (Below w.heap.size w w5) := hm5.bel HW4.out (by omega); clear hb5 hm5)
      | ((with_reducible refine here ⟨none, .store 50 (.tmp 5) (.tmp 18), _, _, _, _⟩ ?_)
         refine wpList_store_vals rfl 50 (.tmp 5) (.tmp 18) rfl 50 (w.heap.size + 1) 12 0 12 _ (sgV (fun _ => 0) (fun _ => false)) rfl rfl HZ5.out (by omega) szSg (sgV_one _ _ 12) ?_
         intro w6 hb6 hm6
         have HZ6 := Lib.hid hb6; have HY6 := Lib.hid (HY5.out.mid hm6 (by omega)); have HW6 : Hid (Below w.heap.size w w6) := hm6.bel HW5.out (by omega); clear hb6 hm6))
    refine bodyPost_ret (results_two_val Tryd.results48 _ _ 41 50 w.heap.size (w.heap.size + 1) 7 12 _ _ _ _ _ rfl rfl rfl HY6.out HZ6.out Tryd.underlying41 rfl szSys Tryd.underlying50 rfl szSg) rfl ?_
    rw [HE1.out, HE2.out, vals_congr (fun j hj => ovr_all _ _ 12 j hj)]
    exact RdR.mkN ⟨_, rfl⟩ HW.out HW6.out
  | true =>
    have hsn : sysN f n = n := sysN_yes hB
    have HR : Hid (arr7 f n = (intCells (sysF f n) 7).toArray) := Lib.hid rfl
    have C2 := Lib.hid (C1.out.mono fun _ _ h => h.yes hB)
    rw [hsn] at C2
    have hn6 := HS6.out hB
    have C3 := Lib.hid (fun w (g : Ls w b m p) => signedOf_any f n b m d p w g hm hn6 Hbd.out)
    have HDW : Hid (W = sbB p m n) := Lib.hid (by rw [HD.out, hB]; rfl)
    clear C1 hB hsn hn6
    obtain ⟨R, hR⟩ : ∃ R, arr7 f n = R := ⟨_, rfl⟩
    rw [hR] at HR C2 C3 HYes
    clear hR
    have HA : Hid (sgA (pad (fun j => gA (p j)) (sbN p m n)) (mrk p (sbN p m n)) = (vals (sgV (pad (fun j => gA (p j)) (sbN p m n)) (mrk p (sbN p m n))) 12).toArray) := Lib.hid rfl
    have HSB : Hid (sbB p m n = true → sgA (pad (fun j => gA (p j)) (sbN p m n)) (mrk p (sbN p m n)) = sgA (pad (fun j => gA (p j)) n) (mrk p n)) := Lib.hid (fun h => by unfold sbN; rw [if_pos h])
    have SgO := Lib.hid (sgV_one (pad (fun j => gA (p j)) (sbN p m n)) (mrk p (sbN p m n)))
    generalize sgV (pad (fun j => gA (p j)) (sbN p m n)) (mrk p (sbN p m n)) = V at *
    generalize sgA (pad (fun j => gA (p j)) (sbN p m n)) (mrk p (sbN p m n)) = A at *
    go_enter Tryd.func48, Tryd.ntmps48
    go_wp2_with fail
    rw [← Hw1.out]
    refine C2.out.mono ?_
    rintro e w2 ⟨rfl, g2⟩
    rw [Hsz.out] at g2
    have HY2 := Lib.hid (HY1.out.keep (g2.block _ (by omega))); have HZ2 := Lib.hid (VRow.keep HZ1.out (g2.block _ (by omega)))
    have HW2 : Hid (Below w.heap.size w w2) := Lib.hid (HB.out.trans (g2.mono (by omega)))
    have hlt2 : w.heap.size + 1 < w2.heap.size := VRow.lt HZ2.out
    clear g2
    have HV : Hid (Blk 41 (w2.alloc (.cells zero7 41)) w2.heap.size 7 (fun _ => 0)) := zero7_blk w2 _
    have HVY := Lib.hid (HY2.out.alloc (.cells zero7 41)); have HVZ := Lib.hid (VRow.alloc HZ2.out (.cells zero7 41))
    have HVW : Hid (Below w.heap.size w (w2.alloc (.cells zero7 41))) := HW2.out.alloc (by omega) _
    go_wp2_with (first
      | ((with_reducible refine here ⟨none, .store 41 (.tmp 7) (.tmp 13), _, _, _, _⟩ ?_)
         refine wpList_store_blk rfl 41 (.tmp 7) (.tmp 13) rfl 41 w2.heap.size 7 (fun _ => 0) (sysF f n) rfl (by rw [← HR.out]; rfl) HV.out szSys ?_
         intro w4 hb4 hm4
         have HV4 := Lib.hid hb4; have HY4 := Lib.hid (HVY.out.mid hm4 (by omega)); have HZ4 := Lib.hid (VRow.mid HVZ.out hm4 (by omega)); have HW4 : Hid (Below w.heap.size w w4) := hm4.bel HVW.out (by omega); clear hb4 hm4)
      | ((with_reducible refine here ⟨some 21, _, _, _, _, _⟩ ?_)
         refine wpList_load_blk rfl 41 (.tmp 7) rfl 41 w2.heap.size 7 _ _ rfl HV4.out Tryd.underlying41 rfl szSys ?_
         rw [← HR.out]))
    refine (C3.out _ (H'.out.below HW4.out)).mono ?_
    intro e w5 hr5
    cases hsb : sbB p m n with
    | false =>
      have HW : Hid (W = false) := Lib.hid (by rw [HDW.out, hsb])
      obtain ⟨s, rfl, g5⟩ := hr5.no hsb
      obtain ⟨E1, E2⟩ := HNo.out HW.out
      have HE1 := Lib.hid E1; have HE2 := Lib.hid E2
      have HY5 := Lib.hid (HY4.out.below g5); have HZ5 := Lib.hid (VRow.below HZ4.out g5)
      have HW5 : Hid (Below w.heap.size w w5) := Lib.hid (HW4.out.trans (g5.mono HW4.out.size))
      have hlt5 : w.heap.size + 1 < w5.heap.size := VRow.lt HZ5.out
      clear g5 hsb E1 E2
      have HX := Lib.hid (sg_zero w5)
      have HXY := Lib.hid (HY5.out.alloc (.cells zero12 50)); have HXZ := Lib.hid (VRow.alloc HZ5.out (.cells zero12 50))
      have HXW : Hid (Below w.heap.size w (w5.alloc (.cells zero12 50))) := HW5.out.alloc (by omega) _
      unfold errV
      go_wp2_with (first
        | ((with_reducible refine here ⟨none, .store 50 (.tmp 9) (.tmp 24), _, _, _, _⟩ ?_)
           refine wpList_store_vals rfl 50 (.tmp 9) (.tmp 24) rfl 50 w5.heap.size 12 0 12 _ V rfl (by rw [← HA.out]; rfl) HX.out (by omega) szSg (SgO.out 12) ?_
           intro w6 hb6 hm6
           have HY6 := Lib.hid (HXY.out.mid hm6 (by omega)); have HZ6 := Lib.hid (VRow.mid HXZ.out hm6 (by omega)); have HW6 : Hid (Below w.heap.size w w6) := hm6.bel HXW.out (by omega); clear hb6 hm6)
        | ((with_reducible refine here ⟨none, .store 41 (.tmp 4) (.tmp 28), _, _, _, _⟩ ?_)
           refine wpList_store_blk rfl 41 (.tmp 4) (.tmp 28) rfl 41 w.heap.size 7 (fun _ => 0) (fun _ => 0) rfl rfl HY6.out szSys ?_
           intro w7 hb7 hm7
           have HY7 := Lib.hid hb7; have HZ7 := Lib.hid (VRow.mid HZ6.out hm7 (by omega)); have HW7 : Hid (Below w.heap.size w w7) := hm7.bel HW6.out (by omega); clear hb7 hm7)
        | ((with_reducible refine here ⟨none, .store 50 (.tmp 5) (.tmp 29), _, _, _, _⟩ ?_)
           refine wpList_store_vals rfl 50 (.tmp 5) (.tmp 29) rfl 50 (w.heap.size + 1) 12 0 12 _ (sgV (fun _ => 0) (fun _ => false)) rfl rfl HZ7.out (by omega) szSg (sgV_one _ _ 12) ?_
           intro w8 hb8 hm8
           have HZ8 := Lib.hid hb8; have HY8 := Lib.hid (HY7.out.mid hm8 (by omega)); have HW8 : Hid (Below w.heap.size w w8) := hm8.bel HW7.out (by omega); clear hb8 hm8))
      refine bodyPost_ret (results_two_val Tryd.results48 _ _ 41 50 w.heap.size (w.heap.size + 1) 7 12 _ _ _ _ _ rfl rfl rfl HY8.out HZ8.out Tryd.underlying41 rfl szSys Tryd.underlying50 rfl szSg) rfl ?_
      rw [HE1.out, HE2.out, vals_congr (fun j hj => ovr_all _ _ 12 j hj)]
      exact RdR.mkN ⟨_, rfl⟩ HW.out HW8.out
    | true =>
      have HW : Hid (W = true) := Lib.hid (by rw [HDW.out, hsb])
      obtain ⟨rfl, g5⟩ := hr5.yes hsb
      obtain ⟨E1, E2⟩ := HYes.out HW.out
      have HE1 := Lib.hid E1; have HE2 := Lib.hid (E2.trans (HSB.out hsb).symm)
      have HV5 := Lib.hid (HV4.out.below g5)
      have HY5 := Lib.hid (HY4.out.below g5); have HZ5 := Lib.hid (VRow.below HZ4.out g5)
      have HW5 : Hid (Below w.heap.size w w5) := Lib.hid (HW4.out.trans (g5.mono HW4.out.size))
      have hlt5 : w.heap.size + 1 < w5.heap.size := VRow.lt HZ5.out
      have hlt6 : w2.heap.size < w5.heap.size := HV5.out.lt
      clear g5 hsb E1 E2
      have HX := Lib.hid (sg_zero w5)
      have HXV := Lib.hid (HV5.out.alloc (.cells zero12 50))
      have HXY := Lib.hid (HY5.out.alloc (.cells zero12 50)); have HXZ := Lib.hid (VRow.alloc HZ5.out (.cells zero12 50))
      have HXW : Hid (Below w.heap.size w (w5.alloc (.cells zero12 50))) := HW5.out.alloc (by omega) _
      go_wp2_with (first
        | ((with_reducible refine here ⟨none, .store 50 (.tmp 9) (.tmp 24), _, _, _, _⟩ ?_)
           refine wpList_store_vals rfl 50 (.tmp 9) (.tmp 24) rfl 50 w5.heap.size 12 0 12 _ V rfl (by rw [← HA.out]; rfl) HX.out (by omega) szSg (SgO.out 12) ?_
           intro w6 hb6 hm6
           have HX6 : Hid (VRow 50 w6 w5.heap.size 12 V) := Lib.hid (hb6.congr (fun j hj => ovr_all _ _ 12 j hj)); have HV6 := Lib.hid (HXV.out.mid hm6 (by omega))
           have HY6 := Lib.hid (HXY.out.mid hm6 (by omega)); have HZ6 := Lib.hid (VRow.mid HXZ.out hm6 (by omega)); have HW6 : Hid (Below w.heap.size w w6) := hm6.bel HXW.out (by omega); clear hb6 hm6))
      refine wp_region_held_drew (S := fun w' => Blk 41 w' w2.heap.size 7 (sysF f n) ∧ VRow 50 w' w5.heap.size 12 V) (by kernel_rfl) ⟨HV6.out, HX6.out⟩ (fun hH => ?_)
      refine wpAnyH_take (i := 0) rfl (by kernel_rfl) (by kernel_rfl) (by kernel_rfl) (fun _ _ _ h => h) (yields_load_vals rfl 41 (.tmp 7) rfl 41 w2.heap.size 7 0 7 (fun k => .int .i64 (sysF f n k)) _ rfl (fun _ h => h.1) (by omega) Tryd.underlying41 rfl szSys) hH ?_
      refine wpAnyH_take (i := 1) rfl (by kernel_rfl) (by kernel_rfl) (by kernel_rfl) (fun _ _ _ h => h) (yields_load_vals rfl 50 (.tmp 9) rfl 50 w5.heap.size 12 0 12 V _ rfl (fun _ h => h.2) (by omega) Tryd.underlying50 rfl szSg) hH ?_
      clear hH
      have HY6' : Hid (Blk 41 w6.drew w.heap.size 7 (fun _ => 0)) := HY6.out
      have HZ6' : Hid (Sg w6.drew (w.heap.size + 1) (fun _ => 0) (fun _ => false)) := HZ6.out
      have HV6' : Hid (Blk 41 w6.drew w2.heap.size 7 (sysF f n)) := HV6.out
      have HX6' : Hid (VRow 50 w6.drew w5.heap.size 12 V) := HX6.out
      have HW6' : Hid (Below w.heap.size w w6.drew) := HW6.out.drew
      generalize w6.drew = w6 at *
      refine wpAnyH_ready (rs := [2]) (by kernel_rfl) (by simp) ?_
      refine AllReadyH.cons rfl (fun K hK => ?_) AllReadyH.nil
      refine step_store_vals rfl 41 (.tmp 4) (.tmp 31) rfl 41 w.heap.size 7 0 7 (fun _ => .int .i64 0) _ rfl rfl HY6'.out (by omega) szSys (fun _ _ => rfl) ?_
      intro w7 hb7 hm7
      have HY7 := Lib.hid hb7; have HZ7 := Lib.hid (VRow.mid HZ6'.out hm7 (by omega)); have HV7 := Lib.hid (HV6'.out.mid hm7 (by omega)); have HX7 := Lib.hid (VRow.mid HX6'.out hm7 (by omega)); have HW7 : Hid (Below w.heap.size w w7) := hm7.bel HW6'.out (by omega); clear hb7 hm7
      refine hK.out _ _ ⟨HV7.out, HX7.out⟩ (fun hH => ?_)
      clear hK K hH
      refine wpAnyH_ready (rs := [3]) (by kernel_rfl) (by simp) ?_
      refine AllReadyH.cons rfl (fun K hK => ?_) AllReadyH.nil
      refine step_store_vals rfl 50 (.tmp 5) (.tmp 32) rfl 50 (w.heap.size + 1) 12 0 12 _ _ rfl rfl HZ7.out (by omega) szSg (fun j hj => SgO.out 12 (0 + j) (by omega)) ?_
      intro w8 hb8 hm8
      have HZ8 := Lib.hid hb8; have HY8 := Lib.hid (VRow.mid HY7.out hm8 (by omega)); have HV8 := Lib.hid (HV7.out.mid hm8 (by omega)); have HX8 := Lib.hid (VRow.mid HX7.out hm8 (by omega)); have HW8 : Hid (Below w.heap.size w w8) := hm8.bel HW7.out (by omega); clear hb8 hm8
      refine hK.out _ _ ⟨HV8.out, HX8.out⟩ (fun hH => ?_)
      clear hK K hH
      refine wpAnyH_ready (rs := [4]) (by kernel_rfl) (by simp) ?_
      refine AllReadyH.cons rfl (fun K hK => ?_) AllReadyH.nil
      go_simp
      refine hK.out _ _ ⟨HV8.out, HX8.out⟩ (fun hH => ?_)
      clear hK K hH
      refine wpAnyH_done (by kernel_rfl) ?_ _
      go_wp2
      refine bodyPost_ret (results_two_val Tryd.results48 _ _ 41 50 w.heap.size (w.heap.size + 1) 7 12 _ _ _ _ _ rfl rfl rfl HY8.out HZ8.out Tryd.underlying41 rfl szSys Tryd.underlying50 rfl szSg) rfl ?_
      rw [HE1.out, HE2.out, HR.out, HA.out, vals_congr (n := 12) (fun j hj => ovr_all _ _ 12 j hj), vals_congr (n := 7) (fun j hj => ovr_all _ _ 7 j hj)]
      simp only [Nat.zero_add]
      exact RdR.mkY HW.out HW8.out
end Go.Proofs.YtgcalmenlcpjpaaDoor
