/- The walk of FnReadings. -/
import Derived.Test.YtejhiilkbckobaaDoorDH
import Derived.IntWalk
namespace Go.Proofs.YtejhiilkbckobaaDoor
open Go.RowKit
set_option linter.unusedVariables false
set_option maxRecDepth 100000
theorem rds_fact (l : List UInt8) (k : Nat) (h : k < (rds l).length) : ∃ x : Nat, rdsF l k = x ∧ x ≤ 215999 ∧ bare (clay x) = l ∧ (rds l).getD k 0 = x := by
  have hm := (mem_rds l _).1 (List.getElem_mem h)
  refine ⟨(rds l)[k], ?_, hm.1, ?_, by rw [List.getD_eq_getElem?_getD, List.getElem?_eq_getElem h]; rfl⟩
  · unfold rdsF ints
    rw [List.getD_eq_getElem?_getD, List.getElem?_map, List.getElem?_eq_getElem h]
    rfl
  · have := ((isRd_iff l _).1 hm.2).2.2
    rw [bare_clay]; exact this
theorem rds_up (l : List UInt8) (k : Nat) (h : k + 1 < (rds l).length) : (rds l).getD k 0 < (rds l).getD (k + 1) 0 := by
  have := List.pairwise_iff_getElem.1 (rds_asc l) k (k + 1) (by omega) h (by omega)
  rw [List.getD_eq_getElem?_getD, List.getD_eq_getElem?_getD, List.getElem?_eq_getElem h, List.getElem?_eq_getElem (by omega)]
  exact this
theorem bare_take (L : List UInt8) (k : Nat) (h : k < L.length) : bare (L.take (k + 1)) = bare (L.take k) ++ (if L[k] = 32 then [] else [L[k]]) := by
  unfold bare
  rw [List.take_succ_eq_append_getElem h, List.filter_append]
  congr 1
  by_cases e : L[k] = 32
  · rw [if_pos e]; simp [e]
  · rw [if_neg e]; simp [e]
theorem cat_one (y : ByteArray) (B : List UInt8) (c : UInt8) (h : y = ⟨B.toArray⟩) : y ++ ⟨#[c]⟩ = ⟨(B ++ [c]).toArray⟩ := by
  subst h
  apply ByteArray.ext
  rw [ByteArray.data_append]
  simp
theorem ext_one (L : List UInt8) (k : Nat) (h : k < L.length) : (⟨L.toArray⟩ : ByteArray).extract k (k + 1) = ⟨#[L[k]]⟩ := by
  rw [Lib.extract_eq]
  congr 1
  simp [List.take_one, List.head?_drop, List.getElem?_eq_getElem h]
set_option maxRecDepth 100000 in
set_option maxHeartbeats 2000000 in
theorem wFnReadings (a : Option Addr) (len cap : Nat) (z : List Int) (u0 : World) (h0 : IsRow .u8 u0 a len cap z) (hs : u0.ShapedOpen Tryd.prog) : Calls Tryd.prog 7 #[.slice a len cap] u0 fun e w' => e = .returned (.bool true) ∧ Below u0.heap.size u0 w' := by
  clear hs
  have H0 := Lib.hid h0; clear h0
  by_cases big : 1048576 < len
  · go_enter Tryd.func7, Tryd.ntmps7
    go_wp2_with fail
    go_ret
    exact ⟨rfl, Below.refl _ _⟩
  go_enter Tryd.func7, Tryd.ntmps7
  go_wp2_with fail
  refine (drawPlaceReadings_any a len cap z _ H0.out).mono ?_
  rintro e u1 ⟨s, hsz, rfl, hb⟩
  have G1 := Lib.hid hb; clear hb H0 big
  obtain ⟨l, rfl, hl⟩ := str_list s
  have hq : l.length ≤ 300 := by omega
  clear hl hsz
  have C1 := Lib.hid (fun w : World => sPlaceReadings_any l w (by omega))
  have C2 := Lib.hid (fun w : World => iPlaceReadings_any l w (by omega))
  have hn := rds_le l
  have HX := Lib.hid (rds_fact l); have HU := Lib.hid (rds_up l)
  generalize hN : (rds l).length = n at *
  clear hN
  cases hb : prsB l with
  | false =>
    rw [hb] at C1 C2
    clear hb
    go_wp2_with fail
    refine (C2.out _).mono ?_
    rintro e u2 ⟨pI, mI, qI, rfl, hmI, hrI, hb⟩
    obtain rfl : mI = 0 := hmI
    have G2 := Lib.hid (bel_chain G1.out hb); have RI := Lib.hid hrI; clear hb hrI
    go_wp2_with fail
    refine (C1.out _).mono ?_
    rintro e u3 ⟨pS, mS, qS, rfl, hmS, hrS, hb⟩
    obtain rfl : mS = 0 := hmS
    have G3 := Lib.hid (bel_chain G2.out hb); clear hb hrS
    go_wp2_with fail
    refine (sameInts_yes pI pS 0 _ _ (rdsF l) (rdsF l) u3 (Ls.none_ _ _ _) (Ls.none_ _ _ _) (by omega) (fun _ _ => rfl)).mono ?_
    rintro e u4 ⟨rfl, hm⟩
    have G4 := Lib.hid (bel_chain G3.out hm.bel0); clear hm
    go_wp2_with fail
    refine (sameInts_yes pI pS 0 _ _ (rdsF l) (rdsF l) u4 (Ls.none_ _ _ _) (Ls.none_ _ _ _) (by omega) (fun _ _ => rfl)).mono ?_
    rintro e u5 ⟨rfl, hm⟩
    have G5 := Lib.hid (bel_chain G4.out hm.bel0); clear hm
    go_wp2_with fail
    go_ret
    exact ⟨rfl, G5.out⟩
  | true =>
    rw [hb] at C1 C2
    clear hb
    go_wp2_with fail
    refine (C2.out _).mono ?_
    rintro e u2 ⟨pI, mI, qI, rfl, hmI, hrI, hb⟩
    obtain rfl : n = mI := hmI.symm
    have G2 := Lib.hid (bel_chain G1.out hb); have RI := Lib.hid hrI; clear hb hrI hmI
    go_wp2_with fail
    refine (C1.out _).mono ?_
    rintro e u3 ⟨pS, mS, qS, rfl, hmS, hrS, hb⟩
    obtain rfl : n = mS := hmS.symm
    have G3 := Lib.hid (bel_chain G2.out hb); have RI3 := Lib.hid (RI.out.below hb).ls; have RS3 := Lib.hid hrS.ls; clear hb hrS hmS RI
    go_wp2_with fail
    refine (sameInts_yes pI pS n _ _ (rdsF l) (rdsF l) u3 RI3.out RS3.out (by omega) (fun _ _ => rfl)).mono ?_
    rintro e u4 ⟨rfl, hm⟩
    have G4 := Lib.hid (bel_chain G3.out hm.bel0); have RI4 := Lib.hid (RI3.out.below hm.bel0); clear hm RI3 RS3 C1 C2
    go_wp2_with fail
    go_loopw [8] (fun i wr => ∃ k : Nat, i = .int .i64 k ∧ k ≤ n ∧ Below u4.heap.size u4 wr) (fun i _ => n - (intOf i).toNat)
    case atStart => exact ⟨0, rfl, by omega, Below.refl _ _⟩
    case round =>
      obtain ⟨k, rfl, hk, hbr⟩ := hrel
      have HB := Lib.hid hbr; clear hbr
      by_cases hlt : k < n
      · obtain ⟨b, off, rfl, hb, hc⟩ := RI4.out k hlt
        obtain ⟨x, hx1, hx2, hx3, hx4⟩ := HX.out k hlt
        rw [hx1] at hc
        have hcr : wr.cell? ⟨b, off + k, none⟩ = some (.int .i64 x) := (HB.out.cell (p := ⟨b, off + k, none⟩) hb).trans hc
        have C := Lib.hid (fun w : World => iPlaceOf_any (x : Int) w (by omega))
        rw [placeOfR_yes x (by omega)] at C
        have hLs := (clay_short x (by omega)).2
        have HX3 := Lib.hid hx3; have HX4 := Lib.hid hx4
        have Hcx := Lib.hid hc
        clear hx1 hx3 hx4 hc
        generalize clay x = L at *
        go_wp2_with fail
        refine (C.out _).mono ?_
        rintro e w1 ⟨rfl, g1⟩
        have HB1 := Lib.hid (bel_chain HB.out g1); clear g1 C hcr
        go_wp2_with fail
        go_loop [11, 12] (fun s i => ∃ (j : Nat) (y : ByteArray), i = .int .i64 j ∧ j ≤ L.length ∧ s = .string y ∧ y.size ≤ j ∧ Hid (y = ⟨(bare (L.take j)).toArray⟩)) (fun _ i => L.length - (intOf i).toNat)
        case atStart => exact ⟨0, ⟨#[]⟩, rfl, by omega, rfl, by decide, Lib.hid (by simp [bare])⟩
        case round =>
          obtain ⟨j, y, rfl, hj, rfl, hy, Hy⟩ := hrel
          by_cases hjl : j < L.length
          · have hlt' : j < (⟨L.toArray⟩ : ByteArray).size := hjl
            have Hst := Lib.hid (bare_take L j hjl)
            by_cases h1 : L[j] = 32
            · have hq1 : ((((⟨L.toArray⟩ : ByteArray)[j]'hjl).toNat : Int)) = 32 := bytes_at L j hjl 32 h1 _
              have Hs : Hid (y = ⟨(bare (L.take (j + 1))).toArray⟩) := Lib.hid (by rw [Hst.out, if_pos h1, List.append_nil]; exact Hy.out)
              clear h1 Hst
              go_wp2_with fail
              go_round
              case rel => exact ⟨j + 1, y, by go_num, by omega, rfl, by omega, Hs⟩
              case measure => simp [intOf]; omega
            · have q1 : ((((⟨L.toArray⟩ : ByteArray)[j]'hjl).toNat : Int) == 32) = false := byte_ne L[j] 32 (by omega) h1
              have n1 : ¬ ((((⟨L.toArray⟩ : ByteArray)[j]'hjl).toNat : Int)) = 32 := by simpa using q1
              have b1 : (((((⟨L.toArray⟩ : ByteArray)[j]'hjl).toNat : Int)) != 32) = true := by simpa using n1
              obtain ⟨Z, hZ⟩ : ∃ Z, (⟨#[L[j]]⟩ : ByteArray) = Z := ⟨_, rfl⟩
              have hx := ext_one L j hjl
              rw [hZ] at hx
              have Hs : Hid (y ++ Z = ⟨(bare (L.take (j + 1))).toArray⟩) := Lib.hid (by rw [← hZ, Hst.out, if_neg h1]; exact cat_one y _ _ Hy.out)
              have hzs : Z.size = 1 := by rw [← hZ]; rfl
              have hys : (y ++ Z).size ≤ j + 1 := by rw [ByteArray.size_append]; omega
              have Hys := Lib.hid hys
              have hyz : y.size + Z.size ≤ 9223372036854775807 := by omega
              clear h1 Hst q1 hZ hzs hys
              go_wp2_with fail
              go_round
              case rel => exact ⟨j + 1, y ++ Z, by go_num, by omega, rfl, Hys.out, Hs⟩
              case measure => simp [intOf]; omega
          · obtain rfl : j = L.length := by omega
            obtain rfl : y = ⟨l.toArray⟩ := by have := Hy.out; rw [List.take_length, HX3.out] at this; exact this
            have hcw : w1.cell? ⟨b, off + k, none⟩ = some (.int .i64 x) := (HB1.out.cell (p := ⟨b, off + k, none⟩) hb).trans Hcx.out
            clear hy Hy hx2 hLs hq
            have hk2 : k = 0 ∨ ∃ (m : Nat) (x' : Nat), (k : Int) - 1 = m ∧ IntKind.i64.wrap (m : Int) = m ∧ m < n ∧ 0 < k ∧ w1.cell? ⟨b, off + m, none⟩ = some (.int .i64 x') ∧ ¬ x ≤ x' := by
              rcases k with _ | m
              · exact .inl rfl
              · obtain ⟨b', off', e', hb', hc'⟩ := RI4.out m (by omega)
                injection e' with e1
                injection e1 with e2 e3
                subst e2 e3
                obtain ⟨x', hx1', _, _, hx4'⟩ := HX.out m (by omega)
                rw [hx1'] at hc'
                have := HU.out m (by omega)
                rw [HX4.out, hx4'] at this
                have hk1 : ((m + 1 : Nat) : Int) - 1 = m := by omega
                exact .inr ⟨m, x', hk1, IntWalk.i64_in _ (by omega), by omega, by omega, (HB1.out.cell (p := ⟨b, off + m, none⟩) hb).trans hc', by omega⟩
            rcases hk2 with rfl | ⟨m, x', hk1, hkw, hmn, hk0, hcm, hxx⟩
            · go_wp2_with fail
              go_quiet (fail)
              go_wp2_with fail
              go_roundw
              case rel => exact ⟨1, rfl, by omega, bel_chain HB1.out ((Mid.refl 0 0 _).drewN _).bel0⟩
              case measure => simp [intOf]; omega
            · go_wp2_with fail
              go_quiet (fail)
              clear hkw hk1 hcm hcw hmn hk0
              go_wp2_with fail
              go_roundw
              case rel => exact ⟨k + 1, by go_num, by omega, bel_chain HB1.out ((Mid.refl 0 0 _).drewN _).bel0⟩
              case measure => simp [intOf]; omega
      · go_wp2_with fail
        go_ret
        exact ⟨rfl, bel_chain G4.out HB.out⟩
end Go.Proofs.YtejhiilkbckobaaDoor
