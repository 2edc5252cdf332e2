/- The program's chapter 7: strokes compared: has, countBeyond, StrokeNear. -/
import Derived.Test.YtdokdlcmplggfaaDoorVN3
import Derived.Test.YtdokdlcmplggfaaDoorVD
namespace Go.Proofs.YtdokdlcmplggfaaDoor
open Go.RowKit
set_option linter.unusedVariables false
set_option maxRecDepth 100000
set_option maxHeartbeats 2000000 in
theorem has_any (v : Value) (L : List Stk) (p k : Nat) (w : World) (hL : L.length ≤ 100) (h : SkR w v L) :
    Calls Tryd.prog 51 #[v, .agg #[.int .i64 p, .int .i64 k]] w fun e w' => e = .returned (.bool (decide ((p, k) ∈ L))) ∧ Below w.heap.size w w' := by
  obtain ⟨a, cap, rfl, hc⟩ := h
  have Hc := Lib.hid hc
  have Hn : Hid ((w.alloc (.cells #[.int .i64 p, .int .i64 k] 52)).heap[w.heap.size]? = some (.cells #[.int .i64 p, .int .i64 k] 52 (0, 0))) := Lib.hid (heap_alloc_new _ _)
  have Hb0 : Hid (Below w.heap.size w (w.alloc (.cells #[.int .i64 p, .int .i64 k] 52))) := Lib.hid ((Below.refl _ _).alloc (Nat.le_refl _) _)
  obtain ⟨T, HT⟩ : ∃ T : Bool, Hid (decide ((p, k) ∈ L) = T) := ⟨_, Lib.hid rfl⟩
  rw [HT.out]
  clear hc
  go_enter Tryd.func51, Tryd.ntmps51
  go_wp2_with fail
  go_loopw [9] (fun i wr => ∃ j : Nat, i = .int .i64 j ∧ j ≤ L.length ∧ Hid ((p, k) ∉ L.take j) ∧ Hid (wr.heap[w.heap.size]? = some (.cells #[.int .i64 p, .int .i64 k] 52 (0, 0))) ∧ Hid (Below w.heap.size w wr)) (fun i _ => L.length - (intOf i).toNat)
  case atStart => exact ⟨0, rfl, Nat.zero_le _, Lib.hid (by simp), Hn, Hb0⟩
  case round =>
    obtain ⟨j, rfl, hj, Hno, Hn1, Hb⟩ := hrel
    clear Hn Hb0
    by_cases hlt : j < L.length
    · obtain ⟨b, rfl, hbB, hc1, hc2⟩ := Hc.out j hlt
      have hd1 := (Hb.out.cell (p := ⟨b, j * 2, none⟩) hbB).trans hc1
      have hd2 := (Hb.out.cell (p := ⟨b, j * 2 + 1, none⟩) hbB).trans hc2
      have he1 := cell_at Hn1.out (j := 0) rfl
      have he2 := cell_at Hn1.out (j := 1) rfl
      have hsz := Hb.out.size
      have HB1 : Hid (Below w.heap.size w (wr.alloc (.cells #[.int .i64 (L[j].1 : Nat), .int .i64 (L[j].2 : Nat)] 52))) := Lib.hid (Hb.out.alloc hsz _)
      have Hn2 : Hid ((wr.alloc (.cells #[.int .i64 (L[j].1 : Nat), .int .i64 (L[j].2 : Nat)] 52)).heap[w.heap.size]? = some (.cells #[.int .i64 p, .int .i64 k] 52 (0, 0))) := Lib.hid ((Below.heap_alloc wr _ w.heap.size (lt_of_block' Hn1.out)).trans Hn1.out)
      have hlw : w.heap.size < wr.heap.size := lt_of_block' Hn1.out
      by_cases he : L[j] = (p, k)
      · have HT2 : Hid (T = true) := Lib.hid (by rw [← HT.out, ← he]; exact decide_eq_true (List.getElem_mem hlt))
        rw [he] at hd1 hd2 HB1 Hn2
        simp only at hd1 hd2
        clear he hc1 hc2
        go_wp2_with fail
        go_ret
        exact ⟨by rw [HT2.out]; rfl, HB1.out⟩
      · have Hno2 : Hid ((p, k) ∉ L.take (j + 1)) := Lib.hid (by
          rw [List.take_succ_eq_append_getElem hlt]
          intro hm
          rcases List.mem_append.1 hm with hm | hm
          · exact Hno.out hm
          · exact he (List.mem_singleton.1 hm).symm)
        have hq : ¬ (L[j].1 = p ∧ L[j].2 = k) := fun ⟨h1, h2⟩ => he (by rw [← h1, ← h2])
        generalize L[j].1 = x at *
        generalize L[j].2 = y at *
        clear he hc1 hc2
        by_cases hxp : x = p
        · subst hxp
          have hyk : ¬ (y : Int) = (k : Int) := fun h => hq ⟨rfl, by omega⟩
          clear hq
          go_wp2_with fail
          go_roundw
          case rel => exact ⟨j + 1, by go_num, by omega, Hno2, Hn2, HB1⟩
          case measure => simp [intOf]; omega
        · have hxk : ¬ (x : Int) = (p : Int) := fun h => hxp (by omega)
          clear hq hxp
          go_wp2_with fail
          go_roundw
          case rel => exact ⟨j + 1, by go_num, by omega, Hno2, Hn2, HB1⟩
          case measure => simp [intOf]; omega
    · obtain rfl : j = L.length := by omega
      have HT2 : Hid (T = false) := Lib.hid (by rw [← HT.out]; have := Hno.out; rw [List.take_length] at this; exact decide_eq_false this)
      go_wp2_with fail
      go_ret
      exact ⟨by rw [HT2.out]; rfl, Hb.out⟩
set_option maxHeartbeats 2000000 in
theorem countBeyond_any (v u : Value) (L M : List Stk) (w : World) (hL : L.length ≤ 100) (hM : M.length ≤ 100) (h : SkR w v L) (hu : SkR w u M) :
    Calls Tryd.prog 47 #[v, u] w fun e w' => e = .returned (.int .i64 (bey L M : Nat)) ∧ Below w.heap.size w w' := by
  have HU := Lib.hid hu
  obtain ⟨a, cap, rfl, hc⟩ := h
  have Hc := Lib.hid hc
  obtain ⟨T, HT⟩ : ∃ T : Nat, Hid (bey L M = T) := ⟨_, Lib.hid rfl⟩
  rw [HT.out]
  clear hc hu
  go_enter Tryd.func47, Tryd.ntmps47
  go_wp2_with fail
  go_loopw [5, 10] (fun c i wr => ∃ j x : Nat, i = .int .i64 j ∧ c = .int .i64 x ∧ j ≤ L.length ∧ x ≤ j ∧ Hid (x = bey (L.take j) M) ∧ Hid (Below w.heap.size w wr)) (fun _ i _ => L.length - (intOf i).toNat)
  case atStart => exact ⟨0, 0, rfl, rfl, Nat.zero_le _, by omega, Lib.hid rfl, Lib.hid (Below.refl _ _)⟩
  case round =>
    obtain ⟨j, x, rfl, rfl, hj, hx, Hx, Hb⟩ := hrel
    by_cases hlt : j < L.length
    · obtain ⟨b, rfl, hbB, hc1, hc2⟩ := Hc.out j hlt
      have hd1 := (Hb.out.cell (p := ⟨b, j * 2, none⟩) hbB).trans hc1
      have hd2 := (Hb.out.cell (p := ⟨b, j * 2 + 1, none⟩) hbB).trans hc2
      have hsz := Hb.out.size
      have HB1 : Hid (Below w.heap.size w (wr.alloc (.cells #[.int .i64 (L[j].1 : Nat), .int .i64 (L[j].2 : Nat)] 52))) := Lib.hid (Hb.out.alloc hsz _)
      have Hst := Lib.hid (bey_take L M j hlt)
      rw [← Hx.out] at Hst
      have C := Lib.hid (fun w h => has_any u M L[j].1 L[j].2 w hM h)
      by_cases he : L[j] ∈ M
      · rw [if_pos he] at Hst
        rw [show decide ((L[j].1, L[j].2) ∈ M) = true from decide_eq_true he] at C
        generalize L[j].1 = p at *
        generalize L[j].2 = k at *
        clear he hc1 hc2
        go_wp2_with fail
        refine (C.out _ (HU.out.below HB1.out)).mono ?_
        rintro e w2 ⟨rfl, g2⟩
        have HB2 : Hid (Below w.heap.size w w2) := Lib.hid (HB1.out.trans (g2.mono HB1.out.size))
        clear g2
        go_wp2_with fail
        go_roundw
        case rel => exact ⟨j + 1, x, by go_num, rfl, by omega, by omega, Lib.hid Hst.out.symm, HB2⟩
        case measure => simp [intOf]; omega
      · rw [if_neg he] at Hst
        rw [show decide ((L[j].1, L[j].2) ∈ M) = false from decide_eq_false he] at C
        generalize L[j].1 = p at *
        generalize L[j].2 = k at *
        clear he hc1 hc2
        go_wp2_with fail
        refine (C.out _ (HU.out.below HB1.out)).mono ?_
        rintro e w2 ⟨rfl, g2⟩
        have HB2 : Hid (Below w.heap.size w w2) := Lib.hid (HB1.out.trans (g2.mono HB1.out.size))
        clear g2
        go_wp2_with fail
        go_roundw
        case rel => exact ⟨j + 1, x + 1, by go_num, by go_num, by omega, by omega, Lib.hid Hst.out.symm, HB2⟩
        case measure => simp [intOf]; omega
    · obtain rfl : j = L.length := by omega
      have Hx2 : Hid (x = T) := Lib.hid (by have := Hx.out; rw [List.take_length] at this; rw [this, HT.out])
      go_wp2_with fail
      go_ret
      exact ⟨by rw [Hx2.out]; rfl, Hb.out⟩
set_option maxHeartbeats 1000000 in
theorem iStrokeNear_any {t k : Bool} (m n : Int) (w : World) (_ : StOk m) (_ : StOk n) (hT : TBs t k w) : Calls Tryd.prog 31 #[.int .i64 m, .int .i64 n] w fun e w' => e = .returned (nrV m n) ∧ Below w.heap.size w w' := by
  have HK := Lib.hid hT.1; clear hT
  by_cases h : 0 ≤ m ∧ m ≤ 9999
  · obtain ⟨x, rfl⟩ := Int.eq_ofNat_of_zero_le h.1
    have hx : x ≤ 9999 := by omega
    have C1 := Lib.hid (stemOf_yes x w hx HK.out)
    by_cases h' : 0 ≤ n ∧ n ≤ 9999
    · obtain ⟨y, rfl⟩ := Int.eq_ofNat_of_zero_le h'.1
      have hy : y ≤ 9999 := by omega
      have C2 := Lib.hid (fun w => stemOf_yes y w hy)
      have Hf : Hid (nrV (x : Int) (y : Int) = .tuple #[.int .i64 ((bey (stk x) (stk y) + bey (stk y) (stk x) : Nat)), .bool true]) := Lib.hid (by unfold nrV; rw [if_pos ⟨h, h'⟩, near_strokes x y hx hy]; rfl)
      have l1 := bey_le (stk x) (stk y)
      have l2 := bey_le (stk y) (stk x)
      have l3 := stk_le x
      have l4 := stk_le y
      have D1 := Lib.hid (fun v u w => countBeyond_any v u (stk x) (stk y) w (by omega) (by omega))
      have D2 := Lib.hid (fun v u w => countBeyond_any u v (stk y) (stk x) w (by omega) (by omega))
      generalize bey (stk x) (stk y) = p at *
      generalize bey (stk y) (stk x) = q at *
      clear h h'
      go_enter Tryd.func31, Tryd.ntmps31
      go_wp2_with fail
      refine C1.out.mono ?_
      rintro e w1 ⟨v, rfl, hs, g1⟩
      have HS := Lib.hid hs; have G1 := Lib.hid g1; clear hs g1 C1
      go_wp2_with fail
      refine (C2.out _ (HK.out.step G1.out)).mono ?_
      rintro e w2 ⟨u, rfl, hu, g2⟩
      have HU := Lib.hid hu; have HS2 := Lib.hid (HS.out.below g2); have G2 := Lib.hid (bel_chain G1.out g2); clear hu g2 C2
      go_wp2_with fail
      refine (D1.out v u _ HS2.out HU.out).mono ?_
      rintro e w3 ⟨rfl, g3⟩
      have HU3 := Lib.hid (HU.out.below g3); have HS3 := Lib.hid (HS2.out.below g3); have G3 := Lib.hid (bel_chain G2.out g3); clear g3
      go_wp2_with fail
      refine (D2.out v u _ HU3.out HS3.out).mono ?_
      rintro e w4 ⟨rfl, g4⟩
      have G4 := Lib.hid (bel_chain G3.out g4); clear g4
      go_wp2_with fail
      go_ret2
      exact ⟨vret (by rw [Hf.out]; go_num), G4.out⟩
    · have C2 := Lib.hid (fun w => stemOf_no n w h')
      have Hf : Hid (nrV (x : Int) n = .tuple #[.int .i64 0, .bool false]) := Lib.hid (by unfold nrV; rw [if_neg (fun z => h' z.2)])
      clear h h'
      go_enter Tryd.func31, Tryd.ntmps31
      go_wp2_with fail
      refine C1.out.mono ?_
      rintro e w1 ⟨v, rfl, hs, g1⟩
      have G1 := Lib.hid g1; clear hs g1 C1
      go_wp2_with fail
      refine (C2.out _).mono ?_
      rintro e w2 ⟨rfl, rfl⟩
      go_wp2_with fail
      go_ret2
      exact ⟨vret Hf.out.symm, G1.out⟩
  · have C := Lib.hid (stemOf_no m w h)
    have Hf : Hid (nrV m n = .tuple #[.int .i64 0, .bool false]) := Lib.hid (by unfold nrV; rw [if_neg (fun z => h z.1)])
    clear h
    go_enter Tryd.func31, Tryd.ntmps31
    go_wp2_with fail
    refine C.out.mono ?_
    rintro e w1 ⟨rfl, rfl⟩
    go_wp2_with fail
    go_ret2
    exact ⟨vret Hf.out.symm, Below.refl _ _⟩
end Go.Proofs.YtdokdlcmplggfaaDoor
