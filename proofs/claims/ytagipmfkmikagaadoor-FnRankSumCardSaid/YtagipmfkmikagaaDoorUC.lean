/- The model's chapter 6 (package spec): l6rOf, RankOf, RankRead. -/
import Derived.Test.YtagipmfkmikagaaDoorUB
namespace Go.Proofs.YtagipmfkmikagaaDoor
open Go.RowKit
set_option linter.unusedVariables false
set_option maxRecDepth 100000
set_option maxRecDepth 100000 in
set_option maxHeartbeats 1000000 in
theorem sl6rOf_any (n : Nat) (w : World) (hn : n ≤ 99999999) : Calls Tryd.prog 34 #[.int .i64 n] w fun e w' => e = .returned (.string ⟨(rkO n).toArray⟩) ∧ Below w.heap.size w w' := by
  by_cases h0 : n = 0
  · subst h0
    go_enter Tryd.func34, Tryd.ntmps34
    go_wp2_with fail
    go_ret
    exact ⟨rfl, Below.refl _ _⟩
  · by_cases h1 : n < 10000
    · have HR : Hid (rkO n = rk4 n) := Lib.hid (by unfold rkO; rw [if_neg h0, if_pos h1])
      have C := Lib.hid (sl6rFour_any n w (by omega))
      have hz : ((n : Int) == 0) = false := by rw [beq_eq_false_iff_ne]; omega
      have hz' : ((n : Int) < 10000) := by omega
      go_enter Tryd.func34, Tryd.ntmps34
      go_wp2_with fail
      refine C.out.mono ?_
      rintro e w1 ⟨rfl, g1⟩
      have G1 := Lib.hid g1; clear g1 C
      go_wp2_with fail
      go_ret
      exact ⟨by rw [HR.out]; rfl, G1.out⟩
    · have HR : Hid (rkO n = rk4 (n / 10000) ++ [119] ++ (if 0 < n % 10000 ∧ n % 10000 < 1000 then [111] else []) ++ rk4 (n % 10000)) := Lib.hid (by unfold rkO; rw [if_neg h0, if_neg h1])
      have C := Lib.hid (fun w => sl6rFour_any (n / 10000) w (by omega))
      have D := Lib.hid (fun w => sl6rFour_any (n % 10000) w (by omega))
      have hz : ((n : Int) == 0) = false := by rw [beq_eq_false_iff_ne]; omega
      have hz' : ¬ ((n : Int) < 10000) := by omega
      have l1 := rk4_len (n / 10000)
      have l2 := rk4_len (n % 10000)
      have e1 : (n : Int) / 10000 = ((n / 10000 : Nat) : Int) := by omega
      have e2 : (n : Int).tmod 10000 = ((n % 10000 : Nat) : Int) := by rw [Int.tmod_eq_emod_of_nonneg (by omega)]; omega
      have e3 : (n : Int) % 10000 = ((n % 10000 : Nat) : Int) := by omega
      have hw : wrap64 ((n : Int) / 10000) = (n / 10000 : Nat) := by rw [e1]; unfold wrap64; omega
      have hb1 : n / 10000 ≤ 9999 := by omega
      have hb2 : n % 10000 ≤ 9999 := by omega
      generalize n / 10000 = u at *
      generalize n % 10000 = v at *
      generalize rk4 u = U at *
      generalize rk4 v = V at *
      go_enter Tryd.func34, Tryd.ntmps34
      go_wp2_with fail
      refine (C.out w).mono ?_
      rintro e w1 ⟨rfl, g1⟩
      have G1 := Lib.hid g1; clear g1 C
      have a1 : ¬ 9223372036854775807 < U.length + 1 := by omega
      have a2 : ¬ 9223372036854775807 < U.length + 1 + 1 := by omega
      have a3 : ¬ 9223372036854775807 < U.length + 1 + V.length := by omega
      have a4 : ¬ 9223372036854775807 < U.length + 1 + 1 + V.length := by omega
      by_cases hv : 0 < v ∧ v < 1000
      · rw [if_pos hv] at HR
        have v1 : (0 : Int) < (v : Int) := by omega
        have v2 : (v : Int) < 1000 := by omega
        go_wp2_with fail
        refine (D.out w1).mono ?_
        rintro e w2 ⟨rfl, g2⟩
        have G2 := Lib.hid g2; clear g2 D
        go_wp2_with fail
        go_ret
        exact ⟨by rw [HR.out]; simp [cat_bytes], G1.out.trans (G2.out.mono G1.out.size)⟩
      · rw [if_neg hv] at HR
        by_cases hv0 : v = 0
        · have v1 : ¬ (0 : Int) < (v : Int) := by omega
          clear hv0 hv
          go_wp2_with fail
          refine (D.out w1).mono ?_
          rintro e w2 ⟨rfl, g2⟩
          have G2 := Lib.hid g2; clear g2 D
          go_wp2_with fail
          go_ret
          exact ⟨by rw [HR.out]; simp [cat_bytes], G1.out.trans (G2.out.mono G1.out.size)⟩
        · have v1 : (0 : Int) < (v : Int) := by omega
          have v2 : ¬ (v : Int) < 1000 := by omega
          clear hv0 hv
          go_wp2_with fail
          refine (D.out w1).mono ?_
          rintro e w2 ⟨rfl, g2⟩
          have G2 := Lib.hid g2; clear g2 D
          go_wp2_with fail
          go_ret
          exact ⟨by rw [HR.out]; simp [cat_bytes], G1.out.trans (G2.out.mono G1.out.size)⟩
theorem rret {a b : Value} (h : a = b) : Ending.returned a = .returned b := by rw [h]
theorem rbytes_at (l : List UInt8) (k : Nat) (hk : k < l.length) (c : UInt8) (h : l[k] = c) : ∀ hix, ((((⟨l.toArray⟩ : ByteArray)[k]'hix).toNat : Int)) = (c.toNat : Int) := by
  intro hix
  have e : (⟨l.toArray⟩ : ByteArray)[k]'hix = c := h
  rw [e]
theorem rbyte_ne (c : UInt8) (n : Nat) (hn : n < 256) (h : c ≠ UInt8.ofNat n) : ((c.toNat : Int) == (n : Int)) = false := by
  rw [beq_eq_false_iff_ne]
  intro e
  apply h
  apply UInt8.toNat_inj.1
  rw [UInt8.toNat_ofNat']
  omega
/-- RankOf's answer -/
def rkR (n : Int) : Value := if 0 ≤ n ∧ n ≤ 99999999 then .tuple #[.string ⟨(rkO n.toNat).toArray⟩, .bool true] else .tuple #[.string ⟨#[]⟩, .bool false]
theorem sRankOf_any (n : Int) (w : World) : Calls Tryd.prog 19 #[.int .i64 n] w fun e w' => e = .returned (rkR n) ∧ Below w.heap.size w w' := by
  have C := Lib.hid (in_any n 0 99999999 w)
  by_cases h : 0 ≤ n ∧ n ≤ 99999999
  · obtain ⟨u, rfl⟩ := Int.eq_ofNat_of_zero_le h.1
    have Hf : Hid (rkR (u : Int) = .tuple #[.string ⟨(rkO u).toArray⟩, .bool true]) := Lib.hid (by unfold rkR; rw [if_pos h]; rfl)
    have O := Lib.hid (sl6rOf_any u w (by omega))
    rw [show decide (0 ≤ (u : Int) ∧ (u : Int) ≤ 99999999) = true from decide_eq_true h] at C
    clear h
    go_enter Tryd.func19, Tryd.ntmps19
    go_wp2_with fail
    refine C.out.mono ?_
    rintro e w1 ⟨rfl, rfl⟩
    go_wp2_with fail
    refine O.out.mono ?_
    rintro e w1 ⟨rfl, g1⟩
    have G1 := Lib.hid g1; clear g1
    go_wp2_with fail
    go_ret2
    exact ⟨rret Hf.out.symm, G1.out⟩
  · have Hf : Hid (rkR n = .tuple #[.string ⟨#[]⟩, .bool false]) := Lib.hid (by unfold rkR; rw [if_neg h])
    rw [show decide (0 ≤ n ∧ n ≤ 99999999) = false from decide_eq_false h] at C
    clear h
    go_enter Tryd.func19, Tryd.ntmps19
    go_wp2_with fail
    refine C.out.mono ?_
    rintro e w1 ⟨rfl, rfl⟩
    go_wp2_with fail
    go_ret2
    exact ⟨rret Hf.out.symm, Below.refl _ _⟩
/-- RankRead's answer -/
def rrR (l : List UInt8) : Value := if rrB l = true then .tuple #[.int .i64 (rkN l : Nat), .bool true] else .tuple #[.int .i64 0, .bool false]
theorem rrR_no {l : List UInt8} (h : ¬ (l.length ≤ 20 ∧ rkN l ≤ 99999999 ∧ rkO (rkN l) = l)) : rrR l = .tuple #[.int .i64 0, .bool false] := by
  unfold rrR
  rw [if_neg (fun hix => h ((rrB_spec l).1 hix))]
/-- the state behind k bytes -/
def rdK (l : List UInt8) (k : Nat) : Nat × Nat × Nat := (l.take k).foldl rdS (0, 0, 0)
theorem rdK_succ (l : List UInt8) (k : Nat) (h : k < l.length) : rdK l (k + 1) = rdS (rdK l k) l[k] := by
  unfold rdK
  rw [List.take_succ_eq_append_getElem h, List.foldl_append]
  rfl
theorem rdK_bd (l : List UInt8) (hl : l.length ≤ 20) (k : Nat) (h : k ≤ l.length) : (rdK l k).1 ≤ 1200000000000 ∧ (rdK l k).2.1 ≤ 5100000 ∧ (rdK l k).2.2 ≤ 255 := by
  obtain ⟨B, L, h1, h2, h3, h4, h5⟩ := rdS_bd l hl k h
  unfold rdK
  exact ⟨by omega, by omega, h3⟩
theorem sub48 (c : UInt8) : IntKind.u8.wrap ((c.toNat : Int) - 48) = ((c - 48).toNat : Int) := by
  rw [IntKind.wrap_u8, UInt8.toNat_sub]
  have := c.toNat_lt
  have e : (48 : UInt8).toNat = 48 := rfl
  rw [e]
  omega
theorem rdS_q (st : Nat × Nat × Nat) : rdS st 113 = (st.1, st.2.1 + 1000 * st.2.2, 0) := rfl
theorem rdS_b (st : Nat × Nat × Nat) : rdS st 98 = (st.1, st.2.1 + 100 * st.2.2, 0) := rfl
theorem rdS_s (st : Nat × Nat × Nat) : rdS st 115 = (st.1, st.2.1 + 10 * st.2.2, 0) := rfl
theorem rdS_w (st : Nat × Nat × Nat) : rdS st 119 = (st.1 + 10000 * (st.2.1 + st.2.2), 0, 0) := rfl
theorem rdS_o (st : Nat × Nat × Nat) : rdS st 111 = (st.1, st.2.1, 0) := rfl
theorem rdS_e (st : Nat × Nat × Nat) (c : UInt8) (h1 : c ≠ 113) (h2 : c ≠ 98) (h3 : c ≠ 115) (h4 : c ≠ 119) (h5 : c ≠ 111) : rdS st c = (st.1, st.2.1, (c - 48).toNat) := by
  unfold rdS
  rw [if_neg h1, if_neg h2, if_neg h3, if_neg h4, if_neg h5]
set_option maxRecDepth 100000 in
set_option maxHeartbeats 2000000 in
theorem sRankRead_any (l : List UInt8) (w : World) (hl : l.length ≤ 1048576) : Calls Tryd.prog 21 #[.string ⟨l.toArray⟩] w fun e w' => e = .returned (rrR l) ∧ Below w.heap.size w w' := by
  by_cases h20 : l.length ≤ 20
  · have hz : ¬ (20 : Int) < (l.length : Int) := by omega
    go_enter Tryd.func21, Tryd.ntmps21
    go_wp2_with fail
    go_loopw [4, 5, 6, 7] (fun hi lo d i wr => ∃ (k H L D : Nat), k ≤ l.length ∧ i = .int .i64 k ∧ hi = .int .i64 H ∧ lo = .int .i64 L ∧ d = .int .i64 D ∧ Hid (rdK l k = (H, L, D)) ∧ wr = w) (fun _ _ _ i _ => l.length - (intOf i).toNat)
    case atStart => exact ⟨0, 0, 0, 0, by omega, rfl, rfl, rfl, rfl, Lib.hid rfl, rfl⟩
    case round =>
      obtain ⟨k, H, L, D, hk, rfl, rfl, rfl, rfl, Hr, rfl⟩ := hrel
      have hbd := rdK_bd l h20 k hk
      rw [Hr.out] at hbd
      obtain ⟨b1, b2, b3⟩ := hbd
      simp only at b1 b2 b3
      by_cases hlt : k < l.length
      · have hs := rdK_succ l k hlt
        rw [Hr.out] at hs
        have hlt' : k < (⟨l.toArray⟩ : ByteArray).size := hlt
        by_cases h1 : l[k] = 113
        · have Hs : Hid (rdK l (k + 1) = (H, L + 1000 * D, 0)) := Lib.hid (by rw [hs, h1, rdS_q])
          have hq : ((((⟨l.toArray⟩ : ByteArray)[k]'hlt').toNat : Int)) = 113 := rbytes_at l k hlt 113 h1 _
          clear hs h1
          go_wp2_with fail
          go_roundw
          case rel => exact ⟨k + 1, _, _, _, by omega, by go_num, by go_num, by go_num, by go_num, Hs, trivial⟩
          case measure => simp [intOf]; omega
        · have q113 : ((((⟨l.toArray⟩ : ByteArray)[k]'hlt').toNat : Int) == 113) = false := rbyte_ne l[k] 113 (by omega) h1
          by_cases h2 : l[k] = 98
          · have Hs : Hid (rdK l (k + 1) = (H, L + 100 * D, 0)) := Lib.hid (by rw [hs, h2, rdS_b])
            have hq : ((((⟨l.toArray⟩ : ByteArray)[k]'hlt').toNat : Int)) = 98 := rbytes_at l k hlt 98 h2 _
            clear hs h1 q113 h2
            go_wp2_with fail
            go_roundw
            case rel => exact ⟨k + 1, _, _, _, by omega, by go_num, by go_num, by go_num, by go_num, Hs, trivial⟩
            case measure => simp [intOf]; omega
          · have q98 : ((((⟨l.toArray⟩ : ByteArray)[k]'hlt').toNat : Int) == 98) = false := rbyte_ne l[k] 98 (by omega) h2
            by_cases h3 : l[k] = 115
            · have Hs : Hid (rdK l (k + 1) = (H, L + 10 * D, 0)) := Lib.hid (by rw [hs, h3, rdS_s])
              have hq : ((((⟨l.toArray⟩ : ByteArray)[k]'hlt').toNat : Int)) = 115 := rbytes_at l k hlt 115 h3 _
              clear hs h1 q113 h2 q98 h3
              go_wp2_with fail
              go_roundw
              case rel => exact ⟨k + 1, _, _, _, by omega, by go_num, by go_num, by go_num, by go_num, Hs, trivial⟩
              case measure => simp [intOf]; omega
            · have q115 : ((((⟨l.toArray⟩ : ByteArray)[k]'hlt').toNat : Int) == 115) = false := rbyte_ne l[k] 115 (by omega) h3
              by_cases h4 : l[k] = 119
              · have Hs : Hid (rdK l (k + 1) = (H + 10000 * (L + D), 0, 0)) := Lib.hid (by rw [hs, h4, rdS_w])
                have hq : ((((⟨l.toArray⟩ : ByteArray)[k]'hlt').toNat : Int)) = 119 := rbytes_at l k hlt 119 h4 _
                clear hs h1 q113 h2 q98 h3 q115 h4
                go_wp2_with fail
                go_roundw
                case rel => exact ⟨k + 1, _, _, _, by omega, by go_num, by go_num, by go_num, by go_num, Hs, trivial⟩
                case measure => simp [intOf]; omega
              · have q119 : ((((⟨l.toArray⟩ : ByteArray)[k]'hlt').toNat : Int) == 119) = false := rbyte_ne l[k] 119 (by omega) h4
                by_cases h5 : l[k] = 111
                · have Hs : Hid (rdK l (k + 1) = (H, L, 0)) := Lib.hid (by rw [hs, h5, rdS_o])
                  have hq : ((((⟨l.toArray⟩ : ByteArray)[k]'hlt').toNat : Int)) = 111 := rbytes_at l k hlt 111 h5 _
                  clear hs h1 q113 h2 q98 h3 q115 h4 q119 h5
                  go_wp2_with fail
                  go_roundw
                  case rel => exact ⟨k + 1, _, _, _, by omega, by go_num, by go_num, by go_num, by go_num, Hs, trivial⟩
                  case measure => simp [intOf]; omega
                · have q111 : ((((⟨l.toArray⟩ : ByteArray)[k]'hlt').toNat : Int) == 111) = false := rbyte_ne l[k] 111 (by omega) h5
                  have Hs : Hid (rdK l (k + 1) = (H, L, (l[k] - 48).toNat)) := Lib.hid (by rw [hs, rdS_e _ _ h1 h2 h3 h4 h5])
                  have hu : IntKind.u8.wrap ((((⟨l.toArray⟩ : ByteArray)[k]'hlt').toNat : Int) - 48) = ((l[k] - 48).toNat : Int) := sub48 l[k]
                  have hb : (l[k] - 48).toNat < 256 := (l[k] - 48).toNat_lt
                  clear hs h1 h2 h3 h4 h5
                  generalize (l[k] - 48).toNat = c at *
                  go_wp2_with fail
                  go_roundw
                  case rel => exact ⟨k + 1, _, _, _, by omega, by go_num, by go_num, by go_num, by go_num, Hs, trivial⟩
                  case measure => simp [intOf]; omega
      · obtain rfl : k = l.length := by omega
        have HN : Hid (rkN l = H + L + D) := Lib.hid (by
          have := Hr.out
          unfold rdK at this
          rw [List.take_length] at this
          unfold rkN rdF
          rw [this])
        clear Hr hk hlt
        have C := Lib.hid (in_any ((H + L + D : Nat) : Int) 0 99999999 wr)
        have ha : (H : Int) + (L : Int) + (D : Int) = ((H + L + D : Nat) : Int) := by omega
        by_cases hin : H + L + D ≤ 99999999
        · have O := Lib.hid (sl6rOf_any (H + L + D) wr hin)
          rw [show decide (0 ≤ ((H + L + D : Nat) : Int) ∧ ((H + L + D : Nat) : Int) ≤ 99999999) = true from decide_eq_true (by omega)] at C
          by_cases he : rkO (H + L + D) = l
          · have Hf : Hid (rrR l = .tuple #[.int .i64 (H + L + D : Nat), .bool true]) := Lib.hid (by
              unfold rrR
              rw [if_pos ((rrB_spec l).2 ⟨h20, by rw [HN.out]; exact hin, by rw [HN.out]; exact he⟩), HN.out])
            rw [he] at O
            clear he hin
            generalize H + L + D = n at *
            go_wp2_with fail
            refine C.out.mono ?_
            rintro e w1 ⟨rfl, rfl⟩
            go_wp2_with fail
            refine O.out.mono ?_
            rintro e w1 ⟨rfl, g1⟩
            have G1 := Lib.hid g1; clear g1
            go_wp2_with fail
            go_ret2
            exact ⟨rret Hf.out.symm, G1.out⟩
          · have Hf : Hid (rrR l = .tuple #[.int .i64 0, .bool false]) := Lib.hid (rrR_no (fun h => he (by rw [← HN.out]; exact h.2.2)))
            generalize rkO (H + L + D) = T at *
            have hne : (T == l) = false := by rw [beq_eq_false_iff_ne]; exact he
            clear he hin
            generalize H + L + D = n at *
            go_wp2_with fail
            refine C.out.mono ?_
            rintro e w1 ⟨rfl, rfl⟩
            go_wp2_with fail
            refine O.out.mono ?_
            rintro e w1 ⟨rfl, g1⟩
            have G1 := Lib.hid g1; clear g1
            go_wp2_with fail
            go_ret2
            exact ⟨rret Hf.out.symm, G1.out⟩
        · have Hf : Hid (rrR l = .tuple #[.int .i64 0, .bool false]) := Lib.hid (rrR_no (fun h => hin (by rw [← HN.out]; exact h.2.1)))
          rw [show decide (0 ≤ ((H + L + D : Nat) : Int) ∧ ((H + L + D : Nat) : Int) ≤ 99999999) = false from decide_eq_false (by omega)] at C
          clear hin
          generalize H + L + D = n at *
          go_wp2_with fail
          refine C.out.mono ?_
          rintro e w1 ⟨rfl, rfl⟩
          go_wp2_with fail
          go_ret2
          exact ⟨rret Hf.out.symm, Below.refl _ _⟩
  · have Hf : Hid (rrR l = .tuple #[.int .i64 0, .bool false]) := Lib.hid (rrR_no (fun h => h20 h.1))
    have hz : (20 : Int) < (l.length : Int) := by omega
    clear h20
    go_enter Tryd.func21, Tryd.ntmps21
    go_wp2_with fail
    go_ret2
    exact ⟨rret Hf.out.symm, Below.refl _ _⟩
end Go.Proofs.YtagipmfkmikagaaDoor
