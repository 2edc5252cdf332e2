/- The model's chapter 3 but AlphaLeast: l3Value, l3Letter, l3Of, AlphaOf, AlphaRead, AlphaSum, AlphaSame, AlphaNines, AlphaAdd. -/
import Derived.Test.YtdognkjpiineiaaDoorAR
import Derived.Test.YtdognkjpiineiaaDoorRS
import Derived.Outline
namespace Go.Proofs.YtdognkjpiineiaaDoor
open Go.RowKit
set_option linter.unusedVariables false
set_option maxRecDepth 100000
theorem l3Value_int (c : Int) (w : World) (h0 : 0 ≤ c) (h1 : c ≤ 255) : Calls Tryd.prog 50 #[.int .u8 c] w fun e w' => e = .returned (.int .i64 (av c)) ∧ w = w' := by
  rcases (show (97 ≤ c ∧ c ≤ 105) ∨ (106 ≤ c ∧ c ≤ 114) ∨ (115 ≤ c ∧ c ≤ 122) ∨ c = 42 ∨ (c < 97 ∧ c ≠ 42) ∨ 122 < c by omega) with ⟨a, b⟩ | ⟨a, b⟩ | ⟨a, b⟩ | a | ⟨a, b⟩ | a
  · have Hv : Hid (av c = c - 97 + 1) := by show _ = _; unfold av; rw [if_pos ⟨a, b⟩]; omega
    go_enter Tryd.func50, Tryd.ntmps50
    go_wp2
    go_ret
    exact ⟨ret_int Hv.out.symm, rfl⟩
  · have Hv : Hid (av c = 10 * (c - 106 + 1)) := by show _ = _; unfold av; rw [if_neg (by omega), if_pos ⟨a, b⟩]; omega
    go_enter Tryd.func50, Tryd.ntmps50
    go_wp2
    go_ret
    exact ⟨ret_int Hv.out.symm, rfl⟩
  · have Hv : Hid (av c = 100 * (c - 115 + 1)) := by show _ = _; unfold av; rw [if_neg (by omega), if_neg (by omega), if_pos ⟨a, b⟩]; omega
    go_enter Tryd.func50, Tryd.ntmps50
    go_wp2
    go_ret
    exact ⟨ret_int Hv.out.symm, rfl⟩
  · subst a
    go_enter Tryd.func50, Tryd.ntmps50
    go_wp2
    go_ret
    exact ⟨rfl, rfl⟩
  · have Hv : Hid (av c = 0) := by show _ = _; unfold av; rw [if_neg (by omega), if_neg (by omega), if_neg (by omega), if_neg b]
    have hb : (c == 42) = false := by rw [beq_eq_false_iff_ne]; exact b
    clear b
    go_enter Tryd.func50, Tryd.ntmps50
    go_wp2
    go_ret
    exact ⟨ret_int Hv.out.symm, rfl⟩
  · have Hv : Hid (av c = 0) := by show _ = _; unfold av; rw [if_neg (by omega), if_neg (by omega), if_neg (by omega), if_neg (by omega)]
    have hb : (c == 42) = false := by rw [beq_eq_false_iff_ne]; omega
    go_enter Tryd.func50, Tryd.ntmps50
    go_wp2
    go_ret
    exact ⟨ret_int Hv.out.symm, rfl⟩
theorem l3Value_any (c : UInt8) (w : World) : Calls Tryd.prog 50 #[.int .u8 (c.toNat : Int)] w fun e w' => e = .returned (.int .i64 (av (c.toNat : Int))) ∧ w = w' :=
  l3Value_int _ w (by omega) (by have := c.toNat_lt; omega)
theorem conv_one (w : World) (b : UInt8) (x : Int) (hx : x = (b.toNat : Int)) : (convert 22 9 (.slice (some ⟨w.heap.size, 0, none⟩) 1 1)).run Tryd.prog (w.alloc (.cells #[.int .u8 x] 5)) = .ok (.string ⟨[b].toArray⟩) (w.alloc (.cells #[.int .u8 x] 5)) := by
  subst hx
  refine run_convert_bytes_back (P := Tryd.prog) _ 22 9 5 ⟨w.heap.size, 0, none⟩ 1 [b] Tryd.underlying22 Tryd.underlying5 Tryd.underlying9 ?_
  intro j hj
  obtain rfl : j = 0 := by simp at hj; omega
  exact cell_at (heap_alloc_new w (.cells #[.int .u8 (b.toNat : Int)] 5)) rfl
theorem lt_toNat (i : Nat) (h : i < 26) : ((lt i).toNat : Int) = 97 + i := by
  unfold lt
  rw [if_pos h, UInt8.toNat_ofNat']
  omega
theorem l3Letter_any (d p : Nat) (w : World) (hd : d ≤ 9) (hp : p ≤ 2) : Calls Tryd.prog 59 #[.int .i64 d, .int .i64 p] w fun e w' => e = .returned (.string ⟨(dl d p).toArray⟩) ∧ Below w.heap.size w w' := by
  unfold dl
  by_cases h : d = 0
  · subst h
    rw [if_pos rfl]
    go_enter Tryd.func59, Tryd.ntmps59
    go_wp2
    go_ret
    exact ⟨rfl, Below.refl _ _⟩
  · rw [if_neg h]
    have hz : ((d : Int) == 0) = false := by rw [beq_eq_false_iff_ne]; omega
    rcases (show (p = 2 ∧ d = 9) ∨ (p = 2 ∧ d ≠ 9) ∨ p = 0 ∨ p = 1 by omega) with ⟨rfl, rfl⟩ | ⟨rfl, h9⟩ | rfl | rfl
    · clear h hz
      go_enter Tryd.func59, Tryd.ntmps59
      go_wp2
      go_ret
      exact ⟨rfl, Below.refl _ _⟩
    · have hz2 : ((d : Int) == 9) = false := by rw [beq_eq_false_iff_ne]; omega
      have hcv := conv_one w (lt (9 * 2 + d - 1)) (115 + d - 1) (by rw [lt_toNat _ (by omega)]; omega)
      clear h h9
      go_enter Tryd.func59, Tryd.ntmps59
      go_wp2
      go_ret
      exact ⟨ret_bytes (by rw [show 9 * 2 + d - 1 = 17 + d by omega]), (Below.refl _ _).alloc (Nat.le_refl _) _⟩
    · have hcv := conv_one w (lt (9 * 0 + d - 1)) (97 + d - 1) (by rw [lt_toNat _ (by omega)]; omega)
      clear h
      go_enter Tryd.func59, Tryd.ntmps59
      go_wp2
      go_ret
      exact ⟨ret_bytes (by rw [show 9 * 0 + d - 1 = d - 1 by omega]), (Below.refl _ _).alloc (Nat.le_refl _) _⟩
    · have hcv := conv_one w (lt (9 * 1 + d - 1)) (106 + d - 1) (by rw [lt_toNat _ (by omega)]; omega)
      clear h
      go_enter Tryd.func59, Tryd.ntmps59
      go_wp2
      go_ret
      exact ⟨ret_bytes (by rw [show 9 * 1 + d - 1 = 8 + d by omega]), (Below.refl _ _).alloc (Nat.le_refl _) _⟩
theorem l3Letter_int (d p : Int) (w : World) (h0 : 0 ≤ d) (hd : d ≤ 9) (hp0 : 0 ≤ p) (hp : p ≤ 2) : Calls Tryd.prog 59 #[.int .i64 d, .int .i64 p] w fun e w' => e = .returned (.string ⟨(dl d.toNat p.toNat).toArray⟩) ∧ Below w.heap.size w w' := by
  obtain ⟨a, rfl⟩ := Int.eq_ofNat_of_zero_le h0
  obtain ⟨b, rfl⟩ := Int.eq_ofNat_of_zero_le hp0
  exact l3Letter_any a b w (by omega) (by omega)
theorem l3Of_nat (n : Nat) (w : World) (h2 : n ≤ 9999) :
    Calls Tryd.prog 45 #[.int .i64 n] w fun e w' => e = .returned (.string ⟨(aof n).toArray⟩) ∧ Below w.heap.size w w' := by
  obtain ⟨L0, H0, b0⟩ : ∃ L : List UInt8, Hid (dl ((n : Int) / 1000).toNat (0 : Int).toNat = L) ∧ L.length = (if n / 1000 = 0 then 0 else 1) := ⟨_, Lib.hid rfl, by rw [dl_len_eq, show ((n : Int) / 1000).toNat = n / 1000 by omega]⟩
  obtain ⟨L1, H1, b1⟩ : ∃ L : List UInt8, Hid (dl ((n : Int) / 100 % 10).toNat (2 : Int).toNat = L) ∧ L.length ≤ 1 := ⟨_, Lib.hid rfl, dl_len _ _⟩
  obtain ⟨L2, H2, b2⟩ : ∃ L : List UInt8, Hid (dl ((n : Int) / 10 % 10).toNat (1 : Int).toNat = L) ∧ L.length ≤ 1 := ⟨_, Lib.hid rfl, dl_len _ _⟩
  obtain ⟨L3, H3, b3⟩ : ∃ L : List UInt8, Hid (dl ((n : Int) % 10).toNat (0 : Int).toNat = L) ∧ L.length ≤ 1 := ⟨_, Lib.hid rfl, dl_len _ _⟩
  have Hh : Hid (aof n = (if n / 1000 = 0 then [] else 39 :: L0) ++ L1 ++ L2 ++ L3) := by
    show _ = _
    rw [← H0.out, ← H1.out, ← H2.out, ← H3.out, show ((n : Int) / 1000).toNat = n / 1000 by omega, show ((n : Int) / 100 % 10).toNat = n / 100 % 10 by omega, show ((n : Int) / 10 % 10).toNat = n / 10 % 10 by omega, show ((n : Int) % 10).toNat = n % 10 by omega]
    unfold aof
    simp only [List.append_assoc]
    rfl
  by_cases hc : n / 1000 = 0
  · rw [if_pos hc] at b0 Hh
    obtain rfl : L0 = [] := List.eq_nil_of_length_eq_zero b0
    go_enter Tryd.func45, Tryd.ntmps45
    go_wp2_with fail
    refine (l3Letter_int _ _ _ (by omega) (by omega) (by omega) (by omega)).mono ?_
    rw [H0.out]
    rintro e w1 ⟨rfl, g1⟩
    go_wp2_with fail
    refine (l3Letter_int _ _ _ (by omega) (by omega) (by omega) (by omega)).mono ?_
    rw [H1.out]
    rintro e w2 ⟨rfl, g2⟩
    go_wp2_with fail
    refine (l3Letter_int _ _ _ (by omega) (by omega) (by omega) (by omega)).mono ?_
    rw [H2.out]
    rintro e w3 ⟨rfl, g3⟩
    go_wp2_with fail
    refine (l3Letter_int _ _ _ (by omega) (by omega) (by omega) (by omega)).mono ?_
    rw [H3.out]
    rintro e w4 ⟨rfl, g4⟩
    go_wp2_with fail
    go_ret
    exact ⟨ret_bytes (by rw [Hh.out]; simp [bytes_append]), bel_chain (bel_chain g1 g2) (bel_chain g3 g4)⟩
  · rw [if_neg hc] at b0 Hh
    have hne : (L0 == []) = false := by rw [beq_eq_false_iff_ne]; intro e; subst e; simp at b0
    have Hc := Lib.hid hc; clear hc
    go_enter Tryd.func45, Tryd.ntmps45
    go_wp2_with fail
    refine (l3Letter_int _ _ _ (by omega) (by omega) (by omega) (by omega)).mono ?_
    rw [H0.out]
    rintro e w1 ⟨rfl, g1⟩
    go_wp2_with fail
    refine (l3Letter_int _ _ _ (by omega) (by omega) (by omega) (by omega)).mono ?_
    rw [H1.out]
    rintro e w2 ⟨rfl, g2⟩
    go_wp2_with fail
    refine (l3Letter_int _ _ _ (by omega) (by omega) (by omega) (by omega)).mono ?_
    rw [H2.out]
    rintro e w3 ⟨rfl, g3⟩
    go_wp2_with fail
    refine (l3Letter_int _ _ _ (by omega) (by omega) (by omega) (by omega)).mono ?_
    rw [H3.out]
    rintro e w4 ⟨rfl, g4⟩
    go_wp2_with fail
    go_ret
    exact ⟨ret_bytes (by rw [show (⟨#[39]⟩ : ByteArray) = ⟨[39].toArray⟩ from rfl]; simp only [bytes_append]; rw [Hh.out]; rfl), bel_chain (bel_chain g1 g2) (bel_chain g3 g4)⟩
theorem l3Of_int (n : Int) (w : World) (h0 : 0 ≤ n) (h2 : n ≤ 9999) : Calls Tryd.prog 45 #[.int .i64 n] w fun e w' => e = .returned (.string ⟨(aof n.toNat).toArray⟩) ∧ Below w.heap.size w w' := by
  obtain ⟨k, rfl⟩ := Int.eq_ofNat_of_zero_le h0
  exact l3Of_nat k w (by omega)
theorem sAlphaOf_any (n : Int) (w : World) : Calls Tryd.prog 23 #[.int .i64 n] w fun e w' => e = .returned (alphaOfR n) ∧ Below w.heap.size w w' := by
  unfold alphaOfR
  by_cases h : 1 ≤ n ∧ n ≤ 9999
  · rw [if_pos h]
    obtain ⟨h1, h2⟩ := h
    go_enter Tryd.func23, Tryd.ntmps23
    go_wp2_with fail
    refine (l6In_any _ _ _ _).mono ?_
    rintro e w1 ⟨rfl, rfl⟩
    rw [show (decide (1 ≤ n ∧ n ≤ 9999)) = true from decide_eq_true ⟨h1, h2⟩]
    go_wp2_with fail
    refine (l3Of_int _ _ (by omega) (by omega)).mono ?_
    rintro e w1 ⟨rfl, g1⟩
    go_wp2_with fail
    go_ret2
    exact ⟨rfl, g1⟩
  · rw [if_neg h]
    have H := Lib.hid h; clear h
    go_enter Tryd.func23, Tryd.ntmps23
    go_wp2_with fail
    refine (l6In_any _ _ _ _).mono ?_
    rintro e w1 ⟨rfl, rfl⟩
    rw [show (decide (1 ≤ n ∧ n ≤ 9999)) = false from decide_eq_false H.out]
    go_wp2_with fail
    go_ret2
    exact ⟨rfl, Below.refl _ _⟩
theorem sAlphaSum_any (l : List UInt8) (w : World) : Calls Tryd.prog 33 #[.string ⟨l.toArray⟩] w fun e w' => e = .returned (alphaSumR l) ∧ w = w' := by
  by_cases h : 1 ≤ (l.length : Int) ∧ (l.length : Int) ≤ 20
  · obtain ⟨h1, h2⟩ := h
    go_enter Tryd.func33, Tryd.ntmps33
    go_wp2_with fail
    refine (l6In_any _ _ _ _).mono ?_
    rintro e w1 ⟨rfl, rfl⟩
    rw [show (decide (1 ≤ (l.length : Int) ∧ (l.length : Int) ≤ 20)) = true from decide_eq_true ⟨h1, h2⟩]
    go_wp2_with fail
    go_loop [4, 5] (fun s i => ∃ (k : Nat) (v : Int), k ≤ l.length ∧ 0 ≤ v ∧ v ≤ 900 * k ∧ s = .int .i64 v ∧ i = .int .i64 k ∧ Hid (okA (l.take k) = true ∧ v = asum (l.take k))) (fun _ i => l.length - (intOf i).toNat)
    case atStart => exact ⟨0, 0, by omega, by omega, by omega, rfl, rfl, Lib.hid ⟨rfl, rfl⟩⟩
    case round =>
      obtain ⟨k, v, hk, hv0, hv1, rfl, rfl, Hr⟩ := hrel
      by_cases hlt : k < l.length
      · have Hs := Lib.hid (asum_take_succ l k hlt)
        have Ho := Lib.hid (okA_take_succ l k hlt)
        have Hok := Lib.hid (okA_getElem l k hlt)
        have hxb := av_bd (l[k].toNat : Int)
        obtain ⟨x, Hx⟩ : ∃ x, Hid (av (l[k].toNat : Int) = x) := ⟨_, Lib.hid rfl⟩
        rw [Hx.out] at hxb
        have Hans : Hid (∀ hix, av (((⟨l.toArray⟩ : ByteArray)[k]'hix).toNat : Int) = x) := fun hix => Hx.out
        by_cases hx : x = 0
        · subst hx
          have Hfin : Hid (alphaSumR l = .tuple #[.int .i64 0, .bool false]) := by
            show _ = _
            unfold alphaSumR
            rw [if_neg]
            intro h
            have := Hok.out h.2.2
            rw [Hx.out] at this
            omega
          go_wp2_with fail
          refine (l3Value_any _ _).mono ?_
          rw [Hans.out]
          rintro e w1 ⟨rfl, rfl⟩
          go_wp2_with fail
          go_ret2
          exact ⟨ret_val Hfin.out.symm, rfl⟩
        · have ht : (x == 0) = false := by rw [beq_eq_false_iff_ne]; exact hx
          have Hst : Hid (okA (l.take (k + 1)) = true ∧ v + x = asum (l.take (k + 1))) := by
            show _ ∧ _
            rw [Hs.out, Ho.out, Hr.out.1, Hr.out.2, Hx.out]
            exact ⟨by simp; omega, rfl⟩
          clear hx
          go_wp2_with fail
          refine (l3Value_any _ _).mono ?_
          rw [Hans.out]
          rintro e w1 ⟨rfl, rfl⟩
          go_wp2_with fail
          go_round
          case rel => exact ⟨k + 1, v + x, by omega, by omega, by omega, rfl, by go_num, Hst⟩
          case measure => simp [intOf]; omega
      · have Hfin : Hid (alphaSumR l = .tuple #[.int .i64 v, .bool true]) := by
          show _ = _
          have h3 := Hr.out
          rw [List.take_of_length_le (by omega)] at h3
          unfold alphaSumR
          rw [if_pos ⟨by omega, by omega, h3.1⟩, h3.2]
        obtain rfl : k = l.length := by omega
        go_wp2_with fail
        go_ret2
        exact ⟨ret_val Hfin.out.symm, rfl⟩
  · have Hfin : Hid (alphaSumR l = .tuple #[.int .i64 0, .bool false]) := by
      show _ = _
      unfold alphaSumR
      rw [if_neg (fun hix => h ⟨by omega, by omega⟩)]
    have H := Lib.hid h; clear h
    go_enter Tryd.func33, Tryd.ntmps33
    go_wp2_with fail
    refine (l6In_any _ _ _ _).mono ?_
    rintro e w1 ⟨rfl, rfl⟩
    rw [show (decide (1 ≤ (l.length : Int) ∧ (l.length : Int) ≤ 20)) = false from decide_eq_false H.out]
    go_wp2_with fail
    go_ret2
    exact ⟨ret_val Hfin.out.symm, rfl⟩
theorem sAlphaSame_any (v u : List UInt8) (w : World) : Calls Tryd.prog 27 #[.string ⟨v.toArray⟩, .string ⟨u.toArray⟩] w fun e w' => e = .returned (.bool (sameB v u)) ∧ w = w' := by
  obtain ⟨x, b, hx, hb⟩ : ∃ (x : Int) (b : Bool), alphaSumR v = .tuple #[.int .i64 x, .bool b] ∧ isW v = b ∧ (b = true → asum v = x) := by
    cases h : isW v with
    | true => exact ⟨_, _, alphaSumR_yes v h, rfl, fun _ => rfl⟩
    | false => exact ⟨_, _, alphaSumR_no v h, rfl, fun h => by cases h⟩
  obtain ⟨y, c, hy, hc⟩ : ∃ (x : Int) (b : Bool), alphaSumR u = .tuple #[.int .i64 x, .bool b] ∧ isW u = b ∧ (b = true → asum u = x) := by
    cases h : isW u with
    | true => exact ⟨_, _, alphaSumR_yes u h, rfl, fun _ => rfl⟩
    | false => exact ⟨_, _, alphaSumR_no u h, rfl, fun h => by cases h⟩
  have Hx := Lib.hid hx; have Hy := Lib.hid hy; clear hx hy
  have Hfin : Hid (sameB v u = (b && (c && decide (x = y)))) := by
    show _ = _
    unfold sameB
    rw [hb.1, hc.1]
    cases hb' : b with
    | false => rfl
    | true => cases hc' : c with
      | false => rfl
      | true => rw [hb.2 hb', hc.2 hc']
  clear hb hc
  cases b <;> cases c
  all_goals
    go_enter Tryd.func27, Tryd.ntmps27
    go_wp2_with fail
    refine (sAlphaSum_any v _).mono ?_
    rw [Hx.out]
    rintro e w1 ⟨rfl, rfl⟩
    go_wp2_with fail
    refine (sAlphaSum_any u _).mono ?_
    rw [Hy.out]
    rintro e w1 ⟨rfl, rfl⟩
    go_wp2_with fail
    go_ret
    refine ⟨?_, rfl⟩
    rw [Hfin.out]
    first | rfl | exact congrArg (fun b => Ending.returned (.bool b)) (by rw [Bool.eq_iff_iff]; simp)
theorem sAlphaNines_any (l : List UInt8) (w : World) : Calls Tryd.prog 31 #[.string ⟨l.toArray⟩] w fun e w' => e = .returned (ninesR l) ∧ w = w' := by
  unfold ninesR
  by_cases h : isW l = true
  · rw [if_pos h]
    have hb := isW_bd l h
    have Hv := Lib.hid (alphaSumR_yes l h); clear h
    generalize asum l = x at *
    go_enter Tryd.func31, Tryd.ntmps31
    go_wp2_with fail
    refine (sAlphaSum_any l _).mono ?_
    rw [Hv.out]
    rintro e w1 ⟨rfl, rfl⟩
    go_wp2_with fail
    go_ret2
    exact ⟨rfl, rfl⟩
  · rw [if_neg h]
    have Hv := Lib.hid (alphaSumR_no l (by simpa using h)); clear h
    go_enter Tryd.func31, Tryd.ntmps31
    go_wp2_with fail
    refine (sAlphaSum_any l _).mono ?_
    rw [Hv.out]
    rintro e w1 ⟨rfl, rfl⟩
    go_wp2_with fail
    go_ret2
    exact ⟨rfl, rfl⟩
end Go.Proofs.YtdognkjpiineiaaDoor
