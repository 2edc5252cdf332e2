/- The program's AlphaOf, sumOfLetters, cutThousands. -/
import Derived.Test.YtdognkjpiineiaaDoorAI
namespace Go.Proofs.YtdognkjpiineiaaDoor
open Go.RowKit
set_option linter.unusedVariables false
set_option maxRecDepth 100000
theorem signOfDigit_int (d p : Int) (w : World) (h0 : 0 ≤ d) (hd : d ≤ 9) (hp0 : 0 ≤ p) (hp : p ≤ 2) : Calls Tryd.prog 43 #[.int .i64 d, .int .i64 p] w fun e w' => e = .returned (.string ⟨(dl d.toNat p.toNat).toArray⟩) ∧ w = w' := by
  obtain ⟨a, rfl⟩ := Int.eq_ofNat_of_zero_le h0
  obtain ⟨b, rfl⟩ := Int.eq_ofNat_of_zero_le hp0
  exact signOfDigit_any a b w (by omega) (by omega)
/-- AlphaOf's answer -/
def alphaOfR (n : Int) : Value := if 1 ≤ n ∧ n ≤ 9999 then .tuple #[.string ⟨(aof n.toNat).toArray⟩, .bool true] else .tuple #[.string ⟨#[]⟩, .bool false]
theorem dl_int (d p : Int) (a b : Nat) (h1 : d.toNat = a) (h2 : p.toNat = b) : dl d.toNat p.toNat = dl a b := by rw [h1, h2]
set_option maxRecDepth 100000 in
theorem iAlphaOf_nat (n : Nat) (w : World) (hw : AT w) (h1 : 1 ≤ n) (h2 : n ≤ 9999) :
    Calls Tryd.prog 22 #[.int .i64 n] w fun e w' => e = .returned (.tuple #[.string ⟨(aof n).toArray⟩, .bool true]) ∧ w = w' := by
  have Hw := Lib.hid hw; clear hw
  obtain ⟨L0, H0, b0⟩ : ∃ L : List UInt8, Hid (dl ((n : Int) / 1000).toNat (0 : Int).toNat = L) ∧ L.length ≤ 1 := ⟨_, Lib.hid rfl, dl_len _ _⟩
  obtain ⟨L1, H1, b1⟩ : ∃ L : List UInt8, Hid (dl ((n : Int) / 100 % 10).toNat (2 : Int).toNat = L) ∧ L.length ≤ 1 := ⟨_, Lib.hid rfl, dl_len _ _⟩
  obtain ⟨L2, H2, b2⟩ : ∃ L : List UInt8, Hid (dl ((n : Int) / 10 % 10).toNat (1 : Int).toNat = L) ∧ L.length ≤ 1 := ⟨_, Lib.hid rfl, dl_len _ _⟩
  obtain ⟨L3, H3, b3⟩ : ∃ L : List UInt8, Hid (dl ((n : Int) % 10).toNat (0 : Int).toNat = L) ∧ L.length ≤ 1 := ⟨_, Lib.hid rfl, dl_len _ _⟩
  obtain ⟨hd, Hd, b4⟩ : ∃ hd : List UInt8, Hid (hd = if n / 1000 = 0 then [] else 39 :: L0) ∧ hd.length ≤ 2 := ⟨_, Lib.hid rfl, by split <;> simp; omega⟩
  have Hh : Hid (aof n = hd ++ L1 ++ L2 ++ L3) := by
    show _ = _
    rw [Hd.out, ← H0.out, ← H1.out, ← H2.out, ← H3.out, show ((n : Int) / 1000).toNat = n / 1000 by omega, show ((n : Int) / 100 % 10).toNat = n / 100 % 10 by omega, show ((n : Int) / 10 % 10).toNat = n / 10 % 10 by omega, show ((n : Int) % 10).toNat = n % 10 by omega]
    unfold aof
    simp only [List.append_assoc]
    rfl
  have hA : decide ((n : Int) < 1) = false := decide_eq_false (by omega)
  have hB : decide (9999 < (n : Int)) = false := decide_eq_false (by omega)
  rcases Nat.lt_or_ge n 1000 with hc | hc
  all_goals
    have hC : decide (1000 ≤ (n : Int)) = decide (1000 ≤ n) := by simp; omega
    first | rw [show decide (1000 ≤ n) = false from decide_eq_false (by omega)] at hC | rw [show decide (1000 ≤ n) = true from decide_eq_true (by omega)] at hC
    go_enter Tryd.func22, Tryd.ntmps22
    go_wp2_with fail
    try (refine (signOfDigit_int _ _ _ (by omega) (by omega) (by omega) (by omega)).mono ?_; rw [H0.out]; rintro e w1 ⟨rfl, rfl⟩; go_wp2_with fail)
    go_loop [4, 5] (fun t i => ∃ (k : Nat) (tl : List UInt8), k ≤ 3 ∧ tl.length ≤ 2 + k ∧ t = .string ⟨tl.toArray⟩ ∧ i = .int .i64 (2 - (k : Int)) ∧ Hid (tl = if k = 0 then hd else if k = 1 then hd ++ L1 else if k = 2 then hd ++ L1 ++ L2 else hd ++ L1 ++ L2 ++ L3)) (fun _ i => (intOf i + 1).toNat)
    case atStart =>
      refine ⟨0, hd, by omega, by omega, ?_, rfl, Lib.hid rfl⟩
      have e := Hd.out
      first
        | (rw [if_pos (by omega)] at e; subst e; rfl)
        | (rw [if_neg (by omega)] at e; subst e; exact congrArg Value.string (bytes_append [39] _))
    case round =>
      obtain ⟨k, tl, hk, hl, rfl, rfl, Ht⟩ := hrel
      have hr0 := Hw.out.2 0 (by omega)
      have hr1 := Hw.out.2 1 (by omega)
      have hr2 := Hw.out.2 2 (by omega)
      simp only [rkv, List.getD_cons_zero, List.getD_cons_succ] at hr0 hr1 hr2
      rcases (show k = 0 ∨ k = 1 ∨ k = 2 ∨ k = 3 by omega) with rfl | rfl | rfl | rfl
      · go_wp2_with fail
        refine (signOfDigit_int _ _ _ (by omega) (by omega) (by omega) (by omega)).mono ?_
        rw [H1.out]
        rintro e w1 ⟨rfl, rfl⟩
        go_wp2_with fail
        go_round
        case rel => exact ⟨1, tl ++ L1, by omega, by simp; omega, by rw [bytes_append], rfl, Lib.hid (by rw [Ht.out]; rfl)⟩
        case measure => simp [intOf]
      · go_wp2_with fail
        refine (signOfDigit_int _ _ _ (by omega) (by omega) (by omega) (by omega)).mono ?_
        rw [H2.out]
        rintro e w1 ⟨rfl, rfl⟩
        go_wp2_with fail
        go_round
        case rel => exact ⟨2, tl ++ L2, by omega, by simp; omega, by rw [bytes_append], rfl, Lib.hid (by rw [Ht.out]; rfl)⟩
        case measure => simp [intOf]
      · go_wp2_with fail
        refine (signOfDigit_int _ _ _ (by omega) (by omega) (by omega) (by omega)).mono ?_
        rw [H3.out]
        rintro e w1 ⟨rfl, rfl⟩
        go_wp2_with fail
        go_round
        case rel => exact ⟨3, tl ++ L3, by omega, by simp; omega, by rw [bytes_append], rfl, Lib.hid (by rw [Ht.out]; rfl)⟩
        case measure => simp [intOf]
      · go_wp2_with fail
        go_ret2
        exact ⟨ret_bytes_yes (by rw [Hh.out, Ht.out]; rfl), rfl⟩
theorem iAlphaOf_any (n : Int) (w : World) (hw : AT w) : Calls Tryd.prog 22 #[.int .i64 n] w fun e w' => e = .returned (alphaOfR n) ∧ w = w' := by
  unfold alphaOfR
  by_cases h : 1 ≤ n ∧ n ≤ 9999
  · rw [if_pos h]
    obtain ⟨k, rfl⟩ := Int.eq_ofNat_of_zero_le (show 0 ≤ n by omega)
    exact iAlphaOf_nat k w hw (by omega) (by omega)
  · rw [if_neg h]
    clear hw
    by_cases h1 : n < 1
    · clear h
      go_enter Tryd.func22, Tryd.ntmps22
      go_wp2
      go_ret2
      exact ⟨rfl, rfl⟩
    · have h2 : 9999 < n := by omega
      clear h
      go_enter Tryd.func22, Tryd.ntmps22
      go_wp2
      go_ret2
      exact ⟨rfl, rfl⟩
theorem aValue_int (z : Int) (w : World) (hw : AT w) (h0 : 0 ≤ z) (h : z ≤ 26) : Calls Tryd.prog 57 #[.int .i64 z] w fun e w' => e = .returned (.int .i64 (vl z.toNat)) ∧ w = w' := by
  obtain ⟨k, rfl⟩ := Int.eq_ofNat_of_zero_le h0
  exact aValue_any k w hw (by omega)
/-- sumOfLetters' answer -/
def sumLR (l : List UInt8) : Value := if okA l = true then .tuple #[.int .i64 (asum l), .bool true] else .tuple #[.int .i64 0, .bool false]
theorem sumOfLetters_any (l : List UInt8) (w : World) (hw : AT w) (hl : l.length ≤ 1048576) : Calls Tryd.prog 41 #[.string ⟨l.toArray⟩] w fun e w' => e = .returned (sumLR l) ∧ w = w' := by
  have Hw := Lib.hid hw; clear hw
  go_enter Tryd.func41, Tryd.ntmps41
  go_wp2_with fail
  go_loop [4, 10] (fun s i => ∃ (k : Nat) (v : Int), k ≤ l.length ∧ 0 ≤ v ∧ v ≤ 900 * k ∧ s = .int .i64 v ∧ i = .int .i64 k ∧ Hid (okA (l.take k) = true ∧ v = asum (l.take k))) (fun _ i => l.length - (intOf i).toNat)
  case atStart => exact ⟨0, 0, by omega, by omega, by omega, rfl, rfl, Lib.hid ⟨rfl, rfl⟩⟩
  case round =>
    obtain ⟨k, v, hk, hv0, hv1, rfl, rfl, Hr⟩ := hrel
    by_cases hlt : k < l.length
    · obtain ⟨c, Hc⟩ : ∃ c : UInt8, Hid (l[k] = c) := ⟨_, Lib.hid rfl⟩
      have Hs := Lib.hid (asum_take_succ l k hlt)
      have Ho := Lib.hid (okA_take_succ l k hlt)
      have hzb := ixA_bd (c.toNat : Int)
      obtain ⟨z, Hz⟩ : ∃ z, Hid (ixA (c.toNat : Int) = z) := ⟨_, Lib.hid rfl⟩
      rw [Hz.out] at hzb
      by_cases hz : 0 ≤ z
      · have Hans : Hid (∀ hix, letterR (((⟨l.toArray⟩ : ByteArray)[k]'hix).toNat : Int) = .tuple #[.int .i64 z, .bool true]) := fun hix => by
          show letterR (l[k].toNat : Int) = _
          unfold letterR; rw [Hc.out, Hz.out, if_pos hz]
        have hav : Hid (av (c.toNat : Int) = vl z.toNat) := by show _ = _; rw [av_ix _ (by rw [Hz.out]; exact hz), Hz.out]
        have hvb := vl_bd z.toNat (by omega)
        obtain ⟨x, Hx⟩ : ∃ x, Hid (vl z.toNat = x) := ⟨_, Lib.hid rfl⟩
        rw [Hx.out] at hvb
        have Hst : Hid (okA (l.take (k + 1)) = true ∧ v + x = asum (l.take (k + 1))) := by
          show _ ∧ _
          rw [Hs.out, Ho.out, Hr.out.1, Hr.out.2, Hc.out, hav.out, Hx.out]
          exact ⟨by simp; omega, rfl⟩
        go_wp2_with fail
        refine (alphaLetterOf_any _ _).mono ?_
        rw [Hans.out]
        rintro e w1 ⟨rfl, rfl⟩
        go_wp2_with fail
        refine (aValue_int _ _ Hw.out (by omega) (by omega)).mono ?_
        rw [Hx.out]
        rintro e w1 ⟨rfl, rfl⟩
        go_wp2_with fail
        go_round
        case rel => exact ⟨k + 1, v + x, by omega, by omega, by omega, rfl, by go_num, Hst⟩
        case measure => simp [intOf]; omega
      · have Hans : Hid (∀ hix, letterR (((⟨l.toArray⟩ : ByteArray)[k]'hix).toNat : Int) = .tuple #[.int .i64 0, .bool false]) := fun hix => by
          show letterR (l[k].toNat : Int) = _
          unfold letterR; rw [Hc.out, Hz.out, if_neg hz]
        have Hfin : Hid (sumLR l = .tuple #[.int .i64 0, .bool false]) := by
          show _ = _
          unfold sumLR
          rw [if_neg]
          intro hok
          have := okA_getElem l k hlt hok
          rw [Hc.out, av_pos_ix, Hz.out] at this
          exact hz this
        clear hz
        go_wp2_with fail
        refine (alphaLetterOf_any _ _).mono ?_
        rw [Hans.out]
        rintro e w1 ⟨rfl, rfl⟩
        go_wp2_with fail
        go_ret2
        exact ⟨ret_val Hfin.out.symm, rfl⟩
    · have Hfin : Hid (sumLR l = .tuple #[.int .i64 v, .bool true]) := by
        show _ = _
        have h1 := Hr.out
        rw [List.take_of_length_le (by omega)] at h1
        unfold sumLR
        rw [if_pos h1.1, h1.2]
      obtain rfl : k = l.length := by omega
      go_wp2_with fail
      go_ret2
      exact ⟨ret_val Hfin.out.symm, rfl⟩
end Go.Proofs.YtdognkjpiineiaaDoor
