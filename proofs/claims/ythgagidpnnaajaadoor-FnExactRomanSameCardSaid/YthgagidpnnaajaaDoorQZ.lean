/- The model's RomanSame: all codes. -/
import Derived.Test.YthgagidpnnaajaaDoorQY
import Derived.Test.YthgagidpnnaajaaDoorQW
import Derived.Test.YthgagidpnnaajaaDoorSL
namespace Go.Proofs.YthgagidpnnaajaaDoor
open Go.RowKit
set_option linter.unusedVariables false
set_option maxRecDepth 100000
theorem codeT_snoc : ∀ (j c : Nat), codeT (j + 1) c = codeT j c ++ [c / 7 ^ j % 7]
  | 0, c => by simp [codeT]
  | j + 1, c => by
    have ih := codeT_snoc j (c / 7)
    show c % 7 :: codeT (j + 1) (c / 7) = (c % 7 :: codeT j (c / 7)) ++ _
    rw [ih, Nat.div_div_eq_div_mul, Nat.pow_succ, Nat.mul_comm (7 ^ j) 7]
    rfl
theorem div_snoc (j c : Nat) : c / 7 ^ j / 7 = c / 7 ^ (j + 1) := by rw [Nat.div_div_eq_div_mul, Nat.pow_succ]
theorem loose_code (k c : Nat) (h1 : 1 ≤ k) (h2 : k ≤ 5) : looseR ((codeT k c).map lb) = .tuple #[.int .i64 (valT (codeT k c)), .bool true] := by
  have hl := codeT_len k c
  have hv := (looseL_lb (codeT k c) (codeT_lt k c)).1
  unfold looseR
  rw [if_pos ⟨by rw [List.length_map]; omega, by rw [List.length_map]; omega, okL_map _ (codeT_lt k c)⟩, hv]
theorem numB_step (P : Nat → Bool) (n : Nat) : qnumB P (n + 1) = qnumB P n + if P n then 1 else 0 := rfl
theorem pow7 (j : Nat) (h : j ≤ 5) : 7 ^ j ≤ 16807 := Nat.le_trans (Nat.pow_le_pow_right (by omega) h) (by decide)
set_option maxRecDepth 100000 in
set_option maxHeartbeats 2000000 in
theorem sRomanSame_yes (k n : Nat) (w : World) (h1 : 1 ≤ k) (h2 : k ≤ 5) (h3 : 1 ≤ n) (h4 : n ≤ 5000) :
    Calls Tryd.prog 35 #[.int .i64 k, .int .i64 n] w fun e w' => e = .returned (.tuple #[.int .i64 (same k n : Nat), .bool true]) ∧ w = w' := by
  obtain ⟨P, hP⟩ : ∃ P : Nat → Bool, P = fun c => decide (valT (codeT k c) = n) := ⟨_, rfl⟩
  have HP : Hid (∀ c, P c = decide (valT (codeT k c) = n)) := fun c => by rw [hP]
  have HF : Hid (qnumB P (7 ^ k) = same k n) := by
    obtain ⟨j, rfl⟩ : ∃ j, k = j + 1 := ⟨k - 1, by omega⟩
    show _ = _
    rw [hP]; exact codes_same j n
  clear hP
  have hall := pow7 k h2
  obtain ⟨all, hA⟩ : ∃ all, 7 ^ k = all := ⟨_, rfl⟩
  rw [hA] at hall HF
  have HA := Lib.hid hA; clear hA
  go_enter Tryd.func35, Tryd.ntmps35
  go_wp2_with fail
  refine (l6In_any _ _ _ _).mono ?_
  rintro e w1 ⟨rfl, rfl⟩
  rw [show (decide (1 ≤ (k : Int) ∧ (k : Int) ≤ 5)) = true from decide_eq_true (by omega)]
  go_wp2_with fail
  refine (l6In_any _ _ _ _).mono ?_
  rintro e w1 ⟨rfl, rfl⟩
  rw [show (decide (1 ≤ (n : Int) ∧ (n : Int) ≤ 5000)) = true from decide_eq_true (by omega)]
  go_wp2_with fail
  refine (l1Letters_any _).mono ?_
  rintro e w1 ⟨rfl, rfl⟩
  go_wp2_with fail
  go_loop [7, 8] (fun x i => ∃ j A : Nat, i = .int .i64 j ∧ j ≤ k ∧ x = .int .i64 A ∧ A = 7 ^ j) (fun _ i => k - (intOf i).toNat)
  case atStart => exact ⟨0, 1, rfl, by omega, rfl, rfl⟩
  case round =>
    obtain ⟨j, A, rfl, hj, rfl, hA⟩ := hrel
    have HA' := Lib.hid hA
    by_cases hlt : j < k
    · have hb : A ≤ 2401 := by rw [hA]; exact Nat.le_trans (Nat.pow_le_pow_right (by omega) (by omega : j ≤ 4)) (by decide)
      clear hA
      go_wp2_with fail
      go_round
      case rel => exact ⟨j + 1, A * 7, by go_num, by omega, by go_num, by rw [HA'.out, Nat.pow_succ]⟩
      case measure => simp [intOf]; omega
    · obtain rfl : j = k := by omega
      obtain rfl : A = all := hA.trans HA.out
      clear hA HA'
      go_wp2_with fail
      go_loop [9, 10] (fun x i => ∃ cd : Nat, i = .int .i64 cd ∧ cd ≤ A ∧ x = .int .i64 (qnumB P cd : Nat)) (fun _ i => A - (intOf i).toNat)
      case atStart => exact ⟨0, rfl, by omega, rfl⟩
      case round =>
        obtain ⟨cd, rfl, hcd, rfl⟩ := hrel
        have hnb := numB_le P cd
        by_cases hlt2 : cd < A
        · have HN : Hid (qnumB P (cd + 1) = qnumB P cd + if P cd then 1 else 0) := rfl
          generalize qnumB P cd = cnt0 at *
          go_wp2_with fail
          go_loop [11, 12, 13] (fun s c i => ∃ (t cc : Nat) (S : List UInt8), i = .int .i64 t ∧ t ≤ j ∧ c = .int .i64 cc ∧ cc ≤ 20000 ∧ s = .string ⟨S.toArray⟩ ∧ S.length = t ∧ cc = cd / 7 ^ t ∧ S = (codeT t cd).map lb) (fun _ _ i => j - (intOf i).toNat)
          case atStart => exact ⟨0, cd, [], rfl, by omega, rfl, by omega, rfl, rfl, by simp, rfl⟩
          case round =>
            obtain ⟨t, cc, S, rfl, ht, rfl, hcc, rfl, hSl, hcd7, hS⟩ := hrel
            have Hcd7 := Lib.hid hcd7; have HS := Lib.hid hS; clear hcd7 hS
            by_cases hlt3 : t < j
            · have hr1 : (cc : Int) % 7 < 7 := by omega
              have hr0 : 0 ≤ (cc : Int) % 7 := by omega
              have Hx := Lib.hid (letters_ex (cc % 7) (by omega))
              have hsz : (⟨S.toArray⟩ : ByteArray).size = t := by show S.toArray.size = t; simp [hSl]
              go_wp2_with fail
              go_round
              case rel => exact ⟨t + 1, cc / 7, S ++ [lb (cc % 7)], by go_num, by omega, congrArg (Value.int .i64) (by omega), by omega, by rw [Hx.out, bytes_append], by simp [hSl], by rw [Hcd7.out]; exact div_snoc t cd, by rw [HS.out, codeT_snoc, List.map_append, Hcd7.out]; rfl⟩
              case measure => simp [intOf]; omega
            · obtain rfl : t = j := by omega
              have HC := Lib.hid (sRomanLoose_in S w (by omega) (by omega))
              rw [HS.out, loose_code t cd h1 h2, ← HS.out] at HC
              have HPc : Hid (P cd = decide (valT (codeT t cd) = n)) := HP.out cd
              generalize valT (codeT t cd) = V at *
              clear HS Hcd7
              by_cases hv : V = n
              · rw [decide_eq_true hv] at HPc
                subst hv
                go_wp2_with fail
                refine HC.out.mono ?_
                rintro e w2 ⟨rfl, rfl⟩
                go_wp2_with fail
                go_round
                case rel => exact ⟨cd + 1, by go_num, by omega, by rw [HN.out, HPc.out]; go_num⟩
                case measure => simp [intOf]; omega
              · rw [decide_eq_false hv] at HPc
                go_wp2_with fail
                refine HC.out.mono ?_
                rintro e w2 ⟨rfl, rfl⟩
                go_wp2_with fail
                go_round
                case rel => exact ⟨cd + 1, by go_num, by omega, by rw [HN.out, HPc.out]; rfl⟩
                case measure => simp [intOf]; omega
        · obtain rfl : cd = A := by omega
          have HFF := Lib.hid HF.out
          go_wp2_with fail
          go_ret2
          exact ⟨by rw [HFF.out]; rfl, rfl⟩
/-- RomanSame's answer -/
def sameR (k n : Int) : Value := if (1 ≤ k ∧ k ≤ 5) ∧ (1 ≤ n ∧ n ≤ 5000) then .tuple #[.int .i64 (same k.toNat n : Nat), .bool true] else .tuple #[.int .i64 0, .bool false]
theorem sRomanSame_any (k n : Int) (w : World) : Calls Tryd.prog 35 #[.int .i64 k, .int .i64 n] w fun e w' => e = .returned (sameR k n) ∧ w = w' := by
  unfold sameR
  by_cases hk : 1 ≤ k ∧ k ≤ 5
  · by_cases hn : 1 ≤ n ∧ n ≤ 5000
    · rw [if_pos ⟨hk, hn⟩]
      obtain ⟨a, rfl⟩ := Int.eq_ofNat_of_zero_le (show 0 ≤ k by omega)
      obtain ⟨b, rfl⟩ := Int.eq_ofNat_of_zero_le (show 0 ≤ n by omega)
      exact sRomanSame_yes a b w (by omega) (by omega) (by omega) (by omega)
    · rw [if_neg (fun h => hn h.2)]
      have Hk := Lib.hid hk; have Hn := Lib.hid hn; clear hk hn
      go_enter Tryd.func35, Tryd.ntmps35
      go_wp2_with fail
      refine (l6In_any _ _ _ _).mono ?_
      rintro e w1 ⟨rfl, rfl⟩
      rw [show (decide (1 ≤ k ∧ k ≤ 5)) = true from decide_eq_true Hk.out]
      go_wp2_with fail
      refine (l6In_any _ _ _ _).mono ?_
      rintro e w1 ⟨rfl, rfl⟩
      rw [show (decide (1 ≤ n ∧ n ≤ 5000)) = false from decide_eq_false Hn.out]
      go_wp2_with fail
      go_ret2
      exact ⟨rfl, rfl⟩
  · rw [if_neg (fun h => hk h.1)]
    have Hk := Lib.hid hk; clear hk
    go_enter Tryd.func35, Tryd.ntmps35
    go_wp2_with fail
    refine (l6In_any _ _ _ _).mono ?_
    rintro e w1 ⟨rfl, rfl⟩
    rw [show (decide (1 ≤ k ∧ k ≤ 5)) = false from decide_eq_false Hk.out]
    go_wp2_with fail
    go_ret2
    exact ⟨rfl, rfl⟩
end Go.Proofs.YthgagidpnnaajaaDoor
