/- The model's chapter 1 (package spec): contracts of its small functions: the texts by digits. -/
import Derived.Test.YthgagidpnnaajaaRows
import Derived.Test.YthgagidpnnaajaaRM
import Derived.Test.YthgagidpnnaajaaK
import Derived.WalkKit
import Derived.WalkSpells
import Derived.WalkLawsBesides
import Derived.BigQuiet
import Derived.Deep.QuietTactic
import Derived.Lib.Hide
namespace Go.Proofs.Ythgagidpnnaajaa
open Go.RowKit
set_option linter.unusedVariables false
set_option maxRecDepth 100000
theorem l6In_any (n a b : Int) (w : World) : Calls Try.prog 18 #[.int .i64 n, .int .i64 a, .int .i64 b] w fun e w' => e = .returned (.bool (decide (a ≤ n ∧ n ≤ b))) ∧ w = w' := by
  by_cases h1 : a ≤ n
  · by_cases h2 : n ≤ b
    · go_enter Try.func18, Try.ntmps18
      go_wp2
      go_ret
      simp [h1, h2]
    · go_enter Try.func18, Try.ntmps18
      go_wp2
      go_ret
      simp
      omega
  · go_enter Try.func18, Try.ntmps18
    go_wp2
    go_ret
    simp
    omega
theorem cells_dig (a b c : UInt8) (d : Nat) (h : d ≤ 9) :
    [Value.string ⟨#[]⟩, Value.string ((⟨#[a, b, c]⟩ : ByteArray).extract 0 1), Value.string ((⟨#[a, b, c]⟩ : ByteArray).extract 0 1 ++ (⟨#[a, b, c]⟩ : ByteArray).extract 0 1),
      Value.string ((⟨#[a, b, c]⟩ : ByteArray).extract 0 1 ++ (⟨#[a, b, c]⟩ : ByteArray).extract 0 1 ++ (⟨#[a, b, c]⟩ : ByteArray).extract 0 1),
      Value.string ((⟨#[a, b, c]⟩ : ByteArray).extract 0 2), Value.string ((⟨#[a, b, c]⟩ : ByteArray).extract 1 2),
      Value.string ((⟨#[a, b, c]⟩ : ByteArray).extract 1 2 ++ (⟨#[a, b, c]⟩ : ByteArray).extract 0 1),
      Value.string ((⟨#[a, b, c]⟩ : ByteArray).extract 1 2 ++ (⟨#[a, b, c]⟩ : ByteArray).extract 0 1 ++ (⟨#[a, b, c]⟩ : ByteArray).extract 0 1),
      Value.string ((⟨#[a, b, c]⟩ : ByteArray).extract 1 2 ++ (⟨#[a, b, c]⟩ : ByteArray).extract 0 1 ++ (⟨#[a, b, c]⟩ : ByteArray).extract 0 1 ++ (⟨#[a, b, c]⟩ : ByteArray).extract 0 1),
      Value.string ((⟨#[a, b, c]⟩ : ByteArray).extract 0 1 ++ (⟨#[a, b, c]⟩ : ByteArray).extract 2 3)][d]? = some (Value.string ⟨(dig a b c d).toArray⟩) := by
  rcases (show d = 0 ∨ d = 1 ∨ d = 2 ∨ d = 3 ∨ d = 4 ∨ d = 5 ∨ d = 6 ∨ d = 7 ∨ d = 8 ∨ d = 9 by omega) with rfl | rfl | rfl | rfl | rfl | rfl | rfl | rfl | rfl | rfl <;> rfl
theorem l1Digit_nat (a b c : UInt8) (d : Nat) (w : World) (h1 : d ≤ 9) : Calls Try.prog 25 #[.int .i64 d, .string ⟨#[a, b, c]⟩] w fun e w' => e = .returned (.string ⟨(dig a b c d).toArray⟩) ∧ Below w.heap.size w w' := by
  have hc := cells_dig a b c d h1
  go_enter Try.func25, Try.ntmps25
  go_wp2
  go_ret
  exact ⟨rfl, (Below.refl _ _).alloc (Nat.le_refl _) _⟩
theorem l1Digit_any (a b c : UInt8) (d : Int) (w : World) (h0 : 0 ≤ d) (h1 : d ≤ 9) : Calls Try.prog 25 #[.int .i64 d, .string ⟨#[a, b, c]⟩] w fun e w' => e = .returned (.string ⟨(dig a b c d.toNat).toArray⟩) ∧ Below w.heap.size w w' := by
  obtain ⟨k, rfl⟩ := Int.eq_ofNat_of_zero_le h0
  exact l1Digit_nat a b c k w (by omega)
theorem l6Many_nat (l : List UInt8) (n : Nat) (w : World) (hl : l.length ≤ 4) (h1 : n ≤ 100000) : Calls Try.prog 21 #[.string ⟨l.toArray⟩, .int .i64 n] w fun e w' => e = .returned (.string ⟨(many l n).toArray⟩) ∧ w = w' := by
  go_enter Try.func21, Try.ntmps21
  go_wp2
  go_loop [0, 1, 5] (fun s n' o => ∃ (m : Nat) (sl ol : List UInt8), s = .string ⟨sl.toArray⟩ ∧ n' = .int .i64 (m : Nat) ∧ o = .string ⟨ol.toArray⟩ ∧ m ≤ n ∧ ol ++ many sl m = many l n) (fun _ n' _ => (intOf n').toNat)
  case atStart => exact ⟨n, l, [], rfl, rfl, rfl, Nat.le_refl _, rfl⟩
  case round =>
    obtain ⟨m, sl, ol, rfl, rfl, rfl, hm, ho⟩ := hrel
    have hlen := congrArg List.length ho
    rw [List.length_append, many_length, many_length] at hlen
    have hb1 : n * l.length ≤ 400000 := Nat.le_trans (Nat.mul_le_mul h1 hl) (by decide)
    by_cases hz : m = 0
    · subst hz
      rw [many_zero, List.append_nil] at ho
      have Ho := Lib.hid ho; clear ho hlen
      go_wp2
      go_ret
      exact ⟨ret_string Ho.out, rfl⟩
    · have hb2 : sl.length ≤ m * sl.length := Nat.le_mul_of_pos_left _ (by omega)
      have hb3 : ol.length + sl.length ≤ 9223372036854775807 := by omega
      have hb4 : sl.length + sl.length ≤ 9223372036854775807 := by omega
      have Hl := Lib.hid hb1; clear hlen hb1 hb2
      by_cases hodd : m % 2 = 1
      · have he := many_odd sl m hodd
        rw [he, ← List.append_assoc] at ho
        have Ho := Lib.hid ho; clear ho he
        have ht : ((m : Int) % 2 == 1) = true := by rw [beq_iff_eq]; omega
        have Hodd := Lib.hid hodd; clear hodd
        go_wp2
        go_round
        case rel => exact ⟨m / 2, sl ++ sl, ol ++ sl, by rw [bytes_append], by go_num, by rw [bytes_append], by omega, Ho.out⟩
        case measure => simp [intOf]; omega
      · have he := many_even sl m (by omega)
        rw [he] at ho
        have Ho := Lib.hid ho; clear ho he
        have ht : ((m : Int) % 2 == 1) = false := by rw [beq_eq_false_iff_ne]; omega
        have Hodd := Lib.hid hodd; clear hodd
        go_wp2
        go_round
        case rel => exact ⟨m / 2, sl ++ sl, ol, by rw [bytes_append], by go_num, rfl, by omega, Ho.out⟩
        case measure => simp [intOf]; omega
theorem l6Many_any (l : List UInt8) (n : Int) (w : World) (hl : l.length ≤ 4) (h0 : 0 ≤ n) (h1 : n ≤ 100000) : Calls Try.prog 21 #[.string ⟨l.toArray⟩, .int .i64 n] w fun e w' => e = .returned (.string ⟨(many l n.toNat).toArray⟩) ∧ w = w' := by
  obtain ⟨k, rfl⟩ := Int.eq_ofNat_of_zero_le h0
  exact l6Many_nat l k w hl (by omega)
theorem dig_len (a b c : UInt8) (d : Nat) : (dig a b c d).length ≤ 4 := by
  unfold dig; split <;> simp
theorem l1Of_nat (n : Nat) (w : World) (h1 : n ≤ 4000) : Calls Try.prog 19 #[.int .i64 n] w fun e w' => e = .returned (.string ⟨(strict n).toArray⟩) ∧ Below w.heap.size w w' := by
  obtain ⟨L1, H1, b1⟩ : ∃ L : List UInt8, Hid (many [77] ((n : Int) / 1000).toNat = L) ∧ L.length ≤ 4 := ⟨_, Lib.hid rfl, by rw [many_length]; simp; omega⟩
  obtain ⟨L2, H2, b2⟩ : ∃ L, Hid (dig 67 68 77 ((n : Int) / 100 % 10).toNat = L) ∧ L.length ≤ 4 := ⟨_, Lib.hid rfl, dig_len _ _ _ _⟩
  obtain ⟨L3, H3, b3⟩ : ∃ L, Hid (dig 88 76 67 ((n : Int) / 10 % 10).toNat = L) ∧ L.length ≤ 4 := ⟨_, Lib.hid rfl, dig_len _ _ _ _⟩
  obtain ⟨L4, H4, b4⟩ : ∃ L, Hid (dig 73 86 88 ((n : Int) % 10).toNat = L) ∧ L.length ≤ 4 := ⟨_, Lib.hid rfl, dig_len _ _ _ _⟩
  have Hfin : Hid (strict n = L1 ++ L2 ++ L3 ++ L4) := by
    rw [← H1.out, ← H2.out, ← H3.out, ← H4.out]
    unfold strict
    rw [show ((n : Int) / 1000).toNat = n / 1000 by omega, show ((n : Int) / 100 % 10).toNat = n / 100 % 10 by omega, show ((n : Int) / 10 % 10).toNat = n / 10 % 10 by omega, show ((n : Int) % 10).toNat = n % 10 by omega]
    rfl
  go_enter Try.func19, Try.ntmps19
  go_wp2_with fail
  refine (l6Many_any [77] _ _ (by decide) (by omega) (by omega)).mono ?_
  rw [H1.out]
  rintro e w1 ⟨rfl, rfl⟩
  go_wp2_with fail
  refine (l1Digit_any 67 68 77 _ _ (by omega) (by omega)).mono ?_
  rw [H2.out]
  rintro e w1 ⟨rfl, g1⟩
  go_wp2_with fail
  refine (l1Digit_any 88 76 67 _ _ (by omega) (by omega)).mono ?_
  rw [H3.out]
  rintro e w2 ⟨rfl, g2⟩
  go_wp2_with fail
  refine (l1Digit_any 73 86 88 _ _ (by omega) (by omega)).mono ?_
  rw [H4.out]
  rintro e w3 ⟨rfl, g3⟩
  go_wp2_with fail
  go_ret
  exact ⟨ret_bytes (by rw [bytes_append, bytes_append, bytes_append, Hfin.out]), (g1.trans (g2.mono g1.size)).trans (g3.mono (Nat.le_trans g1.size g2.size))⟩
end Go.Proofs.Ythgagidpnnaajaa
