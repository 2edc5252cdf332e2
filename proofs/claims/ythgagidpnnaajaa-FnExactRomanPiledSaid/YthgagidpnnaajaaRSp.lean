/- The model's l1Value, RomanPiled. -/
import Derived.Test.YthgagidpnnaajaaRSo
import Derived.Test.YthgagidpnnaajaaK2
namespace Go.Proofs.Ythgagidpnnaajaa
open Go.RowKit
set_option linter.unusedVariables false
set_option maxRecDepth 100000
/-- the value of a letter -/
def rv (c : Int) : Int := if c = 73 then 1 else if c = 86 then 5 else if c = 88 then 10 else if c = 76 then 50 else if c = 67 then 100 else if c = 68 then 500 else if c = 77 then 1000 else 0
theorem l1Value_any (c : Int) (w : World) : Calls Try.prog 20 #[.int .u8 c] w fun e w' => e = .returned (.int .i64 (rv c)) ∧ w = w' := by
  by_cases h1 : c = 73
  · subst h1
    go_enter Try.func20, Try.ntmps20
    go_wp2
    go_ret
    exact ⟨rfl, rfl⟩
  by_cases h2 : c = 86
  · subst h2
    go_enter Try.func20, Try.ntmps20
    go_wp2
    go_ret
    exact ⟨rfl, rfl⟩
  by_cases h3 : c = 88
  · subst h3
    go_enter Try.func20, Try.ntmps20
    go_wp2
    go_ret
    exact ⟨rfl, rfl⟩
  by_cases h4 : c = 76
  · subst h4
    go_enter Try.func20, Try.ntmps20
    go_wp2
    go_ret
    exact ⟨rfl, rfl⟩
  by_cases h5 : c = 67
  · subst h5
    go_enter Try.func20, Try.ntmps20
    go_wp2
    go_ret
    exact ⟨rfl, rfl⟩
  by_cases h6 : c = 68
  · subst h6
    go_enter Try.func20, Try.ntmps20
    go_wp2
    go_ret
    exact ⟨rfl, rfl⟩
  by_cases h7 : c = 77
  · subst h7
    go_enter Try.func20, Try.ntmps20
    go_wp2
    go_ret
    exact ⟨rfl, rfl⟩
  · have e0 : Hid (rv c = 0) := by show _ = _; simp [rv, h1, h2, h3, h4, h5, h6, h7]
    go_enter Try.func20, Try.ntmps20
    go_wp2
    go_ret
    exact ⟨ret_int e0.out.symm, rfl⟩
theorem take_len1 : ∀ (ps : List (List UInt8 × Nat)) (n : Nat), (∀ p ∈ ps, 1 ≤ p.2 ∧ p.1.length ≤ 1) → (take ps n).length ≤ n
  | [], n, _ => by simp [take]
  | p :: ps, n, h => by
    have hp := h p (by simp)
    have ih := take_len1 ps (n % p.2) (fun q hq => h q (by simp [hq]))
    have h1 : n / p.2 * p.1.length ≤ n / p.2 := by
      have := Nat.mul_le_mul_left (n / p.2) hp.2
      omega
    have h2 : p.2 * (n / p.2) + n % p.2 = n := Nat.div_add_mod n p.2
    have h3 : n / p.2 ≤ p.2 * (n / p.2) := Nat.le_mul_of_pos_left _ (by omega)
    simp only [take, List.length_append, many_length]
    omega
theorem piled_len (N : Nat) (txt : List UInt8) (k m : Nat) (ho : txt ++ take (addedP.drop k) m = piled N) : txt.length ≤ N := by
  have h := congrArg List.length ho
  have h2 : (piled N).length ≤ N := take_len1 addedP N (by decide)
  rw [List.length_append] at h
  omega
theorem piled_at (k : Nat) (h : k < 7) : ∃ (b : UInt8) (v : Nat), 1 ≤ v ∧ v ≤ 1000 ∧ (∀ hix, rv (((⟨#[77, 68, 67, 76, 88, 86, 73]⟩ : ByteArray)[k]'hix).toNat : Int) = (v : Int)) ∧
    (⟨#[77, 68, 67, 76, 88, 86, 73]⟩ : ByteArray).extract k (k + 1) = ⟨[b].toArray⟩ ∧ addedP.drop k = ([b], v) :: addedP.drop (k + 1) := by
  rcases (show k = 0 ∨ k = 1 ∨ k = 2 ∨ k = 3 ∨ k = 4 ∨ k = 5 ∨ k = 6 by omega) with rfl | rfl | rfl | rfl | rfl | rfl | rfl
  · exact ⟨77, 1000, by decide, by decide, fun _ => rfl, rfl, rfl⟩
  · exact ⟨68, 500, by decide, by decide, fun _ => rfl, rfl, rfl⟩
  · exact ⟨67, 100, by decide, by decide, fun _ => rfl, rfl, rfl⟩
  · exact ⟨76, 50, by decide, by decide, fun _ => rfl, rfl, rfl⟩
  · exact ⟨88, 10, by decide, by decide, fun _ => rfl, rfl, rfl⟩
  · exact ⟨86, 5, by decide, by decide, fun _ => rfl, rfl, rfl⟩
  · exact ⟨73, 1, by decide, by decide, fun _ => rfl, rfl, rfl⟩
theorem sRomanPiled_any (n : Int) (w : World) : Calls Try.prog 12 #[.int .i64 n] w fun e w' => e = .returned (romanPiledR n) ∧ Below w.heap.size w w' := by
  unfold romanPiledR
  by_cases h : 1 ≤ n ∧ n ≤ 3999
  · rw [if_pos h]
    obtain ⟨h1, h2⟩ := h
    obtain ⟨N, rfl⟩ := Int.eq_ofNat_of_zero_le (show 0 ≤ n by omega)
    rw [Int.toNat_natCast]
    go_enter Try.func12, Try.ntmps12
    go_wp2_with fail
    refine (l6In_any _ _ _ _).mono ?_
    rintro e w1 ⟨rfl, rfl⟩
    rw [show (decide (1 ≤ (N : Int) ∧ (N : Int) ≤ 3999)) = true from decide_eq_true ⟨h1, h2⟩]
    go_wp2_with fail
    go_loopw [0, 4, 6] (fun n' o i wr => ∃ (k m : Nat) (txt : List UInt8), n' = .int .i64 m ∧ i = .int .i64 k ∧ k ≤ 7 ∧ m ≤ 3999 ∧ o = .string ⟨txt.toArray⟩ ∧ txt ++ take (addedP.drop k) m = piled N ∧ Below w.heap.size w wr) (fun _ _ i _ => 7 - (intOf i).toNat)
    case atStart => exact ⟨0, N, [], rfl, rfl, by omega, by omega, rfl, rfl, Below.refl _ _⟩
    case round =>
      obtain ⟨k, m, txt, rfl, rfl, hk, hm, rfl, htxt, hbel⟩ := hrel
      have hlen := piled_len N _ _ _ htxt
      have Htxt := Lib.hid htxt; clear htxt
      by_cases hlt : k < 7
      · obtain ⟨b, v, hv1, hv2, hrv, hex, hdr⟩ := piled_at k hlt
        have Hrv := Lib.hid hrv; have Hex := Lib.hid hex; have Hdr := Lib.hid hdr; clear hrv hex hdr
        go_wp2_with fail
        refine (l1Value_any _ _).mono ?_
        rw [Hrv.out]
        rintro e w2 ⟨rfl, rfl⟩
        obtain ⟨q, Hq⟩ : ∃ q, Hid (many [b] ((m : Int) / (v : Int)).toNat = q) := ⟨_, Lib.hid rfl⟩
        have hql : q.length ≤ 4000 := by
          rw [← Hq.out, many_length, ← Int.natCast_ediv, Int.toNat_natCast]
          have := Nat.div_le_self m v
          simp; omega
        have Hst : Hid (txt ++ q ++ take (addedP.drop (k + 1)) (m % v) = piled N) := by
          show _ = _
          have := Htxt.out
          rw [Hdr.out, take] at this
          rw [← Hq.out, ← Int.natCast_ediv, Int.toNat_natCast, List.append_assoc]
          exact this
        have hdv : (0 : Int) ≤ (m : Int) / (v : Int) ∧ (m : Int) / (v : Int) ≤ 100000 := by
          rw [← Int.natCast_ediv]
          have := Nat.div_le_self m v
          generalize m / v = z at this ⊢
          omega
        have hmd : ((m : Int) % (v : Int)) = ((m % v : Nat) : Int) := rfl
        have Hmd := Lib.hid hmd; clear hmd
        have hml := Nat.mod_le m v
        go_wp2_with fail
        go_quiet ((go_at_call 21; rw [Hex.out]; exact quiet_mine ((l6Many_any [b] _ _ (by simp) hdv.1 hdv.2).mono fun _ _ h => by rw [Hq.out] at h; exact h)))
        go_wp2_with fail
        go_roundw
        case rel => exact ⟨k + 1, m % v, txt ++ q, by rw [Hmd.out], by go_num, by omega, by omega, by rw [bytes_append], Hst.out, bel_drewN hbel _⟩
        case measure => simp [intOf]; omega
      · obtain rfl : k = 7 := by omega
        have Hst : Hid (txt = piled N) := by
          show _ = _
          have := Htxt.out
          rw [show addedP.drop 7 = [] from rfl, take, List.append_nil] at this
          exact this
        clear Htxt
        go_wp2_with fail
        go_ret2
        exact ⟨ret_bytes_yes (by rw [Hst.out]), hbel⟩
  · rw [if_neg h]
    have H := Lib.hid h; clear h
    go_enter Try.func12, Try.ntmps12
    go_wp2_with fail
    refine (l6In_any _ _ _ _).mono ?_
    rintro e w1 ⟨rfl, rfl⟩
    rw [show (decide (1 ≤ n ∧ n ≤ 3999)) = false from decide_eq_false H.out]
    go_wp2_with fail
    go_ret2
    exact ⟨rfl, Below.refl _ _⟩
end Go.Proofs.Ythgagidpnnaajaa
