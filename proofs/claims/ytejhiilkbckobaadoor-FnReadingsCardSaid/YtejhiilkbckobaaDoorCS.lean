/- The model's chapter 4 (package spec): l4Digit, l4Of, PlaceOf, PlaceRead. -/
import Derived.Test.YtejhiilkbckobaaDoorCR
import Derived.Test.YtejhiilkbckobaaDoorRS
import Derived.Test.YtejhiilkbckobaaDoorK
namespace Go.Proofs.YtejhiilkbckobaaDoor
open Go.RowKit
set_option linter.unusedVariables false
set_option maxRecDepth 100000
theorem l4Digit_nat (d : Nat) (w : World) (h : d < 60) : Calls Tryd.prog 41 #[.int .i64 d] w fun e w' => e = .returned (.string ⟨(cdig d).toArray⟩) ∧ w = w' := by
  by_cases hz : d = 0
  · subst hz
    go_enter Tryd.func41, Tryd.ntmps41
    go_wp2
    go_ret
    exact ⟨rfl, rfl⟩
  · have hq : ((d : Int) == 0) = false := by rw [beq_eq_false_iff_ne]; omega
    obtain ⟨L1, H1, b1⟩ : ∃ L : List UInt8, Hid (many [60] ((d : Int) / 10).toNat = L) ∧ L.length ≤ 9 := ⟨_, Lib.hid rfl, by rw [many_length]; simp; omega⟩
    obtain ⟨L2, H2, b2⟩ : ∃ L : List UInt8, Hid (many [89] ((d : Int) % 10).toNat = L) ∧ L.length ≤ 9 := ⟨_, Lib.hid rfl, by rw [many_length]; simp; omega⟩
    have Hf : Hid (cdig d = L1 ++ L2) := by
      show _ = _
      unfold cdig
      rw [if_neg hz, ← H1.out, ← H2.out, show ((d : Int) / 10).toNat = d / 10 by omega, show ((d : Int) % 10).toNat = d % 10 by omega]
    clear hz
    go_enter Tryd.func41, Tryd.ntmps41
    go_wp2_with fail
    refine (l6Many_any [60] _ _ (by decide) (by omega) (by omega)).mono ?_
    rw [H1.out]
    rintro e w1 ⟨rfl, rfl⟩
    go_wp2_with fail
    refine (l6Many_any [89] _ _ (by decide) (by omega) (by omega)).mono ?_
    rw [H2.out]
    rintro e w1 ⟨rfl, rfl⟩
    go_wp2_with fail
    go_ret
    exact ⟨ret_bytes (by rw [Hf.out, bytes_append]), rfl⟩
theorem l4Digit_int (d : Int) (w : World) (h0 : 0 ≤ d) (h : d < 60) : Calls Tryd.prog 41 #[.int .i64 d] w fun e w' => e = .returned (.string ⟨(cdig d.toNat).toArray⟩) ∧ w = w' := by
  obtain ⟨k, rfl⟩ := Int.eq_ofNat_of_zero_le h0
  exact l4Digit_nat k w (by omega)
theorem l4Of_nat (w : World) (n : Nat) : n < 12960000 → Calls Tryd.prog 28 #[.int .i64 n] w fun e w' => e = .returned (.string ⟨(clay n).toArray⟩) ∧ w = w' := by
  induction n using Nat.strongRecOn with
  | ind n ih =>
    intro hn
    by_cases h : n < 60
    · rw [clay_low n h]
      have C := Lib.hid (l4Digit_nat n w h)
      go_enter Tryd.func28, Tryd.ntmps28
      go_wp2_with fail
      refine C.out.mono ?_
      rintro e w1 ⟨rfl, rfl⟩
      go_wp2_with fail
      go_ret
      exact ⟨rfl, rfl⟩
    · have C : Hid (∀ m : Int, m = (n : Int) / 60 → Calls Tryd.prog 28 #[.int .i64 m] w fun e w' => e = .returned (.string ⟨(clay (n / 60)).toArray⟩) ∧ w = w') := by
        show ∀ m : Int, _
        rintro m rfl
        have := ih (n / 60) (by omega) (by omega)
        rwa [show ((n / 60 : Nat) : Int) = (n : Int) / 60 by omega] at this
      have D : Hid (∀ m : Int, m = (n : Int) % 60 → Calls Tryd.prog 41 #[.int .i64 m] w fun e w' => e = .returned (.string ⟨(cdig (n % 60)).toArray⟩) ∧ w = w') := by
        show ∀ m : Int, _
        rintro m rfl
        have := l4Digit_nat (n % 60) w (by omega)
        rwa [show ((n % 60 : Nat) : Int) = (n : Int) % 60 by omega] at this
      rw [clay_high n h]
      have b1 := (clay_short (n / 60) (by omega)).2
      have b2 := (cdig_len (n % 60) (by omega)).2
      generalize clay (n / 60) = L1 at *
      generalize cdig (n % 60) = L2 at *
      clear ih
      go_enter Tryd.func28, Tryd.ntmps28
      go_wp2_with fail
      refine (C.out _ rfl).mono ?_
      rintro e w1 ⟨rfl, rfl⟩
      go_wp2_with fail
      refine (D.out _ rfl).mono ?_
      rintro e w1 ⟨rfl, rfl⟩
      go_wp2_with fail
      go_ret
      exact ⟨ret_bytes (by rw [show (⟨#[32]⟩ : ByteArray) = ⟨[(32 : UInt8)].toArray⟩ from rfl, bytes_append, bytes_append]; simp), rfl⟩
/-- PlaceOf's answer -/
def placeOfR (n : Int) : Value := if 0 ≤ n ∧ n ≤ 12959999 then .tuple #[.string ⟨(clay n.toNat).toArray⟩, .bool true] else .tuple #[.string ⟨#[]⟩, .bool false]
theorem placeOfR_yes (n : Nat) (h : n ≤ 12959999) : placeOfR n = .tuple #[.string ⟨(clay n).toArray⟩, .bool true] := by
  unfold placeOfR; rw [if_pos ⟨by omega, by omega⟩]; rfl
theorem placeOfR_no (n : Int) (h : ¬ (0 ≤ n ∧ n ≤ 12959999)) : placeOfR n = .tuple #[.string ⟨#[]⟩, .bool false] := by unfold placeOfR; rw [if_neg h]
theorem sPlaceOf_any (n : Int) (w : World) : Calls Tryd.prog 10 #[.int .i64 n] w fun e w' => e = .returned (placeOfR n) ∧ w = w' := by
  have C := Lib.hid (l6In_any n 0 12959999)
  by_cases h : 0 ≤ n ∧ n ≤ 12959999
  · obtain ⟨k, rfl⟩ := Int.eq_ofNat_of_zero_le h.1
    rw [placeOfR_yes k (by omega)]
    have O := Lib.hid (l4Of_nat w k (by omega))
    rw [show decide (0 ≤ (k : Int) ∧ (k : Int) ≤ 12959999) = true from decide_eq_true h] at C
    clear h
    go_enter Tryd.func10, Tryd.ntmps10
    go_wp2_with fail
    refine (C.out _).mono ?_
    rintro e w1 ⟨rfl, rfl⟩
    go_wp2_with fail
    refine O.out.mono ?_
    rintro e w1 ⟨rfl, rfl⟩
    go_wp2_with fail
    go_ret2
    exact ⟨rfl, rfl⟩
  · rw [placeOfR_no n h]
    rw [show decide (0 ≤ n ∧ n ≤ 12959999) = false from decide_eq_false h] at C
    clear h
    go_enter Tryd.func10, Tryd.ntmps10
    go_wp2_with fail
    refine (C.out _).mono ?_
    rintro e w1 ⟨rfl, rfl⟩
    go_wp2_with fail
    go_ret2
    exact ⟨rfl, rfl⟩
/-- PlaceRead's answer -/
def placeReadR (l : List UInt8) : Value := if isC l = true then .tuple #[.int .i64 (cval l : Nat), .bool true] else .tuple #[.int .i64 0, .bool false]
theorem placeReadR_yes (l : List UInt8) (v : Nat) (h1 : v ≤ 12959999) (h2 : clay v = l) : placeReadR l = .tuple #[.int .i64 v, .bool true] := by
  subst h2
  unfold placeReadR
  rw [if_pos (isC_clay v h1), clay_val]
theorem placeReadR_no (l : List UInt8) (h : isC l = false) : placeReadR l = .tuple #[.int .i64 0, .bool false] := by unfold placeReadR; rw [h]; rfl
/-- what the loop leaves -/
theorem readEnd (l : List UInt8) (k v : Nat) (h : v = cval (l.take k)) (he : v < 12960000 → k = l.length) :
    (v ≤ 12959999 ∧ clay v = l → placeReadR l = .tuple #[.int .i64 v, .bool true]) ∧ (¬ (v ≤ 12959999 ∧ clay v = l) → placeReadR l = .tuple #[.int .i64 0, .bool false]) := by
  refine ⟨fun ⟨a, b⟩ => placeReadR_yes l v a b, fun hn => placeReadR_no l ?_⟩
  rw [Bool.eq_false_iff]
  intro hc
  obtain ⟨c1, c2⟩ := isC_of l hc
  have hp := cval_prefix l k
  rw [← h] at hp
  have hk := he (by omega)
  rw [hk, List.take_length] at h
  subst h
  exact hn ⟨c1, c2⟩
theorem byte_is (l : List UInt8) (k : Nat) (hk : k < l.length) (n : Nat) (hn : n < 256) : l[k] = UInt8.ofNat n ↔ ((l[k].toNat : Int) = n) := by
  constructor
  · intro h; rw [h, UInt8.toNat_ofNat']; omega
  · intro h
    apply UInt8.toNat_inj.1
    rw [UInt8.toNat_ofNat']
    omega
theorem ret_v {a b : Value} (h : a = b) : Ending.returned a = .returned b := by rw [h]
theorem bytes_at (l : List UInt8) (k : Nat) (hk : k < l.length) (c : UInt8) (h : l[k] = c) : ∀ hix, ((((⟨l.toArray⟩ : ByteArray)[k]'hix).toNat : Int)) = (c.toNat : Int) := by
  intro hix
  have e : (⟨l.toArray⟩ : ByteArray)[k]'hix = c := h
  rw [e]
theorem byte_ne (c : UInt8) (n : Nat) (hn : n < 256) (h : c ≠ UInt8.ofNat n) : ((c.toNat : Int) == (n : Int)) = false := by
  rw [beq_eq_false_iff_ne]
  intro e
  apply h
  apply UInt8.toNat_inj.1
  rw [UInt8.toNat_ofNat']
  omega
set_option maxRecDepth 100000 in
theorem sPlaceRead_any (l : List UInt8) (w : World) (hl : l.length ≤ 1048576) : Calls Tryd.prog 13 #[.string ⟨l.toArray⟩] w fun e w' => e = .returned (placeReadR l) ∧ w = w' := by
  go_enter Tryd.func13, Tryd.ntmps13
  go_wp2_with fail
  go_loop [4, 5] (fun s i => ∃ (k : Nat) (v : Int), k ≤ l.length ∧ 0 ≤ v ∧ v ≤ 777600000 ∧ s = .int .i64 v ∧ i = .int .i64 k ∧ Hid (v = (cval (l.take k) : Nat))) (fun _ i => l.length - (intOf i).toNat)
  case atStart => exact ⟨0, 0, by omega, by omega, by omega, rfl, rfl, Lib.hid rfl⟩
  case round =>
    obtain ⟨k, v, hk, hv0, hv, rfl, rfl, Hr⟩ := hrel
    by_cases hlt : k < l.length ∧ v < 12960000
    · obtain ⟨hlt, hv2⟩ := hlt
      have hs := cval_snoc l k hlt
      have hlt' : k < (⟨l.toArray⟩ : ByteArray).size := hlt
      by_cases h1 : l[k] = 60
      · have Hs : Hid (v + 10 = (cval (l.take (k + 1)) : Nat)) := Lib.hid (by rw [hs]; unfold cst; rw [if_pos h1]; have := Hr.out; omega)
        have hq : ((((⟨l.toArray⟩ : ByteArray)[k]'hlt').toNat : Int)) = 60 := bytes_at l k hlt 60 h1 _
        clear hs h1
        go_wp2_with fail
        go_round
        case rel => exact ⟨k + 1, v + 10, by omega, by omega, by omega, by go_num, by go_num, Hs⟩
        case measure => simp [intOf]; omega
      · have q1 : ((((⟨l.toArray⟩ : ByteArray)[k]'hlt').toNat : Int) == 60) = false := byte_ne l[k] 60 (by omega) h1
        by_cases h2 : l[k] = 89
        · have Hs : Hid (v + 1 = (cval (l.take (k + 1)) : Nat)) := Lib.hid (by rw [hs]; unfold cst; rw [if_neg h1, if_pos h2]; have := Hr.out; omega)
          have hq : ((((⟨l.toArray⟩ : ByteArray)[k]'hlt').toNat : Int)) = 89 := bytes_at l k hlt 89 h2 _
          clear hs h1 h2 q1
          go_wp2_with fail
          go_round
          case rel => exact ⟨k + 1, v + 1, by omega, by omega, by omega, by go_num, by go_num, Hs⟩
          case measure => simp [intOf]; omega
        · have q2 : ((((⟨l.toArray⟩ : ByteArray)[k]'hlt').toNat : Int) == 89) = false := byte_ne l[k] 89 (by omega) h2
          by_cases h3 : l[k] = 32
          · have Hs : Hid (v * 60 = (cval (l.take (k + 1)) : Nat)) := Lib.hid (by rw [hs]; unfold cst; rw [if_neg h1, if_neg h2, if_pos h3]; have := Hr.out; omega)
            have hq : ((((⟨l.toArray⟩ : ByteArray)[k]'hlt').toNat : Int)) = 32 := bytes_at l k hlt 32 h3 _
            clear hs h1 h2 h3 q1 q2
            go_wp2_with fail
            go_round
            case rel => exact ⟨k + 1, v * 60, by omega, by omega, by omega, by go_num, by go_num, Hs⟩
            case measure => simp [intOf]; omega
          · have Hs : Hid (v = (cval (l.take (k + 1)) : Nat)) := Lib.hid (by rw [hs]; unfold cst; rw [if_neg h1, if_neg h2, if_neg h3]; exact Hr.out)
            have q3 : ((((⟨l.toArray⟩ : ByteArray)[k]'hlt').toNat : Int) == 32) = false := byte_ne l[k] 32 (by omega) h3
            clear hs h1 h2 h3
            go_wp2_with fail
            go_round
            case rel => exact ⟨k + 1, v, by omega, by omega, by omega, rfl, by go_num, Hs⟩
            case measure => simp [intOf]; omega
    · by_cases hbig : v ≤ 12959999
      · obtain ⟨u, rfl⟩ := Int.eq_ofNat_of_zero_le hv0
        obtain ⟨e1, e2⟩ := readEnd l k u (by have := Hr.out; omega) (by omega)
        have E1 := Lib.hid e1; have E2 := Lib.hid e2; clear e1 e2
        obtain rfl : k = l.length := by omega
        have O := Lib.hid (l4Of_nat w u (by omega))
        have hsh := (clay_short u (by omega)).2
        by_cases he : clay u = l
        · have Hf := Lib.hid (E1.out ⟨by omega, he⟩)
          rw [he] at O
          clear he hlt hsh
          go_wp2_with fail
          refine O.out.mono ?_
          rintro e w1 ⟨rfl, rfl⟩
          go_wp2_with fail
          go_ret2
          exact ⟨ret_v Hf.out.symm, rfl⟩
        · have Hf := Lib.hid (E2.out fun h => he h.2)
          generalize clay u = L at *
          have hne : (L == l) = false := by rw [beq_eq_false_iff_ne]; exact he
          clear he hlt
          go_wp2_with fail
          refine O.out.mono ?_
          rintro e w1 ⟨rfl, rfl⟩
          go_wp2_with fail
          go_ret2
          exact ⟨ret_v Hf.out.symm, rfl⟩
      · have Hf : Hid (placeReadR l = .tuple #[.int .i64 0, .bool false]) := Lib.hid ((readEnd l k v.toNat (by have := Hr.out; omega) (by omega)).2 fun h => hbig (by omega))
        have hge : 12960000 ≤ v := by omega
        clear hlt hbig
        by_cases hkl : k < l.length
        · go_wp2_with fail
          go_ret2
          exact ⟨ret_v Hf.out.symm, rfl⟩
        · go_wp2_with fail
          go_ret2
          exact ⟨ret_v Hf.out.symm, rfl⟩
end Go.Proofs.YtejhiilkbckobaaDoor
