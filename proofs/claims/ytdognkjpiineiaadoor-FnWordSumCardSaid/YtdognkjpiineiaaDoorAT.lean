/- The model's AlphaRead, AlphaAdd. -/
import Derived.Test.YtdognkjpiineiaaDoorAS
namespace Go.Proofs.YtdognkjpiineiaaDoor
open Go.RowKit
set_option linter.unusedVariables false
set_option maxRecDepth 100000
/-- the sum after k rounds -/
def partA (l : List UInt8) (k : Nat) : Int := (if k = 0 then 0 else th l) + asum (l.take k)
theorem partA_zero (l : List UInt8) : partA l 0 = 0 := by simp [partA, asum]
theorem partA_bd (l : List UInt8) (k : Nat) (hk : k ≤ 6) : 0 ≤ partA l k ∧ partA l k ≤ 1000000 := by
  have h1 := th_bd l
  have h2 := asum_bd (l.take k)
  have h3 : (l.take k).length ≤ k := List.length_take_le _ _
  unfold partA
  split <;> omega
theorem partA_succ (l : List UInt8) (k : Nat) (h0 : 1 ≤ k) (h : k < l.length) : partA l (k + 1) = partA l k + av (l[k].toNat : Int) := by
  unfold partA
  rw [if_neg (by omega), if_neg (by omega), asum_take_succ l k h]
  omega
theorem partA_one (c d : UInt8) (r : List UInt8) (h : c = 39) : partA (c :: d :: r) 1 = 999 * av (d.toNat : Int) := by
  subst h
  unfold partA
  rw [th_two]
  have e : av ((39 : UInt8).toNat : Int) = 0 := by decide
  simp only [if_true, List.take_succ_cons, List.take_zero, asum, e]
  simp
theorem partA_one_no (c : UInt8) (r : List UInt8) (h : c ≠ 39 ∨ r = []) : partA (c :: r) 1 = av (c.toNat : Int) := by
  unfold partA
  have e : th (c :: r) = 0 := by
    match r with
    | [] => rfl
    | d :: q =>
      rw [th_two]
      rcases h with h | h
      · rw [if_neg h]
      · cases h
  rw [e]
  simp [asum]
theorem partA_end (l : List UInt8) (k : Nat) (hk : k = l.length) : partA l k = rdA l := by
  subst hk
  unfold partA rdA
  rw [List.take_length]
  split
  · rename_i h
    obtain rfl := List.eq_nil_of_length_eq_zero h
    rfl
  · rfl
theorem readR_fits (l : List UInt8) (v : Int) (h : l.length ≤ 6 → v = rdA l) (h1 : 1 ≤ v) (h2 : v ≤ 9999) (he : aof v.toNat = l) : alphaReadR l = .tuple #[.int .i64 v, .bool true] := by
  have hl : l.length ≤ 6 := by rw [← he]; have := aof_len v.toNat; omega
  have e := h hl
  subst e
  unfold alphaReadR isA
  rw [if_pos (by simp only [decide_eq_true_eq]; exact ⟨h1, h2, he⟩)]
theorem readR_unfit (l : List UInt8) (v : Int) (h : l.length ≤ 6 → v = rdA l) (hn : ¬ (1 ≤ v ∧ v ≤ 9999) ∨ aof v.toNat ≠ l) : alphaReadR l = .tuple #[.int .i64 0, .bool false] := by
  refine alphaReadR_not l fun hi => ?_
  have hl := isA_len l hi
  obtain ⟨a1, a2, a3⟩ := isA_of l hi
  have e := h (by omega)
  subst e
  rcases hn with hn | hn
  · exact hn ⟨a1, a2⟩
  · exact hn a3
theorem byte_at (l : List UInt8) (k : Nat) (c : UInt8) (h : l[k]? = some c) : ∀ hix, ((((⟨l.toArray⟩ : ByteArray)[k]'hix).toNat : Int)) = (c.toNat : Int) := by
  intro hix
  have e : (⟨l.toArray⟩ : ByteArray)[k]'hix = c := by
    have hk : k < l.length := hix
    rw [List.getElem?_eq_getElem hk] at h
    exact Option.some.inj h
  rw [e]
set_option maxRecDepth 100000 in
theorem sAlphaRead_any (l : List UInt8) (w : World) (hl : l.length ≤ 1048576) : Calls Tryd.prog 32 #[.string ⟨l.toArray⟩] w fun e w' => e = .returned (alphaReadR l) ∧ Below w.heap.size w w' := by
  go_enter Tryd.func32, Tryd.ntmps32
  go_wp2_with fail
  go_loop [4, 5] (fun s i => ∃ (k : Nat) (v : Int), k ≤ l.length ∧ k ≤ 6 ∧ 0 ≤ v ∧ v ≤ 1000000 ∧ s = .int .i64 v ∧ i = .int .i64 k ∧ Hid (v = partA l k)) (fun _ i => l.length - (intOf i).toNat)
  case atStart => exact ⟨0, 0, by omega, by omega, by omega, by omega, rfl, rfl, Lib.hid (partA_zero l).symm⟩
  case round =>
    obtain ⟨k, v, hk, hk6, hv0, hv1, rfl, rfl, Hr⟩ := hrel
    by_cases hlt : k < l.length ∧ k < 6
    · obtain ⟨hlt, h6⟩ := hlt
      have hnb := partA_bd l (k + 1) (by omega)
      by_cases h0 : k = 0
      · subst h0
        have hv : v = 0 := by rw [Hr.out, partA_zero]
        subst hv
        by_cases hc : ∃ d q, l = 39 :: d :: q
        · obtain ⟨d, q, rfl⟩ := hc
          have hq : (((⟨(39 :: d :: q).toArray⟩ : ByteArray)[0]'(Nat.succ_pos _)).toNat : Int) = 39 := rfl
          have Hst := Lib.hid (partA_one 39 d q rfl)
          have Hans : Hid (∀ hix, av (((⟨(39 :: d :: q).toArray⟩ : ByteArray)[1]'hix).toNat : Int) = av (d.toNat : Int)) := fun hix => rfl
          have hdb := av_bd (d.toNat : Int)
          generalize av (d.toNat : Int) = x at *
          clear hnb
          go_wp2_with fail
          refine (l3Value_any _ _).mono ?_
          rw [Hans.out]
          rintro e w1 ⟨rfl, rfl⟩
          go_wp2_with fail
          go_round
          case rel => exact ⟨1, 999 * x, by simp, by omega, by omega, by omega, rfl, rfl, Lib.hid Hst.out.symm⟩
          case measure => simp [intOf]
        · obtain ⟨c, r, rfl⟩ : ∃ c r, l = c :: r := by
            match l, hlt with
            | c :: r, _ => exact ⟨c, r, rfl⟩
          have hcr : c ≠ 39 ∨ r = [] := by
            by_cases h : c = 39
            · subst h
              match r, hc with
              | [], _ => exact .inr rfl
              | d :: q, hc => exact absurd ⟨d, q, rfl⟩ hc
            · exact .inl h
          clear hc
          by_cases h : c = 39
          · subst h
            obtain rfl : r = [] := by rcases hcr with h | h; exact absurd rfl h; exact h
            have hq : (((⟨[39].toArray⟩ : ByteArray)[0]'(Nat.succ_pos _)).toNat : Int) = 39 := rfl
            have Hst : Hid ((0 : Int) = partA [39] 1) := by show _ = _; rw [partA_one_no 39 [] (.inr rfl)]; decide
            have H39 : Hid (av 39 = 0) := by show _ = _; decide
            clear hcr hnb
            go_wp2_with fail
            refine (l3Value_int 39 _ (by omega) (by omega)).mono ?_
            rw [H39.out]
            rintro e w1 ⟨rfl, rfl⟩
            go_wp2_with fail
            go_round
            case rel => exact ⟨1, 0, by simp, by omega, by omega, by omega, rfl, rfl, Hst⟩
            case measure => simp [intOf]
          · have Hst := Lib.hid (partA_one_no c r hcr)
            have Hans : Hid (∀ hix, av (((⟨(c :: r).toArray⟩ : ByteArray)[0]'hix).toNat : Int) = av (c.toNat : Int)) := fun hix => rfl
            have hdb := av_bd (c.toNat : Int)
            generalize hx : av (c.toNat : Int) = x at *
            clear hnb hx
            have hq : ((((⟨(c :: r).toArray⟩ : ByteArray)[0]'(Nat.succ_pos _)).toNat : Int) == 39) = false := by
              show ((c.toNat : Int) == 39) = false
              rw [beq_eq_false_iff_ne]
              intro e
              exact h (UInt8.toNat_inj.1 (by show c.toNat = 39; omega))
            clear hcr h
            go_wp2_with fail
            refine (l3Value_any _ _).mono ?_
            rw [Hans.out]
            rintro e w1 ⟨rfl, rfl⟩
            go_wp2_with fail
            go_round
            case rel => exact ⟨1, x, by simp, by omega, by omega, by omega, rfl, rfl, Lib.hid Hst.out.symm⟩
            case measure => simp [intOf]
      · have hz : ((k : Int) == 0) = false := by rw [beq_eq_false_iff_ne]; omega
        have hs := partA_succ l k (by omega) hlt
        obtain ⟨x, Hx⟩ : ∃ x, Hid (av (l[k].toNat : Int) = x) := ⟨_, Lib.hid rfl⟩
        have Hans : Hid (∀ hix, av (((⟨l.toArray⟩ : ByteArray)[k]'hix).toNat : Int) = x) := fun hix => Hx.out
        have hxb := av_bd (l[k].toNat : Int)
        rw [Hx.out] at hs hxb
        rw [hs, ← Hr.out] at hnb
        have Hst : Hid (v + x = partA l (k + 1)) := by show _ = _; rw [hs, Hr.out]
        clear hs h0
        go_wp2_with fail
        refine (l3Value_any _ _).mono ?_
        rw [Hans.out]
        rintro e w1 ⟨rfl, rfl⟩
        go_wp2_with fail
        go_round
        case rel => exact ⟨k + 1, v + x, by omega, by omega, by omega, by omega, rfl, by go_num, Hst⟩
        case measure => simp [intOf]; omega
    · have Hv : Hid (l.length ≤ 6 → v = rdA l) := fun h => by rw [Hr.out]; exact partA_end l k (by omega)
      have hend : k = l.length ∨ k = 6 := by omega
      have Hk : Hid (¬ (k < l.length ∧ k < 6)) := Lib.hid hlt
      by_cases hr : 1 ≤ v ∧ v ≤ 9999
      · obtain ⟨r1, r2⟩ := hr
        have hlen := aof_len v.toNat
        have hrt : decide (1 ≤ v ∧ v ≤ 9999) = true := decide_eq_true ⟨r1, r2⟩
        have Hrt := Lib.hid hrt; clear hrt
        by_cases he : aof v.toNat = l
        · have Hfin := Lib.hid (readR_fits l v Hv.out r1 r2 he)
          have He := Lib.hid he
          clear he hlen hlt
          by_cases hkl : k < l.length
          · have hk6' : k = 6 := by omega
            subst hk6'
            clear hend
            go_wp2_with fail
            refine (l6In_any _ _ _ _).mono ?_
            rintro e w1 ⟨rfl, rfl⟩
            rw [Hrt.out]
            go_wp2_with fail
            refine (l3Of_int _ _ (by omega) (by omega)).mono ?_
            rw [He.out]
            rintro e w1 ⟨rfl, g1⟩
            go_wp2_with fail
            go_ret2
            exact ⟨ret_val Hfin.out.symm, g1⟩
          · clear hend
            go_wp2_with fail
            refine (l6In_any _ _ _ _).mono ?_
            rintro e w1 ⟨rfl, rfl⟩
            rw [Hrt.out]
            go_wp2_with fail
            refine (l3Of_int _ _ (by omega) (by omega)).mono ?_
            rw [He.out]
            rintro e w1 ⟨rfl, g1⟩
            go_wp2_with fail
            go_ret2
            exact ⟨ret_val Hfin.out.symm, g1⟩
        · have Hfin := Lib.hid (readR_unfit l v Hv.out (.inr he))
          obtain ⟨L, HL⟩ : ∃ L, Hid (aof v.toNat = L) := ⟨_, Lib.hid rfl⟩
          rw [HL.out] at he hlen
          have Hne : (L == l) = false := by rw [beq_eq_false_iff_ne]; exact he
          clear he hlt
          by_cases hkl : k < l.length
          · have hk6' : k = 6 := by omega
            subst hk6'
            clear hend
            go_wp2_with fail
            refine (l6In_any _ _ _ _).mono ?_
            rintro e w1 ⟨rfl, rfl⟩
            rw [Hrt.out]
            go_wp2_with fail
            refine (l3Of_int _ _ (by omega) (by omega)).mono ?_
            rw [HL.out]
            rintro e w1 ⟨rfl, g1⟩
            go_wp2_with fail
            go_ret2
            exact ⟨ret_val Hfin.out.symm, g1⟩
          · clear hend
            go_wp2_with fail
            refine (l6In_any _ _ _ _).mono ?_
            rintro e w1 ⟨rfl, rfl⟩
            rw [Hrt.out]
            go_wp2_with fail
            refine (l3Of_int _ _ (by omega) (by omega)).mono ?_
            rw [HL.out]
            rintro e w1 ⟨rfl, g1⟩
            go_wp2_with fail
            go_ret2
            exact ⟨ret_val Hfin.out.symm, g1⟩
      · have Hfin := Lib.hid (readR_unfit l v Hv.out (.inl hr))
        have Hrf : Hid (decide (1 ≤ v ∧ v ≤ 9999) = false) := Lib.hid (decide_eq_false hr)
        clear hr hlt
        by_cases hkl : k < l.length
        · have hk6' : k = 6 := by omega
          subst hk6'
          clear hend
          go_wp2_with fail
          refine (l6In_any _ _ _ _).mono ?_
          rintro e w1 ⟨rfl, rfl⟩
          rw [Hrf.out]
          go_wp2_with fail
          go_ret2
          exact ⟨ret_val Hfin.out.symm, Below.refl _ _⟩
        · clear hend
          go_wp2_with fail
          refine (l6In_any _ _ _ _).mono ?_
          rintro e w1 ⟨rfl, rfl⟩
          rw [Hrf.out]
          go_wp2_with fail
          go_ret2
          exact ⟨ret_val Hfin.out.symm, Below.refl _ _⟩
theorem readR_two (l : List UInt8) : ∃ (n : Int) (b : Bool), alphaReadR l = .tuple #[.int .i64 n, .bool b] ∧ isA l = b ∧ (b = true → rdA l = n ∧ 1 ≤ n ∧ n ≤ 9999) := by
  cases h : isA l with
  | true => exact ⟨_, _, alphaReadR_yes l h, rfl, fun _ => ⟨rfl, (isA_of l h).1, (isA_of l h).2.1⟩⟩
  | false => exact ⟨_, _, alphaReadR_not l (by rw [h]; simp), rfl, fun h => by cases h⟩
theorem sAlphaAdd_any (s t : List UInt8) (w : World) (hs : s.length ≤ 1048576) (ht : t.length ≤ 1048576) : Calls Tryd.prog 19 #[.string ⟨s.toArray⟩, .string ⟨t.toArray⟩] w fun e w' => e = .returned (alphaAddR s t) ∧ Below w.heap.size w w' := by
  obtain ⟨m, b, hm, hb⟩ := readR_two s
  obtain ⟨n, c, hn, hc⟩ := readR_two t
  have Hm := Lib.hid hm; have Hn := Lib.hid hn; clear hm hn
  obtain ⟨x, f, hx⟩ := alphaOfR_two (m + n)
  have Hx := Lib.hid hx; clear hx
  have Hfin : Hid (alphaAddR s t = if b = true ∧ c = true then .tuple #[.string x, .bool f] else .tuple #[.string ⟨#[]⟩, .bool false]) := by
    show _ = _
    unfold alphaAddR
    rw [hb.1, hc.1]
    split
    · rename_i h
      rw [(hb.2 h.1).1, (hc.2 h.2).1, Hx.out]
    · rfl
  have B1 := hb.2; have B2 := hc.2
  clear hb hc
  cases b with
  | true =>
    obtain ⟨_, m0, m1⟩ := B1 rfl
    cases c with
    | true =>
      obtain ⟨_, n0, n1⟩ := B2 rfl
      clear B1 B2
      go_enter Tryd.func19, Tryd.ntmps19
      go_wp2_with fail
      refine (sAlphaRead_any s _ hs).mono ?_
      rw [Hm.out]
      rintro e w1 ⟨rfl, g1⟩
      go_wp2_with fail
      refine (sAlphaRead_any t _ ht).mono ?_
      rw [Hn.out]
      rintro e w2 ⟨rfl, g2⟩
      go_wp2_with fail
      refine (sAlphaOf_any _ _).mono ?_
      rw [Hx.out]
      rintro e w3 ⟨rfl, g3⟩
      go_wp2_with fail
      go_ret2
      exact ⟨ret_val (by rw [Hfin.out]; rfl), bel_chain (bel_chain g1 g2) g3⟩
    | false =>
      clear B1 B2
      go_enter Tryd.func19, Tryd.ntmps19
      go_wp2_with fail
      refine (sAlphaRead_any s _ hs).mono ?_
      rw [Hm.out]
      rintro e w1 ⟨rfl, g1⟩
      go_wp2_with fail
      refine (sAlphaRead_any t _ ht).mono ?_
      rw [Hn.out]
      rintro e w2 ⟨rfl, g2⟩
      go_wp2_with fail
      go_ret2
      exact ⟨ret_val (by rw [Hfin.out]; rfl), bel_chain g1 g2⟩
  | false =>
    clear B1 B2
    go_enter Tryd.func19, Tryd.ntmps19
    go_wp2_with fail
    refine (sAlphaRead_any s _ hs).mono ?_
    rw [Hm.out]
    rintro e w1 ⟨rfl, g1⟩
    go_wp2_with fail
    refine (sAlphaRead_any t _ ht).mono ?_
    rw [Hn.out]
    rintro e w2 ⟨rfl, g2⟩
    go_wp2_with fail
    go_ret2
    exact ⟨ret_val (by rw [Hfin.out]; rfl), bel_chain g1 g2⟩
end Go.Proofs.YtdognkjpiineiaaDoor
