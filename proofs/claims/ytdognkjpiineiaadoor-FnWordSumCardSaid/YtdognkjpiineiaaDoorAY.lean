/- The laws FnAlpha, FnRead, FnWordSum, FnNines, FnAlphaAdd: their walks. -/
import Derived.Test.YtdognkjpiineiaaDoorAD
import Derived.Test.YtdognkjpiineiaaDoorAX
namespace Go.Proofs.YtdognkjpiineiaaDoor
open Go.RowKit
set_option linter.unusedVariables false
set_option maxRecDepth 100000
theorem low_pos (n : Nat) (h1 : 1 ≤ n) (h2 : n < 1000) : 1 ≤ (low n).length := by
  cases h : low n with
  | nil =>
    have := low_sum n
    rw [h] at this
    simp [asum] at this
    omega
  | cons c r => simp
theorem aof_sum (n : Nat) (h1 : 1 ≤ n) (h2 : n < 1000) : alphaSumR (aof n) = .tuple #[.int .i64 (n : Nat), .bool true] := by
  rw [aof_low n h2]
  unfold alphaSumR
  have := low_len n
  rw [if_pos ⟨low_pos n h1 h2, by omega, low_ok n⟩, low_sum, Nat.mod_eq_of_lt h2]
theorem wFnAlpha (a : Option Addr) (len cap : Nat) (zs : List Int) (w : World) (h : IsRow .u8 w a len cap zs) (hl : AT w) :
    Calls Tryd.prog 4 #[.slice a len cap] w fun e w' => e = .returned (.bool true) ∧ Below w.heap.size w w' := by
  have H := Lib.hid h; have HL := Lib.hid hl; clear h hl
  by_cases hbig : 1048576 < len
  · go_enter Tryd.func4, Tryd.ntmps4
    go_wp2_with fail
    go_ret
    exact ⟨rfl, Below.refl _ _⟩
  · go_enter Tryd.func4, Tryd.ntmps4
    go_wp2_with fail
    refine (drawAlphaOf_any a len cap zs _ H.out).mono ?_
    rintro e w1 ⟨n, hn0, hn1, rfl, g1⟩
    have HL1 := Lib.hid (HL.out.step g1)
    by_cases hn : 1 ≤ n ∧ n ≤ 9999
    · obtain ⟨N, rfl⟩ := Int.eq_ofNat_of_zero_le (show 0 ≤ n by omega)
      have Hof : Hid (alphaOfR (N : Int) = .tuple #[.string ⟨(aof N).toArray⟩, .bool true]) := by
        show _ = _
        unfold alphaOfR
        rw [if_pos hn]; rfl
      have hlen := aof_len N
      have Hrd : Hid (alphaReadR (aof N) = .tuple #[.int .i64 (N : Nat), .bool true]) := by
        show _ = _
        obtain ⟨e1, e2⟩ := isA_eq N (aof N) (by omega) (by omega) rfl
        rw [alphaReadR_yes _ e2, e1]
      by_cases hbN : 999 < N
      · obtain ⟨y, q, hy⟩ := alphaSumR_two (aof N)
        have Hy := Lib.hid hy; clear hy
        generalize aof N = L at *
        obtain ⟨hn2, hn3⟩ := hn
        go_wp2_with fail
        refine (iAlphaOf_any _ _ HL1.out).mono ?_
        rw [Hof.out]
        rintro e w2 ⟨rfl, rfl⟩
        go_wp2_with fail
        refine (sAlphaOf_any _ _).mono ?_
        rw [Hof.out]
        rintro e w3 ⟨rfl, g3⟩
        have HL3 := Lib.hid (HL1.out.step g3)
        go_wp2_with fail
        refine (iAlphaRead_any L _ HL3.out (by omega)).mono ?_
        rw [Hrd.out]
        rintro e w4 ⟨rfl, g4⟩
        have HL4 := Lib.hid (HL3.out.step g4)
        go_wp2_with fail
        refine (iAlphaSum_any L _ HL4.out).mono ?_
        rw [Hy.out]
        rintro e w5 ⟨rfl, rfl⟩
        cases q
        all_goals
          go_wp2_with fail
          go_ret
          exact ⟨rfl, bel_chain (bel_chain g1 g3) g4⟩
      · have Hy := Lib.hid (aof_sum N (by omega) (by omega))
        generalize aof N = L at *
        obtain ⟨hn2, hn3⟩ := hn
        go_wp2_with fail
        refine (iAlphaOf_any _ _ HL1.out).mono ?_
        rw [Hof.out]
        rintro e w2 ⟨rfl, rfl⟩
        go_wp2_with fail
        refine (sAlphaOf_any _ _).mono ?_
        rw [Hof.out]
        rintro e w3 ⟨rfl, g3⟩
        have HL3 := Lib.hid (HL1.out.step g3)
        go_wp2_with fail
        refine (iAlphaRead_any L _ HL3.out (by omega)).mono ?_
        rw [Hrd.out]
        rintro e w4 ⟨rfl, g4⟩
        have HL4 := Lib.hid (HL3.out.step g4)
        go_wp2_with fail
        refine (iAlphaSum_any L _ HL4.out).mono ?_
        rw [Hy.out]
        rintro e w5 ⟨rfl, rfl⟩
        go_wp2_with fail
        go_ret
        exact ⟨rfl, bel_chain (bel_chain g1 g3) g4⟩
    · have Hof : Hid (alphaOfR n = .tuple #[.string ⟨#[]⟩, .bool false]) := by
        show _ = _
        unfold alphaOfR
        rw [if_neg hn]
      clear hn
      go_wp2_with fail
      refine (iAlphaOf_any _ _ HL1.out).mono ?_
      rw [Hof.out]
      rintro e w2 ⟨rfl, rfl⟩
      go_wp2_with fail
      refine (sAlphaOf_any _ _).mono ?_
      rw [Hof.out]
      rintro e w3 ⟨rfl, g3⟩
      go_wp2_with fail
      go_ret
      exact ⟨rfl, bel_chain g1 g3⟩
theorem wFnRead (a : Option Addr) (len cap : Nat) (zs : List Int) (w : World) (h : IsRow .u8 w a len cap zs) (hl : AT w) :
    Calls Tryd.prog 15 #[.slice a len cap] w fun e w' => e = .returned (.bool true) ∧ Below w.heap.size w w' := by
  have H := Lib.hid h; have HL := Lib.hid hl; clear h hl
  by_cases hbig : 1048576 < len
  · go_enter Tryd.func15, Tryd.ntmps15
    go_wp2_with fail
    go_ret
    exact ⟨rfl, Below.refl _ _⟩
  · go_enter Tryd.func15, Tryd.ntmps15
    go_wp2_with fail
    refine (drawAlphaRead_any a len cap zs _ H.out).mono ?_
    rintro e w1 ⟨s, hs, rfl, g1⟩
    obtain ⟨l, rfl⟩ := as_bytes s
    rw [size_bytes] at hs
    have HL1 := Lib.hid (HL.out.step g1)
    cases hA : isA l with
    | true =>
      obtain ⟨a1, a2, a3⟩ := isA_of l hA
      have Hrd := Lib.hid (alphaReadR_yes l hA)
      have Hof : Hid (alphaOfR (rdA l) = .tuple #[.string ⟨l.toArray⟩, .bool true]) := by
        show _ = _
        unfold alphaOfR
        rw [if_pos ⟨a1, a2⟩, a3]
      generalize rdA l = x at *
      clear hA a3
      go_wp2_with fail
      refine (iAlphaRead_any l _ HL1.out (by omega)).mono ?_
      rw [Hrd.out]
      rintro e w2 ⟨rfl, g2⟩
      go_wp2_with fail
      refine (sAlphaRead_any l _ (by omega)).mono ?_
      rw [Hrd.out]
      rintro e w3 ⟨rfl, g3⟩
      have HL3 := Lib.hid ((HL1.out.step g2).step g3)
      go_wp2_with fail
      refine (iAlphaOf_any _ _ HL3.out).mono ?_
      rw [Hof.out]
      rintro e w4 ⟨rfl, rfl⟩
      go_wp2_with fail
      go_ret
      exact ⟨rfl, bel_chain (bel_chain g1 g2) g3⟩
    | false =>
      have Hrd := Lib.hid (alphaReadR_not l (by rw [hA]; simp))
      clear hA
      go_wp2_with fail
      refine (iAlphaRead_any l _ HL1.out (by omega)).mono ?_
      rw [Hrd.out]
      rintro e w2 ⟨rfl, g2⟩
      go_wp2_with fail
      refine (sAlphaRead_any l _ (by omega)).mono ?_
      rw [Hrd.out]
      rintro e w3 ⟨rfl, g3⟩
      go_wp2_with fail
      go_ret
      exact ⟨rfl, bel_chain (bel_chain g1 g2) g3⟩
theorem ext_head (c : UInt8) (r : List UInt8) : (⟨(c :: r).toArray⟩ : ByteArray).extract 0 1 = ⟨[c].toArray⟩ := by
  rw [Lib.extract_eq]; rfl
theorem isW_cons (c : UInt8) (r : List UInt8) (h : isW (c :: r) = true) (hr : r ≠ []) : isW [c] = true ∧ isW r = true := by
  obtain ⟨h1, h2, h3⟩ := of_decide_eq_true h
  rw [okA_cons, Bool.and_eq_true] at h3
  unfold isW
  simp only [decide_eq_true_eq]
  have : 1 ≤ r.length := by cases r with | nil => exact absurd rfl hr | cons _ _ => simp
  simp only [List.length_cons] at h2
  exact ⟨⟨by simp, by simp, by rw [okA_cons, h3.1]; rfl⟩, by omega, by omega, h3.2⟩
theorem wFnWordSum (a : Option Addr) (len cap : Nat) (zs : List Int) (w : World) (h : IsRow .u8 w a len cap zs) (hl : AT w) :
    Calls Tryd.prog 16 #[.slice a len cap] w fun e w' => e = .returned (.bool true) ∧ Below w.heap.size w w' := by
  have H := Lib.hid h; have HL := Lib.hid hl; clear h hl
  by_cases hbig : 1048576 < len
  · go_enter Tryd.func16, Tryd.ntmps16
    go_wp2_with fail
    go_ret
    exact ⟨rfl, Below.refl _ _⟩
  · go_enter Tryd.func16, Tryd.ntmps16
    go_wp2_with fail
    refine (drawAlphaSum_any a len cap zs _ H.out).mono ?_
    rintro e w1 ⟨s, hs, rfl, g1⟩
    obtain ⟨l, rfl⟩ := as_bytes s
    rw [size_bytes] at hs
    have HL1 := Lib.hid (HL.out.step g1)
    cases hA : isW l with
    | true =>
      have hb := isW_bd l hA
      have Hs := Lib.hid (alphaSumR_yes l hA)
      obtain ⟨c, r, rfl⟩ : ∃ c r, l = c :: r := by
        match l, hA with
        | c :: r, _ => exact ⟨c, r, rfl⟩
      by_cases hr : r = []
      · subst hr
        have hc := av_bd (c.toNat : Int)
        have hx : asum [c] = av (c.toNat : Int) := by simp [asum]
        rw [hx] at hb Hs
        generalize av (c.toNat : Int) = x at *
        clear hA hx
        go_wp2_with fail
        refine (iAlphaSum_any [c] _ HL1.out).mono ?_
        rw [Hs.out]
        rintro e w2 ⟨rfl, rfl⟩
        go_wp2_with fail
        refine (sAlphaSum_any [c] _).mono ?_
        rw [Hs.out]
        rintro e w2 ⟨rfl, rfl⟩
        go_wp2_with fail
        go_ret
        exact ⟨rfl, g1⟩
      · obtain ⟨k1, k2⟩ := isW_cons c r hA hr
        have H1 := Lib.hid (alphaSumR_yes _ k1); have H2 := Lib.hid (alphaSumR_yes _ k2)
        have hx : asum [c] = av (c.toNat : Int) := by simp [asum]
        have hxr : asum (c :: r) = av (c.toNat : Int) + asum r := rfl
        have b1 := isW_bd _ k1; have b2 := isW_bd _ k2
        have hlr : 1 ≤ r.length := by cases r with | nil => exact absurd rfl hr | cons _ _ => simp
        rw [hx] at H1 b1
        rw [hxr] at Hs hb
        have He := Lib.hid (ext_head c r); have He2 := Lib.hid (ext1 c r)
        generalize av (c.toNat : Int) = x at *
        generalize asum r = y at *
        clear hA hx hxr k1 k2 hr
        go_wp2_with fail
        refine (iAlphaSum_any (c :: r) _ HL1.out).mono ?_
        rw [Hs.out]
        rintro e w2 ⟨rfl, rfl⟩
        go_wp2_with fail
        refine (sAlphaSum_any (c :: r) _).mono ?_
        rw [Hs.out]
        rintro e w2 ⟨rfl, rfl⟩
        go_wp2_with fail
        rw [He.out]
        refine (iAlphaSum_any [c] _ HL1.out).mono ?_
        rw [H1.out]
        rintro e w2 ⟨rfl, rfl⟩
        go_wp2_with fail
        rw [He2.out]
        refine (iAlphaSum_any r _ HL1.out).mono ?_
        rw [H2.out]
        rintro e w2 ⟨rfl, rfl⟩
        go_wp2_with fail
        go_ret
        exact ⟨rfl, g1⟩
    | false =>
      have Hs := Lib.hid (alphaSumR_no l hA)
      clear hA
      go_wp2_with fail
      refine (iAlphaSum_any l _ HL1.out).mono ?_
      rw [Hs.out]
      rintro e w2 ⟨rfl, rfl⟩
      go_wp2_with fail
      refine (sAlphaSum_any l _).mono ?_
      rw [Hs.out]
      rintro e w2 ⟨rfl, rfl⟩
      go_wp2_with fail
      go_ret
      exact ⟨rfl, g1⟩
theorem isW_snoc (l : List UInt8) (h : isW l = true) : (l.length < 20 → isW (l ++ [105]) = true) ∧ (l.length = 20 → isW (l ++ [105]) = false) := by
  obtain ⟨h1, h2, h3⟩ := of_decide_eq_true h
  unfold isW
  refine ⟨fun hl => decide_eq_true ⟨by simp, by simp; omega, ?_⟩, fun hl => decide_eq_false fun h => ?_⟩
  · rw [okA_append, h3]; decide
  · have := h.2.1
    simp at this
    omega
theorem wFnNines (a : Option Addr) (len cap : Nat) (zs : List Int) (w : World) (h : IsRow .u8 w a len cap zs) (hl : AT w) :
    Calls Tryd.prog 14 #[.slice a len cap] w fun e w' => e = .returned (.bool true) ∧ Below w.heap.size w w' := by
  have H := Lib.hid h; have HL := Lib.hid hl; clear h hl
  by_cases hbig : 1048576 < len
  · go_enter Tryd.func14, Tryd.ntmps14
    go_wp2_with fail
    go_ret
    exact ⟨rfl, Below.refl _ _⟩
  · go_enter Tryd.func14, Tryd.ntmps14
    go_wp2_with fail
    refine (drawAlphaNines_any a len cap zs _ H.out).mono ?_
    rintro e w1 ⟨s, hs, rfl, g1⟩
    obtain ⟨l, rfl⟩ := as_bytes s
    rw [size_bytes] at hs
    have HL1 := Lib.hid (HL.out.step g1)
    cases hA : isW l with
    | true =>
      have hb := isW_bd l hA
      have Hs := Lib.hid (alphaSumR_yes l hA)
      have Hn : Hid (ninesR l = .tuple #[.int .i64 ((asum l - 1) % 9 + 1), .bool true]) := by show _ = _; unfold ninesR; rw [if_pos hA]
      have hlen := (of_decide_eq_true hA).2.1
      have hsn := isW_snoc l hA
      have Happ : Hid ((⟨l.toArray⟩ : ByteArray) ++ ⟨#[105]⟩ = ⟨(l ++ [105]).toArray⟩) := bytes_append l [105]
      have hz : (((asum l - ((asum l - 1) % 9 + 1)) % 9) == 0) = true := by rw [beq_iff_eq]; omega
      by_cases h20 : l.length = 20
      · have Hn2 : Hid (ninesR (l ++ [105]) = .tuple #[.int .i64 0, .bool false]) := by show _ = _; unfold ninesR; rw [if_neg (by rw [hsn.2 h20]; simp)]
        have hq : ((l.length : Int) == 20) = true := by rw [beq_iff_eq]; omega
        generalize asum l = x at *
        clear hA hsn h20
        go_wp2_with fail
        refine (iAlphaNines_any l _ HL1.out).mono ?_
        rw [Hn.out]
        rintro e w2 ⟨rfl, rfl⟩
        go_wp2_with fail
        refine (sAlphaNines_any l _).mono ?_
        rw [Hn.out]
        rintro e w2 ⟨rfl, rfl⟩
        go_wp2_with fail
        refine (iAlphaSum_any l _ HL1.out).mono ?_
        rw [Hs.out]
        rintro e w2 ⟨rfl, rfl⟩
        go_wp2_with fail
        rw [Happ.out]
        refine (iAlphaNines_any (l ++ [105]) _ HL1.out).mono ?_
        rw [Hn2.out]
        rintro e w2 ⟨rfl, rfl⟩
        go_wp2_with fail
        go_ret
        exact ⟨rfl, g1⟩
      · have Hn2 : Hid (ninesR (l ++ [105]) = .tuple #[.int .i64 ((asum l - 1) % 9 + 1), .bool true]) := by
          show _ = _
          unfold ninesR
          rw [if_pos (hsn.1 (by omega)), asum_append, show asum [105] = 9 by decide]
          rw [show (asum l + 9 - 1) % 9 = (asum l - 1) % 9 by omega]
        have hq : ((l.length : Int) == 20) = false := by rw [beq_eq_false_iff_ne]; omega
        generalize asum l = x at *
        clear hA hsn h20
        go_wp2_with fail
        refine (iAlphaNines_any l _ HL1.out).mono ?_
        rw [Hn.out]
        rintro e w2 ⟨rfl, rfl⟩
        go_wp2_with fail
        refine (sAlphaNines_any l _).mono ?_
        rw [Hn.out]
        rintro e w2 ⟨rfl, rfl⟩
        go_wp2_with fail
        refine (iAlphaSum_any l _ HL1.out).mono ?_
        rw [Hs.out]
        rintro e w2 ⟨rfl, rfl⟩
        go_wp2_with fail
        rw [Happ.out]
        refine (iAlphaNines_any (l ++ [105]) _ HL1.out).mono ?_
        rw [Hn2.out]
        rintro e w2 ⟨rfl, rfl⟩
        go_wp2_with fail
        go_ret
        exact ⟨rfl, g1⟩
    | false =>
      have Hn : Hid (ninesR l = .tuple #[.int .i64 0, .bool false]) := by show _ = _; unfold ninesR; rw [if_neg (by rw [hA]; simp)]
      clear hA
      go_wp2_with fail
      refine (iAlphaNines_any l _ HL1.out).mono ?_
      rw [Hn.out]
      rintro e w2 ⟨rfl, rfl⟩
      go_wp2_with fail
      refine (sAlphaNines_any l _).mono ?_
      rw [Hn.out]
      rintro e w2 ⟨rfl, rfl⟩
      go_wp2_with fail
      go_ret
      exact ⟨rfl, g1⟩
theorem wFnAlphaAdd (a : Option Addr) (len cap : Nat) (zs : List Int) (w : World) (h : IsRow .u8 w a len cap zs) (hl : AT w) :
    Calls Tryd.prog 3 #[.slice a len cap] w fun e w' => e = .returned (.bool true) ∧ Below w.heap.size w w' := by
  have H := Lib.hid h; have HL := Lib.hid hl; clear h hl
  by_cases hbig : 1048576 < len
  · go_enter Tryd.func3, Tryd.ntmps3
    go_wp2_with fail
    go_ret
    exact ⟨rfl, Below.refl _ _⟩
  · go_enter Tryd.func3, Tryd.ntmps3
    go_wp2_with fail
    refine (drawAlphaAdd_any a len cap zs _ H.out).mono ?_
    rintro e w1 ⟨s, t, hs, ht, rfl, g1⟩
    obtain ⟨l, rfl⟩ := as_bytes s
    obtain ⟨k, rfl⟩ := as_bytes t
    rw [size_bytes] at hs ht
    have HL1 := Lib.hid (HL.out.step g1)
    by_cases hA : isA l = true ∧ isA k = true ∧ rdA l + rdA k ≤ 9999
    · obtain ⟨h1, h2, h3⟩ := hA
      obtain ⟨a1, a2, _⟩ := isA_of l h1
      obtain ⟨b1, b2, _⟩ := isA_of k h2
      have Hl := Lib.hid (alphaReadR_yes l h1); have Hk := Lib.hid (alphaReadR_yes k h2)
      have hof : alphaOfR (rdA l + rdA k) = .tuple #[.string ⟨(aof (rdA l + rdA k).toNat).toArray⟩, .bool true] := by unfold alphaOfR; rw [if_pos ⟨by omega, h3⟩]
      have Hlk : Hid (alphaAddR l k = .tuple #[.string ⟨(aof (rdA l + rdA k).toNat).toArray⟩, .bool true]) := by
        show _ = _; unfold alphaAddR; rw [if_pos ⟨h1, h2⟩, hof]
      have Hkl : Hid (alphaAddR k l = .tuple #[.string ⟨(aof (rdA l + rdA k).toNat).toArray⟩, .bool true]) := by
        show _ = _; unfold alphaAddR; rw [if_pos ⟨h2, h1⟩, Int.add_comm, hof]
      have hlen := aof_len (rdA l + rdA k).toNat
      have Hrd : Hid (alphaReadR (aof (rdA l + rdA k).toNat) = .tuple #[.int .i64 (rdA l + rdA k), .bool true]) := by
        show _ = _
        obtain ⟨e1, e2⟩ := isA_eq (rdA l + rdA k).toNat _ (by omega) (by omega) rfl
        rw [alphaReadR_yes _ e2, e1, Int.toNat_of_nonneg (by omega)]
      generalize aof (rdA l + rdA k).toNat = L at *
      generalize rdA l = x at *
      generalize rdA k = y at *
      clear h1 h2 hof
      go_wp2_with fail
      refine (iAlphaAdd_any l k _ HL1.out (by omega) (by omega)).mono ?_
      rw [Hlk.out]
      rintro e w2 ⟨rfl, g2⟩
      go_wp2_with fail
      refine (sAlphaAdd_any l k _ (by omega) (by omega)).mono ?_
      rw [Hlk.out]
      rintro e w3 ⟨rfl, g3⟩
      have HL3 := Lib.hid ((HL1.out.step g2).step g3)
      go_wp2_with fail
      refine (iAlphaAdd_any k l _ HL3.out (by omega) (by omega)).mono ?_
      rw [Hkl.out]
      rintro e w4 ⟨rfl, g4⟩
      have HL4 := Lib.hid (HL3.out.step g4)
      go_wp2_with fail
      refine (iAlphaRead_any l _ HL4.out (by omega)).mono ?_
      rw [Hl.out]
      rintro e w5 ⟨rfl, g5⟩
      have HL5 := Lib.hid (HL4.out.step g5)
      go_wp2_with fail
      refine (iAlphaRead_any k _ HL5.out (by omega)).mono ?_
      rw [Hk.out]
      rintro e w6 ⟨rfl, g6⟩
      have HL6 := Lib.hid (HL5.out.step g6)
      go_wp2_with fail
      refine (iAlphaRead_any L _ HL6.out (by omega)).mono ?_
      rw [Hrd.out]
      rintro e w7 ⟨rfl, g7⟩
      go_wp2_with fail
      go_ret
      exact ⟨rfl, bel_chain (bel_chain (bel_chain (bel_chain (bel_chain (bel_chain g1 g2) g3) g4) g5) g6) g7⟩
    · have Hno : Hid (alphaAddR l k = .tuple #[.string ⟨#[]⟩, .bool false]) := by
        show _ = _
        unfold alphaAddR
        split
        · rename_i h
          unfold alphaOfR
          rw [if_neg]
          exact fun h' => hA ⟨h.1, h.2, h'.2⟩
        · rfl
      clear hA
      go_wp2_with fail
      refine (iAlphaAdd_any l k _ HL1.out (by omega) (by omega)).mono ?_
      rw [Hno.out]
      rintro e w2 ⟨rfl, g2⟩
      go_wp2_with fail
      refine (sAlphaAdd_any l k _ (by omega) (by omega)).mono ?_
      rw [Hno.out]
      rintro e w3 ⟨rfl, g3⟩
      go_wp2_with fail
      go_ret
      exact ⟨rfl, bel_chain (bel_chain g1 g2) g3⟩
end Go.Proofs.YtdognkjpiineiaaDoor
