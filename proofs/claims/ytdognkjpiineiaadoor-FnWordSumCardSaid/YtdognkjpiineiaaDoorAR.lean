/- The program's cutThousands, AlphaRead, AlphaSum, AlphaSame, AlphaNines, AlphaAdd. -/
import Derived.Test.YtdognkjpiineiaaDoorAO
namespace Go.Proofs.YtdognkjpiineiaaDoor
open Go.RowKit
set_option linter.unusedVariables false
set_option maxRecDepth 100000
theorem ext01 (c : UInt8) (r : List UInt8) : ((⟨(c :: r).toArray⟩ : ByteArray).extract 0 1).toList = [c] := by
  rw [Lib.extract_toList]; rfl
theorem ext1 (c : UInt8) (r : List UInt8) : (⟨(c :: r).toArray⟩ : ByteArray).extract 1 (r.length + 1) = ⟨r.toArray⟩ := by
  rw [Lib.extract_eq]
  congr 1
  simp
theorem cutPrefix_yes (r : List UInt8) (w : World) (hl : r.length ≤ 1048576) : Calls Tryd.prog 55 #[.string ⟨(39 :: r).toArray⟩, .string ⟨#[39]⟩] w fun e w' => e = .returned (.tuple #[.string ⟨r.toArray⟩, .bool true]) ∧ w = w' := by
  have h1 : (((⟨(39 :: r).toArray⟩ : ByteArray).extract 0 1).toList == [39]) = true := by rw [ext01]; rfl
  have H2 := Lib.hid (ext1 39 r)
  go_enter Tryd.func55, Tryd.ntmps55
  go_wp2
  go_ret2
  exact ⟨ret_bytes_yes H2.out, rfl⟩
theorem cutPrefix_no (c : UInt8) (r : List UInt8) (w : World) (hl : r.length ≤ 1048576) (hc : c ≠ 39) : Calls Tryd.prog 55 #[.string ⟨(c :: r).toArray⟩, .string ⟨#[39]⟩] w fun e w' => e = .returned (.tuple #[.string ⟨(c :: r).toArray⟩, .bool false]) ∧ w = w' := by
  have h1 : (((⟨(c :: r).toArray⟩ : ByteArray).extract 0 1).toList == [39]) = false := by rw [ext01]; simp [hc]
  go_enter Tryd.func55, Tryd.ntmps55
  go_wp2
  go_ret2
  exact ⟨rfl, rfl⟩
theorem cutPrefix_nil (w : World) : Calls Tryd.prog 55 #[.string ⟨#[]⟩, .string ⟨#[39]⟩] w fun e w' => e = .returned (.tuple #[.string ⟨#[]⟩, .bool false]) ∧ w = w' := by
  go_enter Tryd.func55, Tryd.ntmps55
  go_wp2
  go_ret2
  exact ⟨rfl, rfl⟩
theorem AT.drewN {w : World} (h : AT w) (n : Nat) : AT (w.drewN n) := h.step (bel_drewN (Below.refl _ _) n)
/-- cutThousands' answer -/
def cutR : List UInt8 → Value
  | [] => .tuple #[.int .i64 0, .string ⟨#[]⟩, .bool true]
  | c :: r => if c ≠ 39 then .tuple #[.int .i64 0, .string ⟨(c :: r).toArray⟩, .bool true] else match r with
    | [] => .tuple #[.int .i64 0, .string ⟨#[]⟩, .bool false]
    | d :: q => if 0 < av (d.toNat : Int) then .tuple #[.int .i64 (1000 * av (d.toNat : Int)), .string ⟨q.toArray⟩, .bool true] else .tuple #[.int .i64 0, .string ⟨#[]⟩, .bool false]
theorem cutR_other (c : UInt8) (r : List UInt8) (h : c ≠ 39) : cutR (c :: r) = .tuple #[.int .i64 0, .string ⟨(c :: r).toArray⟩, .bool true] := by
  show (if c ≠ 39 then _ else _) = _
  rw [if_pos h]
theorem cutR_one : cutR [39] = .tuple #[.int .i64 0, .string ⟨#[]⟩, .bool false] := rfl
theorem cutR_two (d : UInt8) (q : List UInt8) : cutR (39 :: d :: q) = if 0 < av (d.toNat : Int) then .tuple #[.int .i64 (1000 * av (d.toNat : Int)), .string ⟨q.toArray⟩, .bool true] else .tuple #[.int .i64 0, .string ⟨#[]⟩, .bool false] := rfl
theorem cutThousands_two (d : UInt8) (q : List UInt8) (w : World) (hw : AT w) (hl : q.length + 2 ≤ 1048576) : Calls Tryd.prog 40 #[.string ⟨(39 :: d :: q).toArray⟩] w fun e w' => e = .returned (cutR (39 :: d :: q)) ∧ Below w.heap.size w w' := by
  have Hw := Lib.hid hw; clear hw
  have He := Lib.hid (ext1 d q)
  have hzb := ixA_bd (d.toNat : Int)
  obtain ⟨z, Hz⟩ : ∃ z, Hid (ixA (d.toNat : Int) = z) := ⟨_, Lib.hid rfl⟩
  rw [Hz.out] at hzb
  by_cases hz : 0 ≤ z
  · have Hans : Hid (∀ hix, letterR (((⟨(d :: q).toArray⟩ : ByteArray)[0]'hix).toNat : Int) = .tuple #[.int .i64 z, .bool true]) := fun hix => by
      show letterR (d.toNat : Int) = _
      unfold letterR; rw [Hz.out, if_pos hz]
    have hav : Hid (av (d.toNat : Int) = vl z.toNat) := by show _ = _; rw [av_ix _ (by rw [Hz.out]; exact hz), Hz.out]
    have hvb := vl_bd z.toNat (by omega)
    obtain ⟨x, Hx⟩ : ∃ x, Hid (vl z.toNat = x) := ⟨_, Lib.hid rfl⟩
    rw [Hx.out] at hvb
    have Hfin : Hid (cutR (39 :: d :: q) = .tuple #[.int .i64 (1000 * x), .string ⟨q.toArray⟩, .bool true]) := by
      show _ = _
      rw [cutR_two, hav.out, Hx.out, if_pos (by omega)]
    have Hcall : ∀ n, Calls Tryd.prog 57 #[.int .i64 z] (w.drewN n) fun e w' => e = .returned (.int .i64 x) ∧ w.drewN n = w' := fun n => by
      have := aValue_int z (w.drewN n) (Hw.out.drewN n) (by omega) (by omega)
      rwa [Hx.out] at this
    have Hc := Lib.hid Hcall; clear Hcall
    go_enter Tryd.func40, Tryd.ntmps40
    go_wp2_with fail
    refine (cutPrefix_yes _ _ (by simp; omega)).mono ?_
    rintro e w1 ⟨rfl, rfl⟩
    go_wp2_with fail
    refine (alphaLetterOf_any _ _).mono ?_
    rw [Hans.out]
    rintro e w1 ⟨rfl, rfl⟩
    have hw1 : IntKind.i64.wrap (1000 * x) = 1000 * x := IntWalk.i64_in _ (by omega)
    go_wp2_with fail
    go_quiet ((go_at_call 57; exact quiet_mine (Hc.out _)))
    go_wp2
    go_ret3
    exact ⟨by rw [Hfin.out]; exact ret_val (congrArg (fun s => Value.tuple #[.int .i64 (1000 * x), .string s, .bool true]) He.out), bel_drewN (Below.refl _ _) _⟩
  · have Hans : Hid (∀ hix, letterR (((⟨(d :: q).toArray⟩ : ByteArray)[0]'hix).toNat : Int) = .tuple #[.int .i64 0, .bool false]) := fun hix => by
      show letterR (d.toNat : Int) = _
      unfold letterR; rw [Hz.out, if_neg hz]
    have Hfin : Hid (cutR (39 :: d :: q) = .tuple #[.int .i64 0, .string ⟨#[]⟩, .bool false]) := by
      show _ = _
      rw [cutR_two, if_neg]
      rw [av_pos_ix, Hz.out]
      exact hz
    clear hz
    go_enter Tryd.func40, Tryd.ntmps40
    go_wp2_with fail
    refine (cutPrefix_yes _ _ (by simp; omega)).mono ?_
    rintro e w1 ⟨rfl, rfl⟩
    go_wp2_with fail
    refine (alphaLetterOf_any _ _).mono ?_
    rw [Hans.out]
    rintro e w1 ⟨rfl, rfl⟩
    go_wp2_with fail
    go_ret3
    exact ⟨ret_val Hfin.out.symm, Below.refl _ _⟩
theorem cutThousands_any (l : List UInt8) (w : World) (hw : AT w) (hl : l.length ≤ 1048576) : Calls Tryd.prog 40 #[.string ⟨l.toArray⟩] w fun e w' => e = .returned (cutR l) ∧ Below w.heap.size w w' := by
  match l with
  | [] =>
    clear hw
    go_enter Tryd.func40, Tryd.ntmps40
    go_wp2_with fail
    refine (cutPrefix_nil _).mono ?_
    rintro e w1 ⟨rfl, rfl⟩
    go_wp2_with fail
    go_ret3
    exact ⟨rfl, Below.refl _ _⟩
  | c :: r =>
    by_cases hc : c = 39
    · subst hc
      match r with
      | [] =>
        clear hw
        go_enter Tryd.func40, Tryd.ntmps40
        go_wp2_with fail
        refine (cutPrefix_yes [] _ (by simp)).mono ?_
        rintro e w1 ⟨rfl, rfl⟩
        go_wp2_with fail
        go_ret3
        exact ⟨rfl, Below.refl _ _⟩
      | d :: q => exact cutThousands_two d q w hw (by simp at hl; omega)
    · rw [cutR_other c r hc]
      have H := Lib.hid hc; clear hc hw
      go_enter Tryd.func40, Tryd.ntmps40
      go_wp2_with fail
      refine (cutPrefix_no c r _ (by simp at hl; omega) H.out).mono ?_
      rintro e w1 ⟨rfl, rfl⟩
      go_wp2_with fail
      go_ret3
      exact ⟨rfl, Below.refl _ _⟩
/-- AlphaRead's answer -/
def alphaReadR (l : List UInt8) : Value := if isA l = true then .tuple #[.int .i64 (rdA l), .bool true] else .tuple #[.int .i64 0, .bool false]
theorem iAlphaRead_on (l text : List UInt8) (t s : Int) (w : World) (hw : AT w) (hl : l.length ≤ 1048576) (ht : text.length ≤ 1048576) (hcut : cutR l = .tuple #[.int .i64 t, .string ⟨text.toArray⟩, .bool true]) (hok : okA text = true) (hs : asum text = s) (hsum : t + s = rdA l)
    (t0 : 0 ≤ t) (t1 : t ≤ 900000) : Calls Tryd.prog 20 #[.string ⟨l.toArray⟩] w fun e w' => e = .returned (alphaReadR l) ∧ Below w.heap.size w w' := by
  have Hw := Lib.hid hw; clear hw
  have hb := asum_bd text
  rw [hs] at hb
  have Hsum : Hid (sumLR text = .tuple #[.int .i64 s, .bool true]) := by show _ = _; unfold sumLR; rw [if_pos hok, hs]
  have Hcut := Lib.hid hcut; have Hok := Lib.hid hok; have Hs := Lib.hid hs; clear hcut hok hs
  by_cases hr : 1 ≤ t + s ∧ t + s ≤ 9999
  · obtain ⟨r0, r1⟩ := hr
    have Hof : Hid (alphaOfR (t + s) = .tuple #[.string ⟨(aof (t + s).toNat).toArray⟩, .bool true]) := by show _ = _; unfold alphaOfR; rw [if_pos ⟨r0, r1⟩]
    have Hn := Lib.hid hsum; clear hsum
    have hlen := aof_len (t + s).toNat
    by_cases he : aof (t + s).toNat = l
    · have Hfin : Hid (alphaReadR l = .tuple #[.int .i64 (t + s), .bool true]) := by
        show _ = _
        unfold alphaReadR isA
        rw [← Hn.out, if_pos (by simp only [decide_eq_true_eq]; exact ⟨r0, r1, he⟩)]
      rw [he] at Hof
      clear he hlen
      go_enter Tryd.func20, Tryd.ntmps20
      go_wp2_with fail
      refine (cutThousands_any l _ Hw.out hl).mono ?_
      rw [Hcut.out]
      rintro e w1 ⟨rfl, g1⟩
      go_wp2_with fail
      refine (sumOfLetters_any text _ (Hw.out.step g1) ht).mono ?_
      rw [Hsum.out]
      rintro e w2 ⟨rfl, rfl⟩
      go_wp2_with fail
      refine (iAlphaOf_any (t + s) _ (Hw.out.step g1)).mono ?_
      rw [Hof.out]
      rintro e w2 ⟨rfl, rfl⟩
      go_wp2_with fail
      go_ret2
      exact ⟨ret_val Hfin.out.symm, g1⟩
    · have Hfin : Hid (alphaReadR l = .tuple #[.int .i64 0, .bool false]) := by
        show _ = _
        unfold alphaReadR isA
        rw [← Hn.out, if_neg (by simp only [decide_eq_true_eq]; exact fun h => he h.2.2)]
      generalize aof (t + s).toNat = L at *
      have Hne : (L == l) = false := by rw [beq_eq_false_iff_ne]; exact he
      clear he
      go_enter Tryd.func20, Tryd.ntmps20
      go_wp2_with fail
      refine (cutThousands_any l _ Hw.out hl).mono ?_
      rw [Hcut.out]
      rintro e w1 ⟨rfl, g1⟩
      go_wp2_with fail
      refine (sumOfLetters_any text _ (Hw.out.step g1) ht).mono ?_
      rw [Hsum.out]
      rintro e w2 ⟨rfl, rfl⟩
      go_wp2_with fail
      refine (iAlphaOf_any (t + s) _ (Hw.out.step g1)).mono ?_
      rw [Hof.out]
      rintro e w2 ⟨rfl, rfl⟩
      go_wp2_with fail
      go_ret2
      exact ⟨ret_val Hfin.out.symm, g1⟩
  · have Hof : Hid (alphaOfR (t + s) = .tuple #[.string ⟨#[]⟩, .bool false]) := by show _ = _; unfold alphaOfR; rw [if_neg hr]
    have Hfin : Hid (alphaReadR l = .tuple #[.int .i64 0, .bool false]) := by
      show _ = _
      unfold alphaReadR isA
      rw [← hsum, if_neg (by simp only [decide_eq_true_eq]; exact fun h => hr ⟨h.1, h.2.1⟩)]
    clear hsum hr
    go_enter Tryd.func20, Tryd.ntmps20
    go_wp2_with fail
    refine (cutThousands_any l _ Hw.out hl).mono ?_
    rw [Hcut.out]
    rintro e w1 ⟨rfl, g1⟩
    go_wp2_with fail
    refine (sumOfLetters_any text _ (Hw.out.step g1) ht).mono ?_
    rw [Hsum.out]
    rintro e w2 ⟨rfl, rfl⟩
    go_wp2_with fail
    refine (iAlphaOf_any (t + s) _ (Hw.out.step g1)).mono ?_
    rw [Hof.out]
    rintro e w2 ⟨rfl, rfl⟩
    go_wp2_with fail
    go_ret2
    exact ⟨ret_val Hfin.out.symm, g1⟩
theorem alphaReadR_no (l : List UInt8) (h : ¬ (okA l = true ∨ ∃ c r, l = 39 :: c :: r ∧ okA (c :: r) = true)) : alphaReadR l = .tuple #[.int .i64 0, .bool false] := by
  unfold alphaReadR
  rw [if_neg fun hix => h (isA_shape l hix)]
theorem iAlphaRead_any (l : List UInt8) (w : World) (hw : AT w) (hl : l.length ≤ 1048576) : Calls Tryd.prog 20 #[.string ⟨l.toArray⟩] w fun e w' => e = .returned (alphaReadR l) ∧ Below w.heap.size w w' := by
  obtain ⟨t, text, b, hcut, hfail, hon⟩ : ∃ (t : Int) (text : List UInt8) (b : Bool), cutR l = .tuple #[.int .i64 t, .string ⟨text.toArray⟩, .bool b] ∧ (b = false → alphaReadR l = .tuple #[.int .i64 0, .bool false]) ∧
      (b = true → text.length ≤ 1048576 ∧ 0 ≤ t ∧ t ≤ 900000 ∧ (okA text = true → t + asum text = rdA l) ∧ (okA text = false → alphaReadR l = .tuple #[.int .i64 0, .bool false])) := by
    match l with
    | [] => exact ⟨0, [], true, rfl, (fun h => by cases h), fun _ => ⟨by simp, by omega, by omega, fun _ => rfl, fun h => by cases h⟩⟩
    | c :: r =>
      by_cases hc : c = 39
      · subst hc
        match r with
        | [] => exact ⟨0, [], false, rfl, (fun _ => alphaReadR_no _ (by rintro (h | ⟨c, r, h, _⟩); · simp [okA, av] at h
                                                                        · cases h)), fun h => by cases h⟩
        | d :: q =>
          have hd := av_bd (d.toNat : Int)
          have hno : (¬ 0 < av (d.toNat : Int) ∨ okA q = false) → alphaReadR (39 :: d :: q) = .tuple #[.int .i64 0, .bool false] := by
            intro h
            refine alphaReadR_no _ ?_
            rintro (hix | ⟨c', r', hix, h''⟩)
            · rw [okA_cons] at hix
              revert hix
              simp [av]
            · cases hix
              rw [okA_cons, Bool.and_eq_true, decide_eq_true_eq] at h''
              rcases h with h | h
              · exact h h''.1
              · rw [h] at h''; cases h''.2
          by_cases hp : 0 < av (d.toNat : Int)
          · refine ⟨1000 * av (d.toNat : Int), q, true, by rw [cutR_two, if_pos hp], (fun h => by cases h), fun _ => ⟨by simp at hl; omega, by omega, by omega, fun hok => ?_, fun hok => hno (.inr hok)⟩⟩
            unfold rdA
            rw [th_two]
            simp only [asum, if_true]
            have : av ((39 : UInt8).toNat : Int) = 0 := by decide
            omega
          · exact ⟨0, [], false, by rw [cutR_two, if_neg hp], (fun _ => hno (.inl hp)), fun h => by cases h⟩
      · refine ⟨0, c :: r, true, cutR_other c r hc, (fun h => by cases h), fun _ => ⟨hl, by omega, by omega, fun hok => ?_, fun hok => alphaReadR_no _ ?_⟩⟩
        · unfold rdA
          rw [th_ok _ hok]
        · rintro (h | ⟨c', r', h, _⟩)
          · rw [hok] at h; cases h
          · cases h; exact hc rfl
  cases b with
  | true =>
    obtain ⟨h1, h2, h3, h4, h5⟩ := hon rfl
    cases hok : okA text with
    | true => exact iAlphaRead_on l text t _ w hw hl h1 hcut hok rfl (h4 hok) h2 h3
    | false =>
      rw [h5 hok]
      have Hw := Lib.hid hw; have Hcut := Lib.hid hcut
      have Hsum : Hid (sumLR text = .tuple #[.int .i64 0, .bool false]) := by show _ = _; unfold sumLR; rw [if_neg (by rw [hok]; simp)]
      clear hw hcut hfail hon h4 h5 hok
      go_enter Tryd.func20, Tryd.ntmps20
      go_wp2_with fail
      refine (cutThousands_any l _ Hw.out hl).mono ?_
      rw [Hcut.out]
      rintro e w1 ⟨rfl, g1⟩
      go_wp2_with fail
      refine (sumOfLetters_any text _ (Hw.out.step g1) h1).mono ?_
      rw [Hsum.out]
      rintro e w2 ⟨rfl, rfl⟩
      go_wp2_with fail
      go_ret2
      exact ⟨rfl, g1⟩
  | false =>
    rw [hfail rfl]
    have Hw := Lib.hid hw; have Hcut := Lib.hid hcut
    clear hw hcut hfail hon
    go_enter Tryd.func20, Tryd.ntmps20
    go_wp2_with fail
    refine (cutThousands_any l _ Hw.out hl).mono ?_
    rw [Hcut.out]
    rintro e w1 ⟨rfl, g1⟩
    go_wp2_with fail
    go_ret2
    exact ⟨rfl, g1⟩
/-- AlphaSum's answer -/
def alphaSumR (l : List UInt8) : Value := if 1 ≤ l.length ∧ l.length ≤ 20 ∧ okA l = true then .tuple #[.int .i64 (asum l), .bool true] else .tuple #[.int .i64 0, .bool false]
theorem iAlphaSum_any (l : List UInt8) (w : World) (hw : AT w) : Calls Tryd.prog 24 #[.string ⟨l.toArray⟩] w fun e w' => e = .returned (alphaSumR l) ∧ w = w' := by
  have Hw := Lib.hid hw; clear hw
  by_cases h : 1 ≤ l.length ∧ l.length ≤ 20
  · obtain ⟨h1, h2⟩ := h
    have Hfin : Hid (alphaSumR l = sumLR l) := by
      show _ = _
      unfold alphaSumR sumLR
      by_cases ho : okA l = true
      · rw [if_pos ⟨h1, h2, ho⟩, if_pos ho]
      · rw [if_neg (fun h => ho h.2.2), if_neg ho]
    obtain ⟨x, b, hx⟩ : ∃ (x : Int) (b : Bool), sumLR l = .tuple #[.int .i64 x, .bool b] := by
      unfold sumLR; split
      · exact ⟨_, _, rfl⟩
      · exact ⟨_, _, rfl⟩
    have Hx := Lib.hid hx
    rw [Hfin.out, hx]
    clear hx
    go_enter Tryd.func24, Tryd.ntmps24
    go_wp2_with fail
    refine (sumOfLetters_any l _ Hw.out (by omega)).mono ?_
    rw [Hx.out]
    rintro e w1 ⟨rfl, rfl⟩
    go_wp2_with fail
    go_ret2
    exact ⟨rfl, rfl⟩
  · have Hfin : Hid (alphaSumR l = .tuple #[.int .i64 0, .bool false]) := by
      show _ = _
      unfold alphaSumR
      rw [if_neg (fun hix => h ⟨hix.1, hix.2.1⟩)]
    by_cases h1 : l.length < 1
    · have hl : l.length = 0 := by omega
      clear h
      go_enter Tryd.func24, Tryd.ntmps24
      go_wp2_with fail
      go_ret2
      exact ⟨ret_val Hfin.out.symm, rfl⟩
    · have h2 : 20 < l.length := by omega
      clear h
      go_enter Tryd.func24, Tryd.ntmps24
      go_wp2_with fail
      go_ret2
      exact ⟨ret_val Hfin.out.symm, rfl⟩
/-- is it a word? -/
def isW (l : List UInt8) : Bool := decide (1 ≤ l.length ∧ l.length ≤ 20 ∧ okA l = true)
theorem alphaSumR_yes (l : List UInt8) (h : isW l = true) : alphaSumR l = .tuple #[.int .i64 (asum l), .bool true] := by unfold alphaSumR; rw [if_pos (of_decide_eq_true h)]
theorem alphaSumR_no (l : List UInt8) (h : isW l = false) : alphaSumR l = .tuple #[.int .i64 0, .bool false] := by unfold alphaSumR; rw [if_neg (of_decide_eq_false h)]
theorem isW_bd (l : List UInt8) (h : isW l = true) : 1 ≤ asum l ∧ asum l ≤ 18000 := by
  obtain ⟨h1, h2, h3⟩ := of_decide_eq_true h
  have := asum_pos l h3
  have := asum_bd l
  omega
/-- AlphaSame's answer -/
def sameB (v u : List UInt8) : Bool := isW v && (isW u && decide (asum v = asum u))
theorem iAlphaSame_any (v u : List UInt8) (w : World) (hw : AT w) : Calls Tryd.prog 26 #[.string ⟨v.toArray⟩, .string ⟨u.toArray⟩] w fun e w' => e = .returned (.bool (sameB v u)) ∧ w = w' := by
  have Hw := Lib.hid hw; clear hw
  unfold sameB
  cases hv : isW v with
  | false =>
    have Hv := Lib.hid (alphaSumR_no v hv); clear hv
    rw [Bool.false_and]
    go_enter Tryd.func26, Tryd.ntmps26
    go_wp2_with fail
    refine (iAlphaSum_any v _ Hw.out).mono ?_
    rw [Hv.out]
    rintro e w1 ⟨rfl, rfl⟩
    go_wp2_with fail
    go_ret
    exact ⟨rfl, rfl⟩
  | true =>
    have Hv := Lib.hid (alphaSumR_yes v hv); clear hv
    rw [Bool.true_and]
    generalize asum v = x at *
    cases hu : isW u with
    | false =>
      have Hu := Lib.hid (alphaSumR_no u hu); clear hu
      rw [Bool.false_and]
      go_enter Tryd.func26, Tryd.ntmps26
      go_wp2_with fail
      refine (iAlphaSum_any v _ Hw.out).mono ?_
      rw [Hv.out]
      rintro e w1 ⟨rfl, rfl⟩
      go_wp2_with fail
      refine (iAlphaSum_any u _ Hw.out).mono ?_
      rw [Hu.out]
      rintro e w1 ⟨rfl, rfl⟩
      go_wp2_with fail
      go_ret
      exact ⟨rfl, rfl⟩
    | true =>
      have Hu := Lib.hid (alphaSumR_yes u hu); clear hu
      rw [Bool.true_and]
      generalize asum u = y at *
      go_enter Tryd.func26, Tryd.ntmps26
      go_wp2_with fail
      refine (iAlphaSum_any v _ Hw.out).mono ?_
      rw [Hv.out]
      rintro e w1 ⟨rfl, rfl⟩
      go_wp2_with fail
      refine (iAlphaSum_any u _ Hw.out).mono ?_
      rw [Hu.out]
      rintro e w1 ⟨rfl, rfl⟩
      go_wp2_with fail
      go_ret
      exact ⟨congrArg (fun b => Ending.returned (.bool b)) (by rw [Bool.eq_iff_iff]; simp), rfl⟩
/-- AlphaNines' answer -/
def ninesR (l : List UInt8) : Value := if isW l = true then .tuple #[.int .i64 ((asum l - 1) % 9 + 1), .bool true] else .tuple #[.int .i64 0, .bool false]
theorem iAlphaNines_any (l : List UInt8) (w : World) (hw : AT w) : Calls Tryd.prog 28 #[.string ⟨l.toArray⟩] w fun e w' => e = .returned (ninesR l) ∧ w = w' := by
  have Hw := Lib.hid hw; clear hw
  unfold ninesR
  by_cases h : isW l = true
  · rw [if_pos h]
    have hb := isW_bd l h
    have Hv := Lib.hid (alphaSumR_yes l h); clear h
    generalize asum l = x at *
    go_enter Tryd.func28, Tryd.ntmps28
    go_wp2_with fail
    refine (iAlphaSum_any l _ Hw.out).mono ?_
    rw [Hv.out]
    rintro e w1 ⟨rfl, rfl⟩
    go_wp2_with fail
    go_ret2
    exact ⟨rfl, rfl⟩
  · rw [if_neg h]
    have Hv := Lib.hid (alphaSumR_no l (by simpa using h)); clear h
    go_enter Tryd.func28, Tryd.ntmps28
    go_wp2_with fail
    refine (iAlphaSum_any l _ Hw.out).mono ?_
    rw [Hv.out]
    rintro e w1 ⟨rfl, rfl⟩
    go_wp2_with fail
    go_ret2
    exact ⟨rfl, rfl⟩
/-- AlphaAdd's answer -/
def alphaAddR (s t : List UInt8) : Value := if isA s = true ∧ isA t = true then alphaOfR (rdA s + rdA t) else .tuple #[.string ⟨#[]⟩, .bool false]
theorem alphaReadR_yes (l : List UInt8) (h : isA l = true) : alphaReadR l = .tuple #[.int .i64 (rdA l), .bool true] := by unfold alphaReadR; rw [if_pos h]
theorem alphaReadR_not (l : List UInt8) (h : ¬ isA l = true) : alphaReadR l = .tuple #[.int .i64 0, .bool false] := by unfold alphaReadR; rw [if_neg h]
theorem alphaOfR_two (n : Int) : ∃ (s : ByteArray) (b : Bool), alphaOfR n = .tuple #[.string s, .bool b] := by
  unfold alphaOfR; split
  · exact ⟨_, _, rfl⟩
  · exact ⟨_, _, rfl⟩
theorem iAlphaAdd_any (s t : List UInt8) (w : World) (hw : AT w) (hs : s.length ≤ 1048576) (ht : t.length ≤ 1048576) : Calls Tryd.prog 18 #[.string ⟨s.toArray⟩, .string ⟨t.toArray⟩] w fun e w' => e = .returned (alphaAddR s t) ∧ Below w.heap.size w w' := by
  have Hw := Lib.hid hw; clear hw
  unfold alphaAddR
  by_cases h1 : isA s = true
  · by_cases h2 : isA t = true
    · rw [if_pos ⟨h1, h2⟩]
      have b1 := isA_of s h1
      have b2 := isA_of t h2
      have H1 := Lib.hid (alphaReadR_yes s h1); have H2 := Lib.hid (alphaReadR_yes t h2); clear h1 h2
      obtain ⟨b10, b11, _⟩ := b1
      obtain ⟨b20, b21, _⟩ := b2
      generalize rdA s = m at *
      generalize rdA t = n at *
      obtain ⟨x, b, hx⟩ := alphaOfR_two (m + n)
      have Hx := Lib.hid hx
      rw [hx]; clear hx
      go_enter Tryd.func18, Tryd.ntmps18
      go_wp2_with fail
      refine (iAlphaRead_any s _ Hw.out hs).mono ?_
      rw [H1.out]
      rintro e w1 ⟨rfl, g1⟩
      go_wp2_with fail
      refine (iAlphaRead_any t _ (Hw.out.step g1) ht).mono ?_
      rw [H2.out]
      rintro e w2 ⟨rfl, g2⟩
      go_wp2_with fail
      refine (iAlphaOf_any (m + n) _ ((Hw.out.step g1).step g2)).mono ?_
      rw [Hx.out]
      rintro e w3 ⟨rfl, rfl⟩
      go_wp2_with fail
      go_ret2
      exact ⟨rfl, bel_chain g1 g2⟩
    · rw [if_neg (fun h => h2 h.2)]
      have H1 := Lib.hid (alphaReadR_yes s h1); have H2 := Lib.hid (alphaReadR_not t h2); clear h1 h2
      go_enter Tryd.func18, Tryd.ntmps18
      go_wp2_with fail
      refine (iAlphaRead_any s _ Hw.out hs).mono ?_
      rw [H1.out]
      rintro e w1 ⟨rfl, g1⟩
      go_wp2_with fail
      refine (iAlphaRead_any t _ (Hw.out.step g1) ht).mono ?_
      rw [H2.out]
      rintro e w2 ⟨rfl, g2⟩
      go_wp2_with fail
      go_ret2
      exact ⟨rfl, bel_chain g1 g2⟩
  · rw [if_neg (fun h => h1 h.1)]
    have H1 := Lib.hid (alphaReadR_not s h1); clear h1
    go_enter Tryd.func18, Tryd.ntmps18
    go_wp2_with fail
    refine (iAlphaRead_any s _ Hw.out hs).mono ?_
    rw [H1.out]
    rintro e w1 ⟨rfl, g1⟩
    go_wp2_with fail
    go_ret2
    exact ⟨rfl, g1⟩
end Go.Proofs.YtdognkjpiineiaaDoor
