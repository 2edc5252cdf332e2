/- The law FnAlphaSame: its draw and its walk. -/
import Derived.Test.YtdognkjpiineiaaDoorAG
import Derived.Test.YtdognkjpiineiaaDoorAY
namespace Go.Proofs.YtdognkjpiineiaaDoor
open Go.RowKit
set_option linter.unusedVariables false
set_option maxRecDepth 100000
theorem leastR_two (n : Int) : ∃ (x : ByteArray) (b : Bool), leastR n = .tuple #[.string x, .bool b] ∧ x.size ≤ 300 := by
  unfold leastR
  split
  · rename_i h
    refine ⟨_, _, rfl, ?_⟩
    rw [size_bytes, (least_facts n.toNat).2.2]
    have := few_five n.toNat (by omega)
    omega
  · exact ⟨_, _, rfl, by decide⟩
theorem drawAlphaSame_any (a : Option Addr) (len cap : Nat) (zs : List Int) (w : World) (h : IsRow .u8 w a len cap zs) :
    Calls Tryd.prog 25 #[.slice a len cap] w fun e w' => ∃ x y : ByteArray, x.size ≤ 300 ∧ y.size ≤ 300 ∧ e = .returned (.tuple #[.string x, .string y]) ∧ Below w.heap.size w w' := by
  have H := Lib.hid h; clear h
  go_enter Tryd.func25, Tryd.ntmps25
  go_wp2_with fail
  refine (l6Open_any a len cap zs _ H.out).mono ?_
  rintro e w1 ⟨a', l, c, rfl, hr, g1⟩
  have H1 := Lib.hid hr; clear hr
  go_wp2_with fail
  refine (l91Word_any _ a' l c 0 _ H1.out (by omega)).mono ?_
  rintro e w2 ⟨x, p', hx, rfl, hr2, hp', g2⟩
  have H2 := Lib.hid hr2; have G2 := Lib.hid g2; clear hr2 g2
  obtain ⟨xl, rfl⟩ := as_bytes x
  obtain ⟨n, b, hn⟩ := alphaSumR_two xl
  have Hn := Lib.hid hn; clear hn
  go_wp2_with fail
  refine (sAlphaSum_any xl _).mono ?_
  rw [Hn.out]
  rintro e w3 ⟨rfl, rfl⟩
  obtain ⟨y, f, hy, hys⟩ := leastR_two n
  have Hy := Lib.hid hy; clear hy
  go_wp2_with fail
  refine (sAlphaLeast_any n _).mono ?_
  rw [Hy.out]
  rintro e w4 ⟨rfl, g4⟩
  have H4 := Lib.hid (H2.out.below g4); have G4 := Lib.hid (grown_trans G2.out (grown_of_below w.heap.size g4)); clear g4
  cases b with
  | false =>
    go_wp2_with fail
    refine (l91Word_any _ a' l c p' _ H4.out (by omega)).mono ?_
    rintro e w5 ⟨z, p5, hz, rfl, hr5, hp5, g5⟩
    go_wp2_with fail
    go_ret2
    exact ⟨_, z, hx, hz, rfl, bel_grown g1 (grown_trans G4.out g5) g1.size (Nat.le_refl _)⟩
  | true =>
    cases f with
    | false =>
      go_wp2_with fail
      refine (l91Word_any _ a' l c p' _ H4.out (by omega)).mono ?_
      rintro e w5 ⟨z, p5, hz, rfl, hr5, hp5, g5⟩
      go_wp2_with fail
      go_ret2
      exact ⟨_, z, hx, hz, rfl, bel_grown g1 (grown_trans G4.out g5) g1.size (Nat.le_refl _)⟩
    | true =>
      go_wp2_with fail
      refine (pick_any _ a' l c p' _ _ H4.out (by omega) (by omega) (by omega)).mono ?_
      rintro e w5 ⟨u, hu0, hu1, rfl, hr5, g5⟩
      have H5 := Lib.hid hr5; have G5 := Lib.hid (grown_trans G4.out g5); clear hr5 g5
      by_cases hu : 0 < u
      · go_wp2_with fail
        go_ret2
        exact ⟨_, y, hx, hys, rfl, bel_grown g1 G5.out g1.size (Nat.le_refl _)⟩
      · go_wp2_with fail
        refine (l91Word_any _ a' l c _ _ H5.out (by omega)).mono ?_
        rintro e w6 ⟨z, p5, hz, rfl, hr6, hp6, g6⟩
        go_wp2_with fail
        go_ret2
        exact ⟨_, z, hx, hz, rfl, bel_grown g1 (grown_trans G5.out g6) g1.size (Nat.le_refl _)⟩
theorem wFnAlphaSame (a : Option Addr) (len cap : Nat) (zs : List Int) (w : World) (h : IsRow .u8 w a len cap zs) (hl : AT w) :
    Calls Tryd.prog 5 #[.slice a len cap] w fun e w' => e = .returned (.bool true) ∧ Below w.heap.size w w' := by
  have H := Lib.hid h; have HL := Lib.hid hl; clear h hl
  by_cases hbig : 1048576 < len
  · go_enter Tryd.func5, Tryd.ntmps5
    go_wp2_with fail
    go_ret
    exact ⟨rfl, Below.refl _ _⟩
  · go_enter Tryd.func5, Tryd.ntmps5
    go_wp2_with fail
    refine (drawAlphaSame_any a len cap zs _ H.out).mono ?_
    rintro e w1 ⟨s, t, hs, ht, rfl, g1⟩
    obtain ⟨l, rfl⟩ := as_bytes s
    obtain ⟨k, rfl⟩ := as_bytes t
    have HL1 := Lib.hid (HL.out.step g1)
    cases hb : sameB l k with
    | true =>
      have Hb := Lib.hid hb
      have hb' := hb
      unfold sameB at hb'
      rw [Bool.and_eq_true, Bool.and_eq_true, decide_eq_true_eq] at hb'
      obtain ⟨h1, h2, h3⟩ := hb'
      have Hb2 : Hid (sameB k l = true) := by
        show _ = _
        unfold sameB
        rw [h1, h2, h3]; simp
      have Hn1 : Hid (ninesR l = .tuple #[.int .i64 ((asum l - 1) % 9 + 1), .bool true]) := by show _ = _; unfold ninesR; rw [if_pos h1]
      have Hn2 : Hid (ninesR k = .tuple #[.int .i64 ((asum l - 1) % 9 + 1), .bool true]) := by show _ = _; unfold ninesR; rw [if_pos h2, h3]
      generalize (asum l - 1) % 9 + 1 = x at *
      clear hb h1 h2 h3
      go_wp2_with fail
      refine (iAlphaSame_any l k _ HL1.out).mono ?_
      rw [Hb.out]
      rintro e w2 ⟨rfl, rfl⟩
      go_wp2_with fail
      refine (sAlphaSame_any l k _).mono ?_
      rw [Hb.out]
      rintro e w2 ⟨rfl, rfl⟩
      go_wp2_with fail
      refine (iAlphaNines_any l _ HL1.out).mono ?_
      rw [Hn1.out]
      rintro e w2 ⟨rfl, rfl⟩
      go_wp2_with fail
      refine (iAlphaNines_any k _ HL1.out).mono ?_
      rw [Hn2.out]
      rintro e w2 ⟨rfl, rfl⟩
      go_wp2_with fail
      refine (iAlphaSame_any k l _ HL1.out).mono ?_
      rw [Hb2.out]
      rintro e w2 ⟨rfl, rfl⟩
      go_wp2_with fail
      go_ret
      exact ⟨rfl, g1⟩
    | false =>
      have Hb := Lib.hid hb; clear hb
      go_wp2_with fail
      refine (iAlphaSame_any l k _ HL1.out).mono ?_
      rw [Hb.out]
      rintro e w2 ⟨rfl, rfl⟩
      go_wp2_with fail
      refine (sAlphaSame_any l k _).mono ?_
      rw [Hb.out]
      rintro e w2 ⟨rfl, rfl⟩
      go_wp2_with fail
      go_ret
      exact ⟨rfl, g1⟩
end Go.Proofs.YtdognkjpiineiaaDoor
