/- The draws of chapter 1 (package spec): what each law draws. -/
import Derived.Test.YthgagidpnnaajaaDoorDs
import Derived.Test.YthgagidpnnaajaaDoorLL
namespace Go.Proofs.YthgagidpnnaajaaDoor
open Go.RowKit
set_option linter.unusedVariables false
set_option maxRecDepth 100000
theorem l91Strict_any (r : Nat) (a : Option Addr) (len cap : Nat) (p : Nat) (w : World) (h : Rd w r a len cap p) (hp : p ≤ 800000) :
    Calls Tryd.prog 49 #[.pointer (some ⟨r, 0, none⟩)] w fun e w' => ∃ (x : ByteArray) (p' : Nat), x.size ≤ 300 ∧ e = .returned (.string x) ∧ Rd w' r a len cap p' ∧ p' ≤ p + 40 ∧ w.grownBy w' (some r) := by
  have H := Lib.hid h; clear h
  go_enter Tryd.func49, Tryd.ntmps49
  go_wp2_with fail
  refine (l91Small_any r a len cap p _ H.out (by omega)).mono ?_
  rintro e w1 ⟨n, p1, hn0, hn1, rfl, hr1, hp1, g1⟩
  have H1 := Lib.hid hr1; have G1 := Lib.hid g1; clear hr1 g1
  have c := sRomanOf_any n
  unfold romanOfR at c
  by_cases hn : 1 ≤ n ∧ n ≤ 3999
  · rw [if_pos hn] at c
    have hsl := strict_len n.toNat (by omega)
    generalize strict n.toNat = S at *
    have hsz : (⟨S.toArray⟩ : ByteArray).size ≤ 300 := by
      have e : (⟨S.toArray⟩ : ByteArray).size = S.length := by show S.toArray.size = S.length; simp
      omega
    have Hsz := Lib.hid hsz
    have C := Lib.hid c; clear c hn hsz
    go_wp2_with fail
    refine (C.out _).mono ?_
    rintro e w2 ⟨rfl, g2⟩
    have H2 := Lib.hid (H1.out.below g2); have G2 := Lib.hid (grown_trans G1.out (grown_of_below r g2)); clear g2
    go_wp2_with fail
    refine (pick_any r a len cap p1 _ _ H2.out (by omega) (by omega) (by omega)).mono ?_
    rintro e w3 ⟨x, hx0, hx1, rfl, hr3, g3⟩
    have H3 := Lib.hid hr3; have G3 := Lib.hid (grown_trans G2.out g3); clear hr3 g3
    by_cases hx : x = 0
    · subst hx
      go_wp2_with fail
      refine (l91Loose_any r a len cap _ _ H3.out (by omega)).mono ?_
      rintro e w4 ⟨y, p4, hy, rfl, hr4, hp4, g4⟩
      have H4 := Lib.hid hr4; have G4 := Lib.hid (grown_trans G3.out g4); clear hr4 g4
      go_wp2_with fail
      go_ret
      exact ⟨y, p4, hy, rfl, H4.out, by omega, G4.out⟩
    · go_wp2_with fail
      go_ret
      exact ⟨_, _, Hsz.out, rfl, H3.out, by omega, G3.out⟩
  · rw [if_neg hn] at c
    have C := Lib.hid c; clear c hn
    go_wp2_with fail
    refine (C.out _).mono ?_
    rintro e w2 ⟨rfl, g2⟩
    have H2 := Lib.hid (H1.out.below g2); have G2 := Lib.hid (grown_trans G1.out (grown_of_below r g2)); clear g2
    go_wp2_with fail
    refine (l91Loose_any r a len cap _ _ H2.out (by omega)).mono ?_
    rintro e w4 ⟨y, p4, hy, rfl, hr4, hp4, g4⟩
    have H4 := Lib.hid hr4; have G4 := Lib.hid (grown_trans G2.out g4); clear hr4 g4
    go_wp2_with fail
    go_ret
    exact ⟨y, p4, hy, rfl, H4.out, by omega, G4.out⟩
theorem draw_of (a : Option Addr) (len cap : Nat) (zs : List Int) (w : World) (h : IsRow .u8 w a len cap zs) :
    Calls Tryd.prog 15 #[.slice a len cap] w fun e w' => ∃ x : Int, 0 ≤ x ∧ x ≤ 4000 ∧ e = .returned (.int .i64 x) ∧ Below w.heap.size w w' := by
  have H := Lib.hid h; clear h
  go_enter Tryd.func15, Tryd.ntmps15
  go_wp2_with fail
  refine (l91One_any a len cap zs _ H.out).mono ?_
  rintro e w1 ⟨x, hx0, hx1, rfl, g1⟩
  go_wp2_with fail
  go_ret
  exact ⟨x, hx0, hx1, rfl, g1⟩
theorem draw_piled (a : Option Addr) (len cap : Nat) (zs : List Int) (w : World) (h : IsRow .u8 w a len cap zs) :
    Calls Tryd.prog 30 #[.slice a len cap] w fun e w' => ∃ x : Int, 0 ≤ x ∧ x ≤ 4000 ∧ e = .returned (.int .i64 x) ∧ Below w.heap.size w w' := by
  have H := Lib.hid h; clear h
  go_enter Tryd.func30, Tryd.ntmps30
  go_wp2_with fail
  refine (l91One_any a len cap zs _ H.out).mono ?_
  rintro e w1 ⟨x, hx0, hx1, rfl, g1⟩
  go_wp2_with fail
  go_ret
  exact ⟨x, hx0, hx1, rfl, g1⟩
theorem draw_short (a : Option Addr) (len cap : Nat) (zs : List Int) (w : World) (h : IsRow .u8 w a len cap zs) :
    Calls Tryd.prog 24 #[.slice a len cap] w fun e w' => ∃ x : Int, 0 ≤ x ∧ x ≤ 4000 ∧ e = .returned (.int .i64 x) ∧ Below w.heap.size w w' := by
  have H := Lib.hid h; clear h
  go_enter Tryd.func24, Tryd.ntmps24
  go_wp2_with fail
  refine (l91One_any a len cap zs _ H.out).mono ?_
  rintro e w1 ⟨x, hx0, hx1, rfl, g1⟩
  go_wp2_with fail
  go_ret
  exact ⟨x, hx0, hx1, rfl, g1⟩
theorem draw_loose (a : Option Addr) (len cap : Nat) (zs : List Int) (w : World) (h : IsRow .u8 w a len cap zs) :
    Calls Tryd.prog 20 #[.slice a len cap] w fun e w' => ∃ l : List UInt8, l.length ≤ 300 ∧ e = .returned (.string ⟨l.toArray⟩) ∧ Below w.heap.size w w' := by
  have H := Lib.hid h; clear h
  go_enter Tryd.func20, Tryd.ntmps20
  go_wp2_with fail
  refine (l6Open_any a len cap zs _ H.out).mono ?_
  rintro e w1 ⟨a', l, c, rfl, hr, g1⟩
  have H1 := Lib.hid hr; clear hr
  go_wp2_with fail
  refine (l91Loose_any _ a' l c 0 _ H1.out (by omega)).mono ?_
  rintro e w2 ⟨x, p', hx, rfl, hr2, hp', g2⟩
  obtain ⟨l, rfl⟩ := as_list x
  have e : (⟨l.toArray⟩ : ByteArray).size = l.length := by show l.toArray.size = l.length; simp
  rw [e] at hx
  clear hr2 e
  go_wp2_with fail
  go_ret
  exact ⟨l, hx, rfl, bel_grown g1 g2 g1.size (Nat.le_refl _)⟩
theorem draw_strict (a : Option Addr) (len cap : Nat) (zs : List Int) (w : World) (h : IsRow .u8 w a len cap zs) :
    Calls Tryd.prog 22 #[.slice a len cap] w fun e w' => ∃ l : List UInt8, l.length ≤ 300 ∧ e = .returned (.string ⟨l.toArray⟩) ∧ Below w.heap.size w w' := by
  have H := Lib.hid h; clear h
  go_enter Tryd.func22, Tryd.ntmps22
  go_wp2_with fail
  refine (l6Open_any a len cap zs _ H.out).mono ?_
  rintro e w1 ⟨a', l, c, rfl, hr, g1⟩
  have H1 := Lib.hid hr; clear hr
  go_wp2_with fail
  refine (l91Strict_any _ a' l c 0 _ H1.out (by omega)).mono ?_
  rintro e w2 ⟨x, p', hx, rfl, hr2, hp', g2⟩
  obtain ⟨l, rfl⟩ := as_list x
  have e : (⟨l.toArray⟩ : ByteArray).size = l.length := by show l.toArray.size = l.length; simp
  rw [e] at hx
  clear hr2 e
  go_wp2_with fail
  go_ret
  exact ⟨l, hx, rfl, bel_grown g1 g2 g1.size (Nat.le_refl _)⟩
theorem draw_add (a : Option Addr) (len cap : Nat) (zs : List Int) (w : World) (h : IsRow .u8 w a len cap zs) :
    Calls Tryd.prog 27 #[.slice a len cap] w fun e w' => ∃ l k : List UInt8, l.length ≤ 300 ∧ k.length ≤ 300 ∧ e = .returned (.tuple #[.string ⟨l.toArray⟩, .string ⟨k.toArray⟩]) ∧ Below w.heap.size w w' := by
  have H := Lib.hid h; clear h
  go_enter Tryd.func27, Tryd.ntmps27
  go_wp2_with fail
  refine (l6Open_any a len cap zs _ H.out).mono ?_
  rintro e w1 ⟨a', l, c, rfl, hr, g1⟩
  have H1 := Lib.hid hr; clear hr
  go_wp2_with fail
  refine (l91Strict_any _ a' l c 0 _ H1.out (by omega)).mono ?_
  rintro e w2 ⟨x, p', hx, rfl, hr2, hp', g2⟩
  have H2 := Lib.hid hr2
  have G2 := Lib.hid (bel_grown g1 g2 g1.size (Nat.le_refl _)); clear hr2 g1 g2
  go_wp2_with fail
  refine (l91Strict_any _ a' l c p' _ H2.out (by omega)).mono ?_
  rintro e w3 ⟨y, p3, hy, rfl, hr3, hp3, g3⟩
  have G3 := Lib.hid (bel_grown G2.out g3 G2.out.size (Nat.le_refl _)); clear hr3 g3
  obtain ⟨l, rfl⟩ := as_list x
  obtain ⟨k, rfl⟩ := as_list y
  have e : ∀ l : List UInt8, (⟨l.toArray⟩ : ByteArray).size = l.length := fun l => by show l.toArray.size = l.length; simp
  rw [e] at hx hy
  clear e
  go_wp2_with fail
  go_ret2
  exact ⟨l, k, hx, hy, rfl, G3.out⟩
end Go.Proofs.YthgagidpnnaajaaDoor
