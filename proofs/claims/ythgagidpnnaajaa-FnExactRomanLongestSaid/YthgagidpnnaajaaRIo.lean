/- The program's RomanOf, RomanPiled, RomanLongest. -/
import Derived.Test.YthgagidpnnaajaaRIj
namespace Go.Proofs.Ythgagidpnnaajaa
open Go.RowKit
set_option linter.unusedVariables false
set_option maxRecDepth 100000
theorem strictP_ok : ∀ p ∈ strictP, 1 ≤ p.2 ∧ p.2 ≤ 10000 ∧ p.1.length ≤ 2 := by decide
theorem addedP_ok : ∀ p ∈ addedP, 1 ≤ p.2 ∧ p.2 ≤ 10000 ∧ p.1.length ≤ 2 := by decide
theorem joinStrict_any (b : Nat) (n : Int) (w : World) (h0 : 0 ≤ n) (hn : n ≤ 3999) (hp : Pieces w b strictP) :
    Calls Try.prog 17 #[.int .i64 n, .slice (some ⟨b, 0, none⟩) 13 13] w fun e w' => e = .returned (.string ⟨(strict n.toNat).toArray⟩) ∧ Below w.heap.size w w' := by
  obtain ⟨k, rfl⟩ := Int.eq_ofNat_of_zero_le h0
  rw [Int.toNat_natCast, ← take_strict k (by omega)]
  exact joinPieces_any strictP b k w (by omega) hp (by decide) strictP_ok
theorem joinAdded_any (b : Nat) (n : Int) (w : World) (h0 : 0 ≤ n) (hn : n ≤ 3999) (hp : Pieces w b addedP) :
    Calls Try.prog 17 #[.int .i64 n, .slice (some ⟨b, 0, none⟩) 7 7] w fun e w' => e = .returned (.string ⟨(piled n.toNat).toArray⟩) ∧ Below w.heap.size w w' := by
  obtain ⟨k, rfl⟩ := Int.eq_ofNat_of_zero_le h0
  exact joinPieces_any addedP b k w (by omega) hp (by decide) addedP_ok
/-- RomanOf's answer -/
def romanOfR (n : Int) : Value := if 1 ≤ n ∧ n ≤ 3999 then .tuple #[.string ⟨(strict n.toNat).toArray⟩, .bool true] else .tuple #[.string ⟨#[]⟩, .bool false]
def romanPiledR (n : Int) : Value := if 1 ≤ n ∧ n ≤ 3999 then .tuple #[.string ⟨(piled n.toNat).toArray⟩, .bool true] else .tuple #[.string ⟨#[]⟩, .bool false]
def romanLongestR (n : Int) : Value := if 1 ≤ n ∧ n ≤ 3999 then .tuple #[.int .i64 (best strictLen n.toNat : Nat), .bool true] else .tuple #[.int .i64 0, .bool false]
theorem iRomanOf_yes (n : Int) (w : World) (h1 : 1 ≤ n) (h2 : n ≤ 3999) : Calls Try.prog 10 #[.int .i64 n] w fun e w' => e = .returned (.tuple #[.string ⟨(strict n.toNat).toArray⟩, .bool true]) ∧ Below w.heap.size w w' := by
  go_enter Try.func10, Try.ntmps10
  go_wp2_with fail
  refine (hasRoman_any _ _).mono ?_
  rintro e w1 ⟨rfl, rfl⟩
  rw [show (decide (1 ≤ n ∧ n ≤ 3999)) = true from decide_eq_true ⟨h1, h2⟩]
  go_wp2_with fail
  refine (strictPieces_any _).mono ?_
  rintro e w1 ⟨rfl, hp, g1⟩
  go_wp2_with fail
  refine (joinStrict_any _ _ _ (by omega) h2 hp).mono ?_
  rintro e w2 ⟨rfl, g2⟩
  go_wp2_with fail
  go_ret2
  exact ⟨rfl, bel_chain g1 g2⟩
theorem iRomanOf_no (n : Int) (w : World) (h : ¬ (1 ≤ n ∧ n ≤ 3999)) : Calls Try.prog 10 #[.int .i64 n] w fun e w' => e = .returned (.tuple #[.string ⟨#[]⟩, .bool false]) ∧ Below w.heap.size w w' := by
  have H := Lib.hid h; clear h
  go_enter Try.func10, Try.ntmps10
  go_wp2_with fail
  refine (hasRoman_any _ _).mono ?_
  rintro e w1 ⟨rfl, rfl⟩
  rw [show (decide (1 ≤ n ∧ n ≤ 3999)) = false from decide_eq_false H.out]
  go_wp2_with fail
  go_ret2
  exact ⟨rfl, Below.refl _ _⟩
theorem iRomanOf_any (n : Int) (w : World) : Calls Try.prog 10 #[.int .i64 n] w fun e w' => e = .returned (romanOfR n) ∧ Below w.heap.size w w' := by
  unfold romanOfR
  by_cases h : 1 ≤ n ∧ n ≤ 3999
  · rw [if_pos h]; exact iRomanOf_yes n w h.1 h.2
  · rw [if_neg h]; exact iRomanOf_no n w h
theorem iRomanPiled_any (n : Int) (w : World) : Calls Try.prog 13 #[.int .i64 n] w fun e w' => e = .returned (romanPiledR n) ∧ Below w.heap.size w w' := by
  unfold romanPiledR
  by_cases h : 1 ≤ n ∧ n ≤ 3999
  · rw [if_pos h]
    obtain ⟨h1, h2⟩ := h
    go_enter Try.func13, Try.ntmps13
    go_wp2_with fail
    refine (hasRoman_any _ _).mono ?_
    rintro e w1 ⟨rfl, rfl⟩
    rw [show (decide (1 ≤ n ∧ n ≤ 3999)) = true from decide_eq_true ⟨h1, h2⟩]
    go_wp2_with fail
    refine (addedPieces_any _).mono ?_
    rintro e w1 ⟨rfl, hp, g1⟩
    go_wp2_with fail
    refine (joinAdded_any _ _ _ (by omega) h2 hp).mono ?_
    rintro e w2 ⟨rfl, g2⟩
    go_wp2_with fail
    go_ret2
    exact ⟨rfl, bel_chain g1 g2⟩
  · rw [if_neg h]
    have H := Lib.hid h; clear h
    go_enter Try.func13, Try.ntmps13
    go_wp2_with fail
    refine (hasRoman_any _ _).mono ?_
    rintro e w1 ⟨rfl, rfl⟩
    rw [show (decide (1 ≤ n ∧ n ≤ 3999)) = false from decide_eq_false H.out]
    go_wp2_with fail
    go_ret2
    exact ⟨rfl, Below.refl _ _⟩
end Go.Proofs.Ythgagidpnnaajaa
