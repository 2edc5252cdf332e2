/- The laws FnExactRomanLoose, FnExactRomanStrict, FnExactRomanAdd: their walks. -/
import Derived.Test.YthgagidpnnaajaaDoorSV
namespace Go.Proofs.YthgagidpnnaajaaDoor
open Go.RowKit
set_option linter.unusedVariables false
set_option maxRecDepth 100000
theorem wFnExactRomanLoose (s : ByteArray) (w : World) (ws : s.size ≤ maxLen) (hl : LV w) :
    Calls Tryd.prog 10 #[.string s] w fun e w' => e = .returned (.bool true) ∧ Below w.heap.size w w' := by
  obtain ⟨l, rfl⟩ := as_list s
  have hsz : (⟨l.toArray⟩ : ByteArray).size = l.length := by show l.toArray.size = l.length; simp
  rw [hsz] at ws
  clear hsz
  unfold maxLen at ws
  have c1 := sRomanLoose_any l w ws
  have c2 := iRomanLoose_any l w hl
  clear hl
  unfold looseR at c1 c2
  by_cases hbig : 1048576 < l.length
  · clear c1 c2
    go_enter Tryd.func10, Tryd.ntmps10
    go_wp2_with fail
    go_ret
    exact ⟨rfl, Below.refl _ _⟩
  · by_cases h1 : 1 ≤ l.length ∧ l.length ≤ 16 ∧ okL l = true
    · rw [if_pos h1] at c1 c2
      have C1 := Lib.hid c1; have C2 := Lib.hid c2; clear c1 c2 h1
      generalize looseL l = n at *
      go_enter Tryd.func10, Tryd.ntmps10
      go_wp2_with fail
      refine C1.out.mono ?_
      rintro e w1 ⟨rfl, rfl⟩
      go_wp2_with fail
      refine C2.out.mono ?_
      rintro e w1 ⟨rfl, g1⟩
      go_wp2_with fail
      go_ret
      exact ⟨rfl, g1⟩
    · rw [if_neg h1] at c1 c2
      have C1 := Lib.hid c1; have C2 := Lib.hid c2; clear c1 c2 h1
      go_enter Tryd.func10, Tryd.ntmps10
      go_wp2_with fail
      refine C1.out.mono ?_
      rintro e w1 ⟨rfl, rfl⟩
      go_wp2_with fail
      refine C2.out.mono ?_
      rintro e w1 ⟨rfl, g1⟩
      go_wp2_with fail
      go_ret
      exact ⟨rfl, g1⟩
theorem wFnExactRomanStrict (s : ByteArray) (w : World) (ws : s.size ≤ maxLen) (hl : LV w) :
    Calls Tryd.prog 11 #[.string s] w fun e w' => e = .returned (.bool true) ∧ Below w.heap.size w w' := by
  obtain ⟨l, rfl⟩ := as_list s
  have hsz : (⟨l.toArray⟩ : ByteArray).size = l.length := by show l.toArray.size = l.length; simp
  rw [hsz] at ws
  clear hsz
  unfold maxLen at ws
  have c1 := sRomanStrict_any l w ws
  have HL := Lib.hid hl; clear hl
  by_cases hbig : 1048576 < l.length
  · clear c1
    go_enter Tryd.func11, Tryd.ntmps11
    go_wp2_with fail
    go_ret
    exact ⟨rfl, Below.refl _ _⟩
  · have C1 := Lib.hid c1; clear c1
    have C2 := Lib.hid (iRomanStrict_any l)
    generalize strictB l = b at *
    go_enter Tryd.func11, Tryd.ntmps11
    go_wp2_with fail
    refine C1.out.mono ?_
    rintro e w1 ⟨rfl, g1⟩
    go_wp2_with fail
    refine (C2.out _ (HL.out.step g1)).mono ?_
    rintro e w2 ⟨rfl, g2⟩
    cases b
    · go_wp2_with fail
      go_ret
      exact ⟨rfl, bel_chain g1 g2⟩
    · go_wp2_with fail
      go_ret
      exact ⟨rfl, bel_chain g1 g2⟩
theorem wFnExactRomanAdd (s t : ByteArray) (w : World) (ws : s.size ≤ maxLen) (wt : t.size ≤ maxLen) (hl : LV w) :
    Calls Tryd.prog 13 #[.string s, .string t] w fun e w' => e = .returned (.bool true) ∧ Below w.heap.size w w' := by
  obtain ⟨l, rfl⟩ := as_list s
  obtain ⟨k, rfl⟩ := as_list t
  have hsz : ∀ l : List UInt8, (⟨l.toArray⟩ : ByteArray).size = l.length := fun l => by show l.toArray.size = l.length; simp
  rw [hsz] at ws wt
  clear hsz
  unfold maxLen at ws wt
  have c1 := sRomanAdd_any l k w ws wt
  have HL := Lib.hid hl; clear hl
  by_cases hbig : 1048576 < l.length
  · clear c1
    go_enter Tryd.func13, Tryd.ntmps13
    go_wp2_with fail
    go_ret
    exact ⟨rfl, Below.refl _ _⟩
  by_cases hbig2 : 1048576 < k.length
  · clear c1
    go_enter Tryd.func13, Tryd.ntmps13
    go_wp2_with fail
    go_ret
    exact ⟨rfl, Below.refl _ _⟩
  · have c2 := iRomanAdd_any l k
    obtain ⟨x, b, hx⟩ : ∃ x b, addR l k = .tuple #[.string x, .bool b] := by
      unfold addR romanOfR
      repeat (first | exact ⟨_, _, rfl⟩ | split)
    rw [hx] at c1 c2
    clear hx
    have C1 := Lib.hid c1; have C2 := Lib.hid c2; clear c1 c2
    go_enter Tryd.func13, Tryd.ntmps13
    go_wp2_with fail
    refine C1.out.mono ?_
    rintro e w1 ⟨rfl, g1⟩
    go_wp2_with fail
    refine (C2.out _ (HL.out.step g1)).mono ?_
    rintro e w2 ⟨rfl, g2⟩
    cases b
    · go_wp2_with fail
      go_ret
      exact ⟨rfl, bel_chain g1 g2⟩
    · go_wp2_with fail
      go_ret
      exact ⟨rfl, bel_chain g1 g2⟩
end Go.Proofs.YthgagidpnnaajaaDoor
