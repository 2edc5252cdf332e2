/- The exact laws of chapter 3 but AlphaLeast's: their walks (printed by gena.py). -/
import Derived.Test.YtdognkjpiineiaaDoorAT
namespace Go.Proofs.YtdognkjpiineiaaDoor
open Go.RowKit
set_option linter.unusedVariables false
set_option maxRecDepth 100000
theorem as_bytes (s : ByteArray) : ∃ l : List UInt8, s = ⟨l.toArray⟩ := ⟨s.data.toList, by cases s; simp⟩
theorem size_bytes (l : List UInt8) : (⟨l.toArray⟩ : ByteArray).size = l.length := by show l.toArray.size = l.length; simp
theorem alphaSumR_two (l : List UInt8) : ∃ (x : Int) (b : Bool), alphaSumR l = .tuple #[.int .i64 x, .bool b] := by
  unfold alphaSumR; split
  · exact ⟨_, _, rfl⟩
  · exact ⟨_, _, rfl⟩
theorem ninesR_two (l : List UInt8) : ∃ (x : Int) (b : Bool), ninesR l = .tuple #[.int .i64 x, .bool b] := by
  unfold ninesR; split
  · exact ⟨_, _, rfl⟩
  · exact ⟨_, _, rfl⟩
theorem alphaReadR_two (l : List UInt8) : ∃ (x : Int) (b : Bool), alphaReadR l = .tuple #[.int .i64 x, .bool b] := by
  obtain ⟨n, b, h, _⟩ := readR_two l
  exact ⟨n, b, h⟩
theorem alphaAddR_two (s t : List UInt8) : ∃ (x : ByteArray) (b : Bool), alphaAddR s t = .tuple #[.string x, .bool b] := by
  unfold alphaAddR; split
  · exact alphaOfR_two _
  · exact ⟨_, _, rfl⟩
theorem wFnExactAlphaOf (n : Int) (w : World) (wn : (Lit.int .i64 n).wf = true) (hl : AT w) :
    Calls Tryd.prog 9 #[.int .i64 n] w fun e w' => e = .returned (.bool true) ∧ Below w.heap.size w w' := by
  have HL := Lib.hid hl; clear hl
  obtain ⟨x, b, hx⟩ := alphaOfR_two n
  have Hx := Lib.hid hx; clear hx
  go_enter Tryd.func9, Tryd.ntmps9
  go_wp2_with fail
  refine (sAlphaOf_any n _).mono ?_
  rw [Hx.out]
  rintro e w1 ⟨rfl, g1⟩
  go_wp2_with fail
  refine (iAlphaOf_any n _ (HL.out.step g1)).mono ?_
  rw [Hx.out]
  rintro e w2 ⟨rfl, rfl⟩
  cases b
  · go_wp2_with fail
    go_ret
    exact ⟨rfl, g1⟩
  · go_wp2_with fail
    go_ret
    exact ⟨rfl, g1⟩
theorem wFnExactAlphaRead (s : ByteArray) (w : World) (ws : s.size ≤ maxLen) (hl : AT w) :
    Calls Tryd.prog 10 #[.string s] w fun e w' => e = .returned (.bool true) ∧ Below w.heap.size w w' := by
  obtain ⟨l, rfl⟩ := as_bytes s
  rw [size_bytes] at ws
  unfold maxLen at ws
  have HL := Lib.hid hl; clear hl
  by_cases bl : 1048576 < l.length
  · go_enter Tryd.func10, Tryd.ntmps10
    go_wp2_with fail
    go_ret
    exact ⟨rfl, Below.refl _ _⟩
  obtain ⟨x, b, hx⟩ := alphaReadR_two l
  have Hx := Lib.hid hx; clear hx
  go_enter Tryd.func10, Tryd.ntmps10
  go_wp2_with fail
  refine (sAlphaRead_any l _ (by omega)).mono ?_
  rw [Hx.out]
  rintro e w1 ⟨rfl, g1⟩
  go_wp2_with fail
  refine (iAlphaRead_any l _ (HL.out.step g1) (by omega)).mono ?_
  rw [Hx.out]
  rintro e w2 ⟨rfl, g2⟩
  cases b
  · go_wp2_with fail
    go_ret
    exact ⟨rfl, bel_chain g1 g2⟩
  · go_wp2_with fail
    go_ret
    exact ⟨rfl, bel_chain g1 g2⟩
theorem wFnExactAlphaSum (s : ByteArray) (w : World) (ws : s.size ≤ maxLen) (hl : AT w) :
    Calls Tryd.prog 12 #[.string s] w fun e w' => e = .returned (.bool true) ∧ Below w.heap.size w w' := by
  obtain ⟨l, rfl⟩ := as_bytes s
  rw [size_bytes] at ws
  unfold maxLen at ws
  have HL := Lib.hid hl; clear hl
  by_cases bl : 1048576 < l.length
  · go_enter Tryd.func12, Tryd.ntmps12
    go_wp2_with fail
    go_ret
    exact ⟨rfl, Below.refl _ _⟩
  obtain ⟨x, b, hx⟩ := alphaSumR_two l
  have Hx := Lib.hid hx; clear hx
  go_enter Tryd.func12, Tryd.ntmps12
  go_wp2_with fail
  refine (sAlphaSum_any l _).mono ?_
  rw [Hx.out]
  rintro e w1 ⟨rfl, rfl⟩
  go_wp2_with fail
  refine (iAlphaSum_any l _ HL.out).mono ?_
  rw [Hx.out]
  rintro e w2 ⟨rfl, rfl⟩
  cases b
  · go_wp2_with fail
    go_ret
    exact ⟨rfl, Below.refl _ _⟩
  · go_wp2_with fail
    go_ret
    exact ⟨rfl, Below.refl _ _⟩
theorem wFnExactAlphaSame (s t : ByteArray) (w : World) (ws : s.size ≤ maxLen) (wt : t.size ≤ maxLen) (hl : AT w) :
    Calls Tryd.prog 11 #[.string s, .string t] w fun e w' => e = .returned (.bool true) ∧ Below w.heap.size w w' := by
  obtain ⟨l, rfl⟩ := as_bytes s
  rw [size_bytes] at ws
  obtain ⟨k, rfl⟩ := as_bytes t
  rw [size_bytes] at wt
  unfold maxLen at ws wt
  have HL := Lib.hid hl; clear hl
  by_cases bl : 1048576 < l.length
  · go_enter Tryd.func11, Tryd.ntmps11
    go_wp2_with fail
    go_ret
    exact ⟨rfl, Below.refl _ _⟩
  by_cases bk : 1048576 < k.length
  · go_enter Tryd.func11, Tryd.ntmps11
    go_wp2_with fail
    go_ret
    exact ⟨rfl, Below.refl _ _⟩
  generalize hb : sameB l k = b
  have Hb := Lib.hid hb; clear hb
  go_enter Tryd.func11, Tryd.ntmps11
  go_wp2_with fail
  refine (sAlphaSame_any l k _).mono ?_
  rw [Hb.out]
  rintro e w1 ⟨rfl, rfl⟩
  go_wp2_with fail
  refine (iAlphaSame_any l k _ HL.out).mono ?_
  rw [Hb.out]
  rintro e w2 ⟨rfl, rfl⟩
  cases b
  · go_wp2_with fail
    go_ret
    exact ⟨rfl, Below.refl _ _⟩
  · go_wp2_with fail
    go_ret
    exact ⟨rfl, Below.refl _ _⟩
theorem wFnExactAlphaNines (s : ByteArray) (w : World) (ws : s.size ≤ maxLen) (hl : AT w) :
    Calls Tryd.prog 8 #[.string s] w fun e w' => e = .returned (.bool true) ∧ Below w.heap.size w w' := by
  obtain ⟨l, rfl⟩ := as_bytes s
  rw [size_bytes] at ws
  unfold maxLen at ws
  have HL := Lib.hid hl; clear hl
  by_cases bl : 1048576 < l.length
  · go_enter Tryd.func8, Tryd.ntmps8
    go_wp2_with fail
    go_ret
    exact ⟨rfl, Below.refl _ _⟩
  obtain ⟨x, b, hx⟩ := ninesR_two l
  have Hx := Lib.hid hx; clear hx
  go_enter Tryd.func8, Tryd.ntmps8
  go_wp2_with fail
  refine (sAlphaNines_any l _).mono ?_
  rw [Hx.out]
  rintro e w1 ⟨rfl, rfl⟩
  go_wp2_with fail
  refine (iAlphaNines_any l _ HL.out).mono ?_
  rw [Hx.out]
  rintro e w2 ⟨rfl, rfl⟩
  cases b
  · go_wp2_with fail
    go_ret
    exact ⟨rfl, Below.refl _ _⟩
  · go_wp2_with fail
    go_ret
    exact ⟨rfl, Below.refl _ _⟩
theorem wFnExactAlphaAdd (s t : ByteArray) (w : World) (ws : s.size ≤ maxLen) (wt : t.size ≤ maxLen) (hl : AT w) :
    Calls Tryd.prog 6 #[.string s, .string t] w fun e w' => e = .returned (.bool true) ∧ Below w.heap.size w w' := by
  obtain ⟨l, rfl⟩ := as_bytes s
  rw [size_bytes] at ws
  obtain ⟨k, rfl⟩ := as_bytes t
  rw [size_bytes] at wt
  unfold maxLen at ws wt
  have HL := Lib.hid hl; clear hl
  by_cases bl : 1048576 < l.length
  · go_enter Tryd.func6, Tryd.ntmps6
    go_wp2_with fail
    go_ret
    exact ⟨rfl, Below.refl _ _⟩
  by_cases bk : 1048576 < k.length
  · go_enter Tryd.func6, Tryd.ntmps6
    go_wp2_with fail
    go_ret
    exact ⟨rfl, Below.refl _ _⟩
  obtain ⟨x, b, hx⟩ := alphaAddR_two l k
  have Hx := Lib.hid hx; clear hx
  go_enter Tryd.func6, Tryd.ntmps6
  go_wp2_with fail
  refine (sAlphaAdd_any l k _ (by omega) (by omega)).mono ?_
  rw [Hx.out]
  rintro e w1 ⟨rfl, g1⟩
  go_wp2_with fail
  refine (iAlphaAdd_any l k _ (HL.out.step g1) (by omega) (by omega)).mono ?_
  rw [Hx.out]
  rintro e w2 ⟨rfl, g2⟩
  cases b
  · go_wp2_with fail
    go_ret
    exact ⟨rfl, bel_chain g1 g2⟩
  · go_wp2_with fail
    go_ret
    exact ⟨rfl, bel_chain g1 g2⟩
end Go.Proofs.YtdognkjpiineiaaDoor
