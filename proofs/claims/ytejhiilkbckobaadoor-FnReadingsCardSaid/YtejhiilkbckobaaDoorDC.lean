/- Walks of FnExactPlaceRead, FnClay, FnClayRead. -/
import Derived.Test.YtejhiilkbckobaaDoorDB
import Derived.Test.YtejhiilkbckobaaDoorCE
import Derived.Shelf.Vars
namespace Go.Proofs.YtejhiilkbckobaaDoor
open Go.RowKit
set_option linter.unusedVariables false
set_option maxRecDepth 100000
theorem maxL_of_shape {w : World} (h : w.ShapedOpen Tryd.prog) : MaxL w :=
  cell_of_shapedOpen_int (t := 3) (zero := #[.int .i64 0]) h (of_decide_eq_true (by kernel_rfl)) (by kernel_rfl) (by kernel_rfl) (by kernel_rfl) (by kernel_rfl) (by kernel_rfl)
theorem placeReadR_form (l : List UInt8) : ∃ (n : Nat) (b : Bool), placeReadR l = .tuple #[.int .i64 n, .bool b] ∧ (b = true → n ≤ 12959999 ∧ clay n = l) := by
  by_cases h : isC l = true
  · obtain ⟨h1, h2⟩ := isC_of l h
    exact ⟨cval l, true, placeReadR_yes l _ h1 h2, fun _ => ⟨h1, h2⟩⟩
  · rw [placeReadR_no l (by simpa using h)]
    exact ⟨0, false, rfl, fun h => by cases h⟩
theorem str_list (s : ByteArray) : ∃ l : List UInt8, s = ⟨l.toArray⟩ ∧ s.size = l.length := ⟨s.data.toList, by simp, by simp⟩
theorem wFnExactPlaceRead (s0 : ByteArray) (u0 : World) (h0 : s0.size ≤ maxLen) (hs : u0.ShapedOpen Tryd.prog) : Calls Tryd.prog 5 #[.string s0] u0 fun e w' => e = .returned (.bool true) ∧ Below u0.heap.size u0 w' := by
  have hM := maxL_of_shape hs
  clear hs
  obtain ⟨l, rfl, hl⟩ := str_list s0
  have HL := Lib.hid hl
  by_cases big : 1048576 < l.length
  · have bg : 1048576 < (⟨l.toArray⟩ : ByteArray).size := by omega
    unfold maxLen at h0
    clear hl hM
    have hq : l.length ≤ 9223372036854775807 := by have := HL.out; omega
    go_enter Tryd.func5, Tryd.ntmps5
    go_wp2_with fail
    go_ret
    exact ⟨rfl, Below.refl _ _⟩
  · have hq : l.length ≤ 1048576 := by omega
    obtain ⟨x, b, hx, _⟩ := placeReadR_form l
    have C1 := Lib.hid (fun w : World => sPlaceRead_any l w hq)
    have C2 := Lib.hid (fun w : World => fun hm => iPlaceRead_any l w hq hm)
    rw [hx] at C1 C2
    have HM := Lib.hid hM
    clear hx hl hM h0 big
    go_enter Tryd.func5, Tryd.ntmps5
    go_wp2_with fail
    refine (C1.out _).mono ?_
    rintro e u1 ⟨rfl, rfl⟩
    go_wp2_with fail
    refine (C2.out _ HM.out).mono ?_
    rintro e u1 ⟨rfl, hb⟩
    have HB := Lib.hid hb; clear hb
    go_wp2_with fail
    go_ret
    exact ⟨rfl, HB.out⟩
theorem wFnClay (a : Option Addr) (len cap : Nat) (z : List Int) (u0 : World) (h0 : IsRow .u8 u0 a len cap z) (hs : u0.ShapedOpen Tryd.prog) : Calls Tryd.prog 3 #[.slice a len cap] u0 fun e w' => e = .returned (.bool true) ∧ Below u0.heap.size u0 w' := by
  have HM := Lib.hid (maxL_of_shape hs)
  clear hs
  have H0 := Lib.hid h0; clear h0
  by_cases big : 1048576 < len
  · go_enter Tryd.func3, Tryd.ntmps3
    go_wp2_with fail
    go_ret
    exact ⟨rfl, Below.refl _ _⟩
  go_enter Tryd.func3, Tryd.ntmps3
  go_wp2_with fail
  refine (drawPlaceOf_any a len cap z _ H0.out).mono ?_
  rintro e u1 ⟨n, hn0, hn1, rfl, hb⟩
  have G1 := Lib.hid hb; clear hb H0 big
  have C1 := Lib.hid (fun w : World => sPlaceOf_any n w)
  have C2 := Lib.hid (fun w : World => iPlaceOf_any n w (by omega))
  by_cases hok : 0 ≤ n ∧ n ≤ 12959999
  · obtain ⟨k, rfl⟩ := Int.eq_ofNat_of_zero_le hok.1
    have hk : k ≤ 12959999 := by omega
    rw [placeOfR_yes k hk] at C1 C2
    have hsh := (clay_short k (by omega)).2
    have C3 := Lib.hid (fun w : World => fun hm => iPlaceRead_any (clay k) w (by omega) hm)
    rw [placeReadR_yes (clay k) k hk rfl] at C3
    generalize clay k = L at *
    clear hok hk
    go_wp2_with fail
    refine (C2.out _).mono ?_
    rintro e u2 ⟨rfl, hb⟩
    have G2 := Lib.hid (bel_chain G1.out hb); clear hb
    go_wp2_with fail
    refine (C1.out _).mono ?_
    rintro e u3 ⟨rfl, rfl⟩
    go_wp2_with fail
    refine (C3.out _ (HM.out.below G2.out)).mono ?_
    rintro e u3 ⟨rfl, hb⟩
    have G3 := Lib.hid (bel_chain G2.out hb); clear hb
    go_wp2_with fail
    go_ret
    exact ⟨rfl, G3.out⟩
  · rw [placeOfR_no n hok] at C1 C2
    clear hok
    go_wp2_with fail
    refine (C2.out _).mono ?_
    rintro e u2 ⟨rfl, hb⟩
    have G2 := Lib.hid (bel_chain G1.out hb); clear hb
    go_wp2_with fail
    refine (C1.out _).mono ?_
    rintro e u3 ⟨rfl, rfl⟩
    go_wp2_with fail
    go_ret
    exact ⟨rfl, G2.out⟩
theorem wFnClayRead (a : Option Addr) (len cap : Nat) (z : List Int) (u0 : World) (h0 : IsRow .u8 u0 a len cap z) (hs : u0.ShapedOpen Tryd.prog) : Calls Tryd.prog 4 #[.slice a len cap] u0 fun e w' => e = .returned (.bool true) ∧ Below u0.heap.size u0 w' := by
  have HM := Lib.hid (maxL_of_shape hs)
  clear hs
  have H0 := Lib.hid h0; clear h0
  by_cases big : 1048576 < len
  · go_enter Tryd.func4, Tryd.ntmps4
    go_wp2_with fail
    go_ret
    exact ⟨rfl, Below.refl _ _⟩
  go_enter Tryd.func4, Tryd.ntmps4
  go_wp2_with fail
  refine (drawPlaceRead_any a len cap z _ H0.out).mono ?_
  rintro e u1 ⟨s, hsz, rfl, hb⟩
  have G1 := Lib.hid hb; clear hb H0 big
  obtain ⟨l, rfl, hl⟩ := str_list s
  have hq : l.length ≤ 300 := by omega
  clear hl hsz
  obtain ⟨x, b, hx, hxb⟩ := placeReadR_form l
  have C1 := Lib.hid (fun w : World => sPlaceRead_any l w (by omega))
  have C2 := Lib.hid (fun w : World => fun hm => iPlaceRead_any l w (by omega) hm)
  rw [hx] at C1 C2
  clear hx
  cases b with
  | true =>
    obtain ⟨h1, h2⟩ := hxb rfl
    have C3 := Lib.hid (fun w : World => iPlaceOf_any (x : Int) w (by omega))
    rw [placeOfR_yes x h1, h2] at C3
    clear hxb h1 h2
    go_wp2_with fail
    refine (C2.out _ (HM.out.below G1.out)).mono ?_
    rintro e u2 ⟨rfl, hb⟩
    have G2 := Lib.hid (bel_chain G1.out hb); clear hb
    go_wp2_with fail
    refine (C1.out _).mono ?_
    rintro e u3 ⟨rfl, rfl⟩
    go_wp2_with fail
    refine (C3.out _).mono ?_
    rintro e u3 ⟨rfl, hb⟩
    have G3 := Lib.hid (bel_chain G2.out hb); clear hb
    go_wp2_with fail
    go_ret
    exact ⟨rfl, G3.out⟩
  | false =>
    clear hxb
    go_wp2_with fail
    refine (C2.out _ (HM.out.below G1.out)).mono ?_
    rintro e u2 ⟨rfl, hb⟩
    have G2 := Lib.hid (bel_chain G1.out hb); clear hb
    go_wp2_with fail
    refine (C1.out _).mono ?_
    rintro e u3 ⟨rfl, rfl⟩
    go_wp2_with fail
    go_ret
    exact ⟨rfl, G2.out⟩
end Go.Proofs.YtejhiilkbckobaaDoor
