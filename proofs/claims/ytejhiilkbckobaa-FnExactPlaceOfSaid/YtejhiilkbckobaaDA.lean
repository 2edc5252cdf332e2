/- The exact law of PlaceOf: its walk. -/
import Derived.Test.YtejhiilkbckobaaCZ
namespace Go.Proofs.Ytejhiilkbckobaa
open Go.RowKit
set_option linter.unusedVariables false
set_option maxRecDepth 100000
theorem wf_top {x : Int} (h : (Lit.int .i64 x).wf = true) : x ≤ 9223372036854775807 := by
  simp only [Lit.wf, Bool.and_eq_true, decide_eq_true_eq] at h
  exact h.2
theorem placeOfR_form (n : Int) : ∃ (x : ByteArray) (b : Bool), placeOfR n = .tuple #[.string x, .bool b] ∧ x.size ≤ 300 := by
  by_cases h : 0 ≤ n ∧ n ≤ 12959999
  · obtain ⟨k, rfl⟩ := Int.eq_ofNat_of_zero_le h.1
    rw [placeOfR_yes k (by omega)]
    refine ⟨_, _, rfl, ?_⟩
    have := (clay_short k (by omega)).2
    show (clay k).toArray.size ≤ 300
    simp; omega
  · rw [placeOfR_no n h]; exact ⟨_, _, rfl, by decide⟩
theorem wFnExactPlaceOf (x0 : Int) (u0 : World) (h0 : (Lit.int .i64 x0).wf = true) : Calls Try.prog 9 #[.int .i64 x0] u0 fun e w' => e = .returned (.bool true) ∧ Below u0.heap.size u0 w' := by
  have wf0 := wf_top h0
  clear h0
  obtain ⟨x, b, hx, hs⟩ := placeOfR_form x0
  have C1 := Lib.hid (fun w : World => sPlaceOf_any x0 w)
  have C2 := Lib.hid (fun w : World => iPlaceOf_any x0 w wf0)
  rw [hx] at C1 C2
  clear hx
  go_enter Try.func9, Try.ntmps9
  go_wp2_with fail
  refine (C1.out _).mono ?_
  rintro e u1 ⟨rfl, rfl⟩
  go_wp2_with fail
  refine (C2.out _).mono ?_
  rintro e u1 ⟨rfl, hb⟩
  have HB := Lib.hid hb; clear hb
  go_wp2_with fail
  go_ret
  exact ⟨rfl, HB.out⟩
end Go.Proofs.Ytejhiilkbckobaa
