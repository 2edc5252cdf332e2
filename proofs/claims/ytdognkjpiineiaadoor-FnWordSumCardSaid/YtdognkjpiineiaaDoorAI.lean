/- The program's letters with values: the library's three functions that it calls, alphaLetterOf, sign, value, signOfDigit. -/
import Derived.Test.YtdognkjpiineiaaDoorAL
import Derived.Test.YtdognkjpiineiaaDoorAW
import Derived.Test.YtdognkjpiineiaaDoorK2
import Derived.Lib.Strings
import Derived.Lib.Bytealg
import Derived.StillTailTactics
namespace Go.Proofs.YtdognkjpiineiaaDoor
open Go.RowKit
set_option linter.unusedVariables false
set_option maxRecDepth 100000
theorem ret_val {a b : Value} (h : a = b) : Ending.returned a = .returned b := by rw [h]
def signsA : ByteArray := ⟨#[97, 98, 99, 100, 101, 102, 103, 104, 105, 106, 107, 108, 109, 110, 111, 112, 113, 114, 115, 116, 117, 118, 119, 120, 121, 122, 42]⟩
/-- the place of a letter, -1 for another byte -/
def ixA (c : Int) : Int := if 97 ≤ c ∧ c ≤ 122 then c - 97 else if c = 42 then 26 else -1
theorem indexByte_signs (c : UInt8) : Lib.indexByte signsA.data.toList c = ixA (c.toNat : Int) := by
  have h : ∀ k, k < 256 → Lib.indexByte signsA.data.toList (UInt8.ofNat k) = ixA ((UInt8.ofNat k).toNat : Int) := by decide +kernel
  have e := h c.toNat c.toNat_lt
  rwa [UInt8.ofNat_toNat] at e
theorem ixA_bd (c : Int) : -1 ≤ ixA c ∧ ixA c ≤ 26 := by unfold ixA; split <;> (try split) <;> omega
theorem av_ix (c : Int) (h : 0 ≤ ixA c) : av c = vl (ixA c).toNat := by
  unfold ixA at *
  split at h
  · rename_i hc
    rw [if_pos hc]
    have e : ∀ k, k < 26 → av ((97 + k : Nat) : Int) = vl k := by decide +kernel
    have := e (c - 97).toNat (by omega)
    rwa [show ((97 + (c - 97).toNat : Nat) : Int) = c by omega] at this
  · split at h
    · rename_i hn hc
      subst hc
      decide
    · omega
theorem av_no (c : Int) (h : ixA c < 0) : av c = 0 := by
  unfold ixA at h
  split at h
  · omega
  · split at h
    · omega
    · unfold av
      repeat (first | omega | split)
theorem av_pos_ix (c : Int) : 0 < av c ↔ 0 ≤ ixA c := by
  constructor
  · intro h
    rcases Int.lt_or_le (ixA c) 0 with h' | h'
    · rw [av_no c h'] at h; omega
    · exact h'
  · intro h
    rw [av_ix c h]
    have := ixA_bd c
    have := (vl_bd (ixA c).toNat (by omega)).1
    omega
set_option maxRecDepth 100000 in
theorem liteIndexByte_any (s : ByteArray) (c : UInt8) (w : World) : Calls Tryd.prog 70 #[.string s, .int .u8 (c.toNat : Int)] w fun e w' => e = .returned (.int .i64 (Lib.indexByte s.data.toList c)) ∧ w = w' := by
  have h := Lib.run_indexByteString (P := Tryd.prog) s (c.toNat : Int) w
  rw [show ((c.toNat : Int)).toNat.toUInt8 = c by simp] at h
  have H := Lib.hid h; clear h
  go_enter Tryd.func70, Tryd.ntmps70
  go_wp2
  rw [run_callFunc_extern Tryd.func82 (by kernel_rfl) (by kernel_rfl) (by kernel_rfl) (e := Extern.BytealgIndexByte.indexByte) (by kernel_rfl), H.out]
  simp only [Result.andThen]
  rw [Oper.upon_value]
  go_wp2
  go_ret
  exact ⟨rfl, rfl⟩
theorem indexByte_any (s : ByteArray) (c : UInt8) (w : World) : Calls Tryd.prog 65 #[.string s, .int .u8 (c.toNat : Int)] w fun e w' => e = .returned (.int .i64 (Lib.indexByte s.data.toList c)) ∧ w = w' := by
  go_enter Tryd.func65, Tryd.ntmps65
  go_wp2_with fail
  refine (liteIndexByte_any _ _ _).mono ?_
  rintro e w1 ⟨rfl, rfl⟩
  go_wp2_with fail
  go_ret
  exact ⟨rfl, rfl⟩
/-- alphaLetterOf's answer -/
def letterR (c : Int) : Value := if 0 ≤ ixA c then .tuple #[.int .i64 (ixA c), .bool true] else .tuple #[.int .i64 0, .bool false]
theorem alphaLetterOf_any (c : UInt8) (w : World) : Calls Tryd.prog 56 #[.int .u8 (c.toNat : Int)] w fun e w' => e = .returned (letterR (c.toNat : Int)) ∧ w = w' := by
  have hs := indexByte_signs c
  have hb := ixA_bd (c.toNat : Int)
  unfold letterR
  generalize ixA (c.toNat : Int) = z at *
  have Hs := Lib.hid hs; clear hs
  by_cases hz : 0 ≤ z
  · rw [if_pos hz]
    go_enter Tryd.func56, Tryd.ntmps56
    go_wp2_with fail
    refine (indexByte_any signsA c _).mono ?_
    rw [Hs.out]
    rintro e w1 ⟨rfl, rfl⟩
    go_wp2_with fail
    go_ret2
    exact ⟨rfl, rfl⟩
  · rw [if_neg hz]
    have hz' : z < 0 := by omega
    clear hz
    go_enter Tryd.func56, Tryd.ntmps56
    go_wp2_with fail
    refine (indexByte_any signsA c _).mono ?_
    rw [Hs.out]
    rintro e w1 ⟨rfl, rfl⟩
    go_wp2_with fail
    go_ret2
    exact ⟨rfl, rfl⟩
theorem sign_cut : ∀ l, l < 27 → signsA.extract l (l + 1) = ⟨[lt l].toArray⟩ := by
  have h : ∀ l, l < 27 → (signsA.extract l (l + 1)).data = [lt l].toArray := by decide +kernel
  exact fun l hl => ByteArray.ext (h l hl)
theorem aSign_any (l : Nat) (w : World) (h : l < 27) : Calls Tryd.prog 58 #[.int .i64 l] w fun e w' => e = .returned (.string ⟨[lt l].toArray⟩) ∧ w = w' := by
  have H := Lib.hid (sign_cut l h)
  go_enter Tryd.func58, Tryd.ntmps58
  go_wp2
  go_ret
  exact ⟨ret_val (congrArg Value.string H.out), rfl⟩
theorem aValue_any (l : Nat) (w : World) (hw : AT w) (h : l < 27) : Calls Tryd.prog 57 #[.int .i64 l] w fun e w' => e = .returned (.int .i64 (vl l)) ∧ w = w' := by
  have hc := hw.2 (l / 9) (by omega)
  have Hv := Lib.hid (vl_vn l)
  unfold vn at Hv
  clear hw
  rcases (show l / 9 = 0 ∨ l / 9 = 1 ∨ l / 9 = 2 by omega) with hq | hq | hq
  all_goals
    rw [hq] at Hv
    rw [show rkv (l / 9) = _ from by rw [hq]] at hc
    simp only [rkv, List.getD_cons_zero, List.getD_cons_succ] at hc
    have Hq := Lib.hid hq; clear hq
    go_enter Tryd.func57, Tryd.ntmps57
    go_wp2
    go_ret
    refine ⟨ret_int ?_, rfl⟩
    rw [Hv.out]
    omega
theorem signOfDigit_any (d p : Nat) (w : World) (hd : d ≤ 9) (hp : p ≤ 2) : Calls Tryd.prog 43 #[.int .i64 d, .int .i64 p] w fun e w' => e = .returned (.string ⟨(dl d p).toArray⟩) ∧ w = w' := by
  unfold dl
  by_cases h : d = 0
  · subst h
    rw [if_pos rfl]
    go_enter Tryd.func43, Tryd.ntmps43
    go_wp2
    go_ret
    exact ⟨rfl, rfl⟩
  · rw [if_neg h]
    have hz : ((d : Int) == 0) = false := by rw [beq_eq_false_iff_ne]; omega
    have He := Lib.hid (show (p : Int) * 9 + d - 1 = ((9 * p + d - 1 : Nat) : Int) by omega)
    clear h
    go_enter Tryd.func43, Tryd.ntmps43
    go_wp2_with fail
    rw [He.out]
    refine (aSign_any _ _ (by omega)).mono ?_
    rintro e w1 ⟨rfl, rfl⟩
    go_wp2_with fail
    go_ret
    exact ⟨rfl, rfl⟩
end Go.Proofs.YtdognkjpiineiaaDoor
