/- The program's chapter 6: signs and values of ranks, ranked texts, and what is told of them. -/
import Derived.Test.YtagipmfkmikagaaDoorUT
import Derived.Test.YtagipmfkmikagaaDoorUE
import Derived.Test.YtagipmfkmikagaaDoorUL
import Derived.Lib.Strings
import Derived.Lib.Bytealg
import Derived.StillTailTactics
import Derived.BigQuiet
namespace Go.Proofs.YtagipmfkmikagaaDoor
open Go.RowKit
set_option linter.unusedVariables false
set_option maxRecDepth 100000
theorem liteIndexByteR (s : ByteArray) (c : UInt8) (w : World) : Calls Tryd.prog 62 #[.string s, .int .u8 (c.toNat : Int)] w fun e w' => e = .returned (.int .i64 (Lib.indexByte s.data.toList c)) ∧ w = w' := by
  have h := Lib.run_indexByteString (P := Tryd.prog) s (c.toNat : Int) w
  rw [show ((c.toNat : Int)).toNat.toUInt8 = c by simp] at h
  have H := Lib.hid h; clear h
  go_enter Tryd.func62, Tryd.ntmps62
  go_wp2
  rw [run_callFunc_extern Tryd.func66 (by kernel_rfl) (by kernel_rfl) (by kernel_rfl) (e := Extern.BytealgIndexByte.indexByte) (by kernel_rfl), H.out]
  simp only [Result.andThen]
  rw [Oper.upon_value]
  go_wp2
  go_ret
  exact ⟨rfl, rfl⟩
theorem indexByteR (s : ByteArray) (c : UInt8) (w : World) : Calls Tryd.prog 56 #[.string s, .int .u8 (c.toNat : Int)] w fun e w' => e = .returned (.int .i64 (Lib.indexByte s.data.toList c)) ∧ w = w' := by
  go_enter Tryd.func56, Tryd.ntmps56
  go_wp2_with fail
  refine (liteIndexByteR _ _ _).mono ?_
  rintro e w1 ⟨rfl, rfl⟩
  go_wp2_with fail
  go_ret
  exact ⟨rfl, rfl⟩
/-- how often a nought stands in a text -/
theorem countR (l : List UInt8) (w : World) : Calls Tryd.prog 36 #[.string ⟨l.toArray⟩, .string ⟨#[111]⟩] w fun e w' => e = .returned (.int .i64 (Lib.countByte l 111)) ∧ w = w' := by
  have H := Lib.hid (fun W : World => Lib.run_countString (P := Tryd.prog) ⟨l.toArray⟩ 111 W)
  go_enter Tryd.func36, Tryd.ntmps36
  go_wp2
  rw [run_callFunc_extern Tryd.func49 (by kernel_rfl) (by kernel_rfl) (by kernel_rfl) (e := Extern.BytealgCount.count) (by kernel_rfl), Lib.run_countString]
  simp only [Result.andThen]
  rw [Oper.upon_value]
  go_wp2
  go_ret
  exact ⟨rfl, rfl⟩
theorem count_nts (l : List UInt8) : (Lib.countByte l 111 : Int) = (nts l : Nat) := by
  unfold Lib.countByte nts
  simp [List.countP_eq_length_filter, List.count]
/-- does a text begin with a one for tens? -/
theorem litePrefixR (l : List UInt8) (w : World) (hl : l.length ≤ 20) : Calls Tryd.prog 57 #[.string ⟨l.toArray⟩, .string ⟨#[49, 115]⟩] w fun e w' => e = .returned (.bool (decide (l.take 2 = [49, 115]))) ∧ w = w' := by
  by_cases h2 : 2 ≤ l.length
  · have e0 := ext_list l 2
    have hq : (((⟨l.toArray⟩ : ByteArray).extract 0 2).toList == [49, 115]) = decide (l.take 2 = [49, 115]) := by rw [e0]; exact Bool.eq_iff_iff.2 (by simp)
    have hz : ¬ (l.length : Int) < 2 := by omega
    generalize decide (l.take 2 = [49, 115]) = b at *
    clear e0
    go_enter Tryd.func57, Tryd.ntmps57
    go_wp2
    go_ret
    exact ⟨rret (by simp_all), rfl⟩
  · rw [decide_eq_false (fun h => h2 (by have := congrArg List.length h; rw [List.length_take] at this; simp at this; omega))]
    have hz : (l.length : Int) < 2 := by omega
    go_enter Tryd.func57, Tryd.ntmps57
    go_wp2
    go_ret
    exact ⟨rfl, rfl⟩
theorem prefixR (l : List UInt8) (w : World) (hl : l.length ≤ 20) : Calls Tryd.prog 39 #[.string ⟨l.toArray⟩, .string ⟨#[49, 115]⟩] w fun e w' => e = .returned (.bool (decide (l.take 2 = [49, 115]))) ∧ w = w' := by
  have C := Lib.hid (litePrefixR l w hl)
  generalize decide (l.take 2 = [49, 115]) = b at *
  go_enter Tryd.func39, Tryd.ntmps39
  go_wp2_with fail
  refine C.out.mono ?_
  rintro e w1 ⟨rfl, rfl⟩
  go_wp2_with fail
  go_ret
  exact ⟨rfl, rfl⟩
/-- the rank of a sign -/
def rkx (c : UInt8) : Nat := if c = 115 then 1 else if c = 98 then 2 else if c = 113 then 3 else if c = 119 then 4 else 0
theorem rkx_le (c : UInt8) : rkx c ≤ 4 := by unfold rkx; split <;> (try split) <;> (try split) <;> (try split) <;> omega
def signsR : ByteArray := ⟨#[115, 98, 113, 119]⟩
theorem indexByte_signsR (c : UInt8) : Lib.indexByte signsR.data.toList c = (rkx c : Int) - 1 := by
  have h : ∀ k, k < 256 → Lib.indexByte signsR.data.toList (UInt8.ofNat k) = (rkx (UInt8.ofNat k) : Int) - 1 := by decide +kernel
  have e := h c.toNat c.toNat_lt
  rwa [UInt8.ofNat_toNat] at e
def digitsR : ByteArray := ⟨#[49, 50, 51, 52, 53, 54, 55, 56, 57]⟩
/-- the digit of a byte, 0 for another one -/
def dgx (c : UInt8) : Nat := if 49 ≤ c.toNat ∧ c.toNat ≤ 57 then c.toNat - 48 else 0
theorem dgx_le (c : UInt8) : dgx c ≤ 9 := by unfold dgx; split <;> omega
theorem indexByte_digitsR (c : UInt8) : Lib.indexByte digitsR.data.toList c = (dgx c : Int) - 1 := by
  have h : ∀ k, k < 256 → Lib.indexByte digitsR.data.toList (UInt8.ofNat k) = (dgx (UInt8.ofNat k) : Int) - 1 := by decide +kernel
  have e := h c.toNat c.toNat_lt
  rwa [UInt8.ofNat_toNat] at e
def rankR (c : UInt8) : Value := .tuple #[.int .i64 (rkx c : Nat), .bool (decide (1 ≤ rkx c))]
theorem rankOfSign_any (c : UInt8) (w : World) : Calls Tryd.prog 55 #[.int .u8 (c.toNat : Int)] w fun e w' => e = .returned (rankR c) ∧ w = w' := by
  have hs := indexByte_signsR c
  have hb := rkx_le c
  unfold rankR
  generalize rkx c = z at *
  have Hs := Lib.hid hs; clear hs
  by_cases hz : 1 ≤ z
  · obtain ⟨y, rfl⟩ : ∃ y, z = y + 1 := ⟨z - 1, by omega⟩
    rw [decide_eq_true hz]
    have h1 : ((y + 1 : Nat) : Int) - 1 = y := by omega
    rw [h1] at Hs
    go_enter Tryd.func55, Tryd.ntmps55
    go_wp2_with fail
    refine (indexByteR signsR c _).mono ?_
    rw [Hs.out]
    rintro e w1 ⟨rfl, rfl⟩
    go_wp2_with fail
    go_ret2
    exact ⟨rret (by rw [Int.add_comm]; rfl), rfl⟩
  · rw [decide_eq_false hz]
    obtain rfl : z = 0 := by omega
    go_enter Tryd.func55, Tryd.ntmps55
    go_wp2_with fail
    refine (indexByteR signsR c _).mono ?_
    rw [Hs.out]
    rintro e w1 ⟨rfl, rfl⟩
    go_wp2_with fail
    go_ret2
    exact ⟨rfl, rfl⟩
theorem rsign_any (r : Nat) (w : World) (h : r < 5) : Calls Tryd.prog 40 #[.int .i64 r] w fun e w' => e = .returned (.string ⟨(sgz r).toArray⟩) ∧ w = w' := by
  rcases (show r = 0 ∨ r = 1 ∨ r = 2 ∨ r = 3 ∨ r = 4 by omega) with rfl | rfl | rfl | rfl | rfl
  all_goals
    go_enter Tryd.func40, Tryd.ntmps40
    go_wp2
    go_ret
    exact ⟨rfl, rfl⟩
theorem rvalue_any (r : Nat) (w : World) (hw : RV w) (h : r < 5) : Calls Tryd.prog 46 #[.int .i64 r] w fun e w' => e = .returned (.int .i64 (rnv r)) ∧ w = w' := by
  have hc := hw.2 r h
  clear hw
  go_enter Tryd.func46, Tryd.ntmps46
  go_wp2
  go_ret
  exact ⟨rfl, rfl⟩
end Go.Proofs.YtagipmfkmikagaaDoor
