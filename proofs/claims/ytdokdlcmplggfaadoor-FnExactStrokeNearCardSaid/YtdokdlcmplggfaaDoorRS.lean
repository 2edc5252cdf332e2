/- The model's chapter 1 (package spec): contracts of its small functions: the texts by digits. -/
import Derived.Test.YtdokdlcmplggfaaDoorRows
import Derived.Test.YtdokdlcmplggfaaDoorRM
import Derived.Test.YtdokdlcmplggfaaDoorK
import Derived.WalkKit
import Derived.WalkSpells
import Derived.WalkLawsBesides
import Derived.BigQuiet
import Derived.Deep.QuietTactic
import Derived.Lib.Hide
namespace Go.Proofs.YtdokdlcmplggfaaDoor
open Go.RowKit
set_option linter.unusedVariables false
set_option maxRecDepth 100000
theorem l6In_any (n a b : Int) (w : World) : Calls Tryd.prog 36 #[.int .i64 n, .int .i64 a, .int .i64 b] w fun e w' => e = .returned (.bool (decide (a ≤ n ∧ n ≤ b))) ∧ w = w' := by
  by_cases h1 : a ≤ n
  · by_cases h2 : n ≤ b
    · go_enter Tryd.func36, Tryd.ntmps36
      go_wp2
      go_ret
      simp [h1, h2]
    · go_enter Tryd.func36, Tryd.ntmps36
      go_wp2
      go_ret
      simp
      omega
  · go_enter Tryd.func36, Tryd.ntmps36
    go_wp2
    go_ret
    simp
    omega
theorem cells_dig (a b c : UInt8) (d : Nat) (h : d ≤ 9) :
    [Value.string ⟨#[]⟩, Value.string ((⟨#[a, b, c]⟩ : ByteArray).extract 0 1), Value.string ((⟨#[a, b, c]⟩ : ByteArray).extract 0 1 ++ (⟨#[a, b, c]⟩ : ByteArray).extract 0 1),
      Value.string ((⟨#[a, b, c]⟩ : ByteArray).extract 0 1 ++ (⟨#[a, b, c]⟩ : ByteArray).extract 0 1 ++ (⟨#[a, b, c]⟩ : ByteArray).extract 0 1),
      Value.string ((⟨#[a, b, c]⟩ : ByteArray).extract 0 2), Value.string ((⟨#[a, b, c]⟩ : ByteArray).extract 1 2),
      Value.string ((⟨#[a, b, c]⟩ : ByteArray).extract 1 2 ++ (⟨#[a, b, c]⟩ : ByteArray).extract 0 1),
      Value.string ((⟨#[a, b, c]⟩ : ByteArray).extract 1 2 ++ (⟨#[a, b, c]⟩ : ByteArray).extract 0 1 ++ (⟨#[a, b, c]⟩ : ByteArray).extract 0 1),
      Value.string ((⟨#[a, b, c]⟩ : ByteArray).extract 1 2 ++ (⟨#[a, b, c]⟩ : ByteArray).extract 0 1 ++ (⟨#[a, b, c]⟩ : ByteArray).extract 0 1 ++ (⟨#[a, b, c]⟩ : ByteArray).extract 0 1),
      Value.string ((⟨#[a, b, c]⟩ : ByteArray).extract 0 1 ++ (⟨#[a, b, c]⟩ : ByteArray).extract 2 3)][d]? = some (Value.string ⟨(dig a b c d).toArray⟩) := by
  rcases (show d = 0 ∨ d = 1 ∨ d = 2 ∨ d = 3 ∨ d = 4 ∨ d = 5 ∨ d = 6 ∨ d = 7 ∨ d = 8 ∨ d = 9 by omega) with rfl | rfl | rfl | rfl | rfl | rfl | rfl | rfl | rfl | rfl <;> rfl
theorem dig_len (a b c : UInt8) (d : Nat) : (dig a b c d).length ≤ 4 := by
  unfold dig; split <;> simp
end Go.Proofs.YtdokdlcmplggfaaDoor
