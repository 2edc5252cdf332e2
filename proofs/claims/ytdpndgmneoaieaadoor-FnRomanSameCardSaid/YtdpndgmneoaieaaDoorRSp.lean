/- The model's l1Value, RomanPiled. -/
import Derived.Test.YtdpndgmneoaieaaDoorRSo
import Derived.Test.YtdpndgmneoaieaaDoorK2
namespace Go.Proofs.YtdpndgmneoaieaaDoor
open Go.RowKit
set_option linter.unusedVariables false
/-- the value of a letter -/
def rv (c : Int) : Int := if c = 73 then 1 else if c = 86 then 5 else if c = 88 then 10 else if c = 76 then 50 else if c = 67 then 100 else if c = 68 then 500 else if c = 77 then 1000 else 0
theorem l1Value_any (c : Int) (w : World) : Calls Tryd.prog 23 #[.int .u8 c] w fun e w' => e = .returned (.int .i64 (rv c)) ∧ w = w' := by
  by_cases h1 : c = 73
  · subst h1
    go_enter Tryd.func23, Tryd.ntmps23
    go_wp2
    go_ret
    exact ⟨rfl, rfl⟩
  by_cases h2 : c = 86
  · subst h2
    go_enter Tryd.func23, Tryd.ntmps23
    go_wp2
    go_ret
    exact ⟨rfl, rfl⟩
  by_cases h3 : c = 88
  · subst h3
    go_enter Tryd.func23, Tryd.ntmps23
    go_wp2
    go_ret
    exact ⟨rfl, rfl⟩
  by_cases h4 : c = 76
  · subst h4
    go_enter Tryd.func23, Tryd.ntmps23
    go_wp2
    go_ret
    exact ⟨rfl, rfl⟩
  by_cases h5 : c = 67
  · subst h5
    go_enter Tryd.func23, Tryd.ntmps23
    go_wp2
    go_ret
    exact ⟨rfl, rfl⟩
  by_cases h6 : c = 68
  · subst h6
    go_enter Tryd.func23, Tryd.ntmps23
    go_wp2
    go_ret
    exact ⟨rfl, rfl⟩
  by_cases h7 : c = 77
  · subst h7
    go_enter Tryd.func23, Tryd.ntmps23
    go_wp2
    go_ret
    exact ⟨rfl, rfl⟩
  · have e0 : Hid (rv c = 0) := by show _ = _; simp [rv, h1, h2, h3, h4, h5, h6, h7]
    go_enter Tryd.func23, Tryd.ntmps23
    go_wp2
    go_ret
    exact ⟨ret_int e0.out.symm, rfl⟩
theorem take_len1 : ∀ (ps : List (List UInt8 × Nat)) (n : Nat), (∀ p ∈ ps, 1 ≤ p.2 ∧ p.1.length ≤ 1) → (take ps n).length ≤ n
  | [], n, _ => by simp [take]
  | p :: ps, n, h => by
    have hp := h p (by simp)
    have ih := take_len1 ps (n % p.2) (fun q hq => h q (by simp [hq]))
    have h1 : n / p.2 * p.1.length ≤ n / p.2 := by
      have := Nat.mul_le_mul_left (n / p.2) hp.2
      omega
    have h2 : p.2 * (n / p.2) + n % p.2 = n := Nat.div_add_mod n p.2
    have h3 : n / p.2 ≤ p.2 * (n / p.2) := Nat.le_mul_of_pos_left _ (by omega)
    simp only [take, List.length_append, many_length]
    omega
theorem piled_len (N : Nat) (txt : List UInt8) (k m : Nat) (ho : txt ++ take (addedP.drop k) m = piled N) : txt.length ≤ N := by
  have h := congrArg List.length ho
  have h2 : (piled N).length ≤ N := take_len1 addedP N (by decide)
  rw [List.length_append] at h
  omega
theorem piled_at (k : Nat) (h : k < 7) : ∃ (b : UInt8) (v : Nat), 1 ≤ v ∧ v ≤ 1000 ∧ (∀ h', rv (((⟨#[77, 68, 67, 76, 88, 86, 73]⟩ : ByteArray)[k]'h').toNat : Int) = (v : Int)) ∧
    (⟨#[77, 68, 67, 76, 88, 86, 73]⟩ : ByteArray).extract k (k + 1) = ⟨[b].toArray⟩ ∧ addedP.drop k = ([b], v) :: addedP.drop (k + 1) := by
  rcases (show k = 0 ∨ k = 1 ∨ k = 2 ∨ k = 3 ∨ k = 4 ∨ k = 5 ∨ k = 6 by omega) with rfl | rfl | rfl | rfl | rfl | rfl | rfl
  · exact ⟨77, 1000, by decide, by decide, fun _ => rfl, rfl, rfl⟩
  · exact ⟨68, 500, by decide, by decide, fun _ => rfl, rfl, rfl⟩
  · exact ⟨67, 100, by decide, by decide, fun _ => rfl, rfl, rfl⟩
  · exact ⟨76, 50, by decide, by decide, fun _ => rfl, rfl, rfl⟩
  · exact ⟨88, 10, by decide, by decide, fun _ => rfl, rfl, rfl⟩
  · exact ⟨86, 5, by decide, by decide, fun _ => rfl, rfl, rfl⟩
  · exact ⟨73, 1, by decide, by decide, fun _ => rfl, rfl, rfl⟩
end Go.Proofs.YtdpndgmneoaieaaDoor
