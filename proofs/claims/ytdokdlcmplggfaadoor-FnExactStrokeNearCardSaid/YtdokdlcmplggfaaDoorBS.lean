/- The model's chapter 2 (package spec): PileIn. -/
import Derived.Test.YtdokdlcmplggfaaDoorBL
import Derived.Test.YtdokdlcmplggfaaDoorBM
namespace Go.Proofs.YtdokdlcmplggfaaDoor
open Go.RowKit
set_option linter.unusedVariables false
set_option maxRecDepth 100000
/-- what PileIn has looked at when it comes to number k -/
def Chk (f : Nat → Int) (k : Nat) : Prop := (0 < k → f 0 = 1) ∧ (∀ j, j < k → 1 ≤ f j ∧ f j ≤ 1000000) ∧ ∀ j, j + 1 < k → f j < f (j + 1) ∧ f (j + 1) % f j = 0
theorem Chk.mono {f : Nat → Int} {k n : Nat} (h : Chk f n) (hk : k ≤ n) : Chk f k := ⟨fun h0 => h.1 (by omega), fun j hj => h.2.1 j (by omega), fun j hj => h.2.2 j (by omega)⟩
/-- a list is a system -/
def sysB (f : Nat → Int) (n : Nat) : Bool :=
  decide (1 ≤ n ∧ n ≤ 6 ∧ f 0 = 1 ∧ (∀ j, j < n → 1 ≤ f j ∧ f j ≤ 1000000) ∧ ∀ j, j < n - 1 → f j < f (j + 1) ∧ f (j + 1) % f j = 0)
theorem sysB_chk (f : Nat → Int) (n : Nat) : sysB f n = true ↔ Chk f n ∧ 1 ≤ n ∧ n ≤ 6 := by
  unfold sysB
  rw [decide_eq_true_eq]
  constructor
  · rintro ⟨h1, h2, h3, h4, h5⟩
    exact ⟨⟨fun _ => h3, h4, fun j hj => h5 j (by omega)⟩, h1, h2⟩
  · rintro ⟨⟨h3, h4, h5⟩, h1, h2⟩
    exact ⟨h1, h2, h3 (by omega), h4, fun j hj => h5 j (by omega)⟩
theorem sysB_sys {f : Nat → Int} {n : Nat} (h : sysB f n = true) : SysF f n ∧ n ≤ 6 ∧ ∀ j, j < n → f j ≤ 1000000 := by
  obtain ⟨⟨h3, h4, h5⟩, h1, h2⟩ := (sysB_chk f n).1 h
  exact ⟨⟨h1, h3 (by omega), fun j hj => (h4 j hj).1, h5⟩, h2, fun j hj => (h4 j hj).2⟩
theorem sysB_not {f : Nat → Int} {n k : Nat} (hk : k ≤ n) (h : ¬ Chk f k) : sysB f n = false := by
  rw [Bool.eq_false_iff]
  intro h'
  exact h (((sysB_chk f n).1 h').1.mono hk)
theorem sysB_congr {f g : Nat → Int} {n : Nat} (h : ∀ j, j < n → f j = g j) : sysB f n = sysB g n := by
  rw [Bool.eq_iff_iff, sysB_chk, sysB_chk]
  have key : ∀ {f g : Nat → Int}, (∀ j, j < n → f j = g j) → Chk f n → Chk g n := by
    intro f g h c
    refine ⟨fun h0 => by rw [← h 0 h0]; exact c.1 h0, fun j hj => by rw [← h j hj]; exact c.2.1 j hj, fun j hj => by rw [← h j (by omega), ← h (j + 1) hj]; exact c.2.2 j hj⟩
  constructor
  · rintro ⟨c, r⟩; exact ⟨key h c, r⟩
  · rintro ⟨c, r⟩; exact ⟨key (fun j hj => (h j hj).symm) c, r⟩
theorem ret_bool {a b : Bool} (h : a = b) : Ending.returned (.bool a) = .returned (.bool b) := by rw [h]
theorem in_any (n a b : Int) (w : World) : Calls Tryd.prog 36 #[.int .i64 n, .int .i64 a, .int .i64 b] w fun e w' => e = .returned (.bool (decide (a ≤ n ∧ n ≤ b))) ∧ w = w' := by
  by_cases h1 : a ≤ n
  · by_cases h2 : n ≤ b
    · go_enter Tryd.func36, Tryd.ntmps36
      go_wp2
      go_ret
      simp [h1, h2]
    · go_enter Tryd.func36, Tryd.ntmps36
      go_wp2
      go_ret
      simp
      omega
  · go_enter Tryd.func36, Tryd.ntmps36
    go_wp2
    go_ret
    simp
    omega
end Go.Proofs.YtdokdlcmplggfaaDoor
