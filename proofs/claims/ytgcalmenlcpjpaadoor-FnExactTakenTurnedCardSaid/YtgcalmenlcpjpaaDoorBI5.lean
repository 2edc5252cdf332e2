/- The program's value, size. -/
import Derived.Test.YtgcalmenlcpjpaaDoorBI4
namespace Go.Proofs.YtgcalmenlcpjpaaDoor
open Go.RowKit
set_option linter.unusedVariables false
set_option maxRecDepth 100000
theorem pad_sum (p : Nat → Int) (n : Nat) : ∀ k, sumF (pad p n) k = sumF p (min k n)
  | 0 => by rw [Nat.zero_min]; rfl
  | k + 1 => by
    have ih := pad_sum p n k
    simp only [sumF]
    by_cases h : k < n
    · rw [pad_in p n k h, ih, show min k n = k by omega, show min (k + 1) n = k + 1 by omega]; rfl
    · have e : pad p n k = 0 := if_neg h
      rw [e, ih, show min k n = n by omega, show min (k + 1) n = n by omega]; omega
theorem idx6 (q : Nat → Int) (k : Nat) (hk : k < 6) (w : World) : (Instr.index 47 (.agg (arr6 q)) (.int .i64 (k : Nat))).run Tryd.prog w = .ok (.int .i64 (q k)) w := by
  rcases (show k = 0 ∨ k = 1 ∨ k = 2 ∨ k = 3 ∨ k = 4 ∨ k = 5 by omega) with rfl | rfl | rfl | rfl | rfl | rfl <;> kernel_rfl
theorem size_any (q : Nat → Int) (w : World) (h0 : ∀ j, j < 6 → 0 ≤ q j) (h1 : ∀ j, j < 6 → q j ≤ 1000000) :
    Calls Tryd.prog 53 #[.agg (arr6 q)] w fun e w' => e = .returned (.int .i64 (sumF q 6)) ∧ Below w.heap.size w w' := by
  have Bd := Lib.hid (sum_bd h0 h1 (Nat.le_refl 6))
  have HQ0 := Lib.hid h0; have HQ1 := Lib.hid h1; clear h0 h1
  have hix := idx6 q
  have Hix := Lib.hid hix; clear hix
  have HB : Hid (Blk 47 (w.alloc (.cells (arr6 q) 47)) w.heap.size 6 q) := Blk.new w _ 6 q
  have HA : Hid (arr6 q = (intCells q 6).toArray) := rfl
  have hbw : Below w.heap.size w (w.alloc (.cells (arr6 q) 47)) := (Below.refl _ _).alloc (Nat.le_refl _) _
  have HBW := Lib.hid hbw; clear hbw
  go_enter Tryd.func53, Tryd.ntmps53
  go_wp2_with ((with_reducible refine here ⟨some 6, _, _, _, _, _⟩ ?_); refine wpList_load_blk rfl 47 (.tmp 1) rfl 47 w.heap.size 6 q _ rfl HB.out Tryd.underlying47 rfl szPile ?_; rw [← HA.out])
  go_loop [3, 7] (fun x i => ∃ k : Nat, i = .int .i64 k ∧ k ≤ 6 ∧ x = .int .i64 (sumF q k)) (fun _ i => 6 - (intOf i).toNat)
  case atStart => exact ⟨0, rfl, by omega, rfl⟩
  case round =>
    obtain ⟨k, rfl, hk, rfl⟩ := hrel
    obtain ⟨v1, v2⟩ := Bd.out k hk
    by_cases hlt : k < 6
    · have hi := fun w => Hix.out k hlt w
      have u1 := HQ0.out k hlt
      have u2 := HQ1.out k hlt
      have Hst : Hid (sumF q (k + 1) = sumF q k + q k) := rfl
      generalize sumF q k = V at *
      generalize q k = z at *
      go_wp2_with fail
      go_round
      case rel => exact ⟨k + 1, by go_num, by omega, by rw [Hst.out]⟩
      case measure => simp [intOf]; omega
    · obtain rfl : k = 6 := by omega
      go_wp2_with fail
      go_ret
      exact ⟨rfl, HBW.out⟩
/-- is the value small enough? -/
def fitB (f p : Nat → Int) (n : Nat) : Bool := decide (val f p n ≤ 1000000)
def fitR (f p : Nat → Int) (n : Nat) : Int := if fitB f p n = true then val f p n else 0
end Go.Proofs.YtgcalmenlcpjpaaDoor
