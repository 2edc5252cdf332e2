/- The drawn laws of chapter 2: their walks. -/
import Derived.Test.YtbepcmjjgpbgaaaBW2
import Derived.Test.YtbepcmjjgpbgaaaBF
namespace Go.Proofs.Ytbepcmjjgpbgaaa
open Go.RowKit
set_option linter.unusedVariables false
set_option maxRecDepth 100000
theorem Ls.ls {w : World} {a : Option Addr} {n : Nat} {f : Nat → Int} (h : Ls w a n f) : Ls w a n f := h
theorem PileR.as {w w' : World} {f : Nat → Int} {n : Nat} {N : Int} {ok b : Bool} {e : Ending} (h : PileR w w' f n N ok e) (hk : ok = b) :
    ∃ (a : Option Addr) (m c : Nat), e = .returned (.tuple #[.slice a m c, .bool b]) ∧ m = (if b = true then n else 0) ∧ Res w' w.heap.size w'.heap.size a m (pl f n N) ∧ Below w.heap.size w w' := by subst hk; exact h
theorem pl_pil {f : Nat → Int} {n : Nat} {N : Int} (h : sysB f n = true) (h0 : 0 ≤ N) (h1 : N ≤ 1000000) : pilB f n (pl f n N) n = true := by
  obtain ⟨s1, s2, s3⟩ := sysB_sys h
  exact pilB_spec.2 ⟨h, rfl, fun j hj => ⟨pl_nonneg s1 N h0 j hj, Int.le_trans (pl_le s1 N h0 j hj) h1⟩⟩
theorem pl_val' {f : Nat → Int} {n : Nat} {N : Int} (h : sysB f n = true) : val f (pl f n N) n = N := pl_value (sysB_sys h).1 N
theorem pl_valB {f : Nat → Int} {n : Nat} {N : Int} (h : sysB f n = true) (h0 : 0 ≤ N) (h1 : N ≤ 1000000) : valB f n (pl f n N) n = true := valB_spec.2 ⟨pl_pil h h0 h1, by rw [pl_val' h]; exact h1⟩
theorem pl_valR {f : Nat → Int} {n : Nat} {N : Int} (h : sysB f n = true) (h0 : 0 ≤ N) (h1 : N ≤ 1000000) : valR f n (pl f n N) n = N := by rw [valR_eq (pl_valB h h0 h1), pl_val' h]
theorem pl_plB {f : Nat → Int} {n : Nat} {N : Int} (h : sysB f n = true) (h0 : 0 ≤ N) (h1 : N ≤ 1000000) : plB f n (pl f n N) n = true := plB_spec.2 ⟨pl_pil h h0 h1, pl_plain (sysB_sys h).1 N⟩
theorem siz_eq {f : Nat → Int} {n : Nat} {p : Nat → Int} {m : Nat} (h : pilB f n p m = true) : sizR f n p m = sumF p n := if_pos h
theorem val_of {f : Nat → Int} {n : Nat} {p : Nat → Int} {m : Nat} (h : valB f n p m = true) : sysB f n = true ∧ m = n ∧ pilB f n p m = true ∧ valR f n p m = val f p n ∧ 0 ≤ val f p n ∧ val f p n ≤ 1000000 ∧ ofB f n (val f p n) = true := by
  obtain ⟨a, b⟩ := valB_spec.1 h
  have c := val_nn a
  exact ⟨(pilB_spec.1 a).1, (pilB_spec.1 a).2.1, a, valR_eq h, c, b, ofB_spec.2 ⟨(pilB_spec.1 a).1, c, b⟩⟩
theorem val_not {f : Nat → Int} {n : Nat} {p : Nat → Int} {m : Nat} (h : valB f n p m = false) : valR f n p m = 0 := by unfold valR; rw [h]; rfl
end Go.Proofs.Ytbepcmjjgpbgaaa
