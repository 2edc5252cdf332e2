/- The program's allLetters. -/
import Derived.Test.YtdognkjpiineiaaDoorAKs
namespace Go.Proofs.YtdognkjpiineiaaDoor
open Go.RowKit
set_option linter.unusedVariables false
set_option maxRecDepth 100000
/-- the letters in the order of texts lie in block b -/
def LetRow (w : World) (b : Nat) : Prop := ∀ j, j < 27 → w.cell? ⟨b, j, none⟩ = some (.int .i64 (at27 j : Nat))
theorem LetRow.below {B : Nat} {w w' : World} {b : Nat} (h : LetRow w b) (hb : Below B w w') (hB : b < B) : LetRow w' b := fun j hj => (hb.cell (p := ⟨b, j, none⟩) hB).trans (h j hj)
/-- the row while it is filled -/
def fillA (k : Nat) : Array Value := ((List.range 27).map fun j => Value.int .i64 (if j < k then (j : Int) else 0)).toArray
theorem fillA_zero : fillA 0 = Array.replicate 27 (.int .i64 0) := by rfl
theorem fillA_at (k j : Nat) (hj : j < 27) : (fillA k)[j]? = some (.int .i64 (if j < k then (j : Int) else 0)) := by simp [fillA, hj]
theorem fillA_set (k : Nat) (hk : k < 27) : (fillA k).setIfInBounds k (.int .i64 (k : Nat)) = fillA (k + 1) := by
  apply Array.ext
  · simp [fillA]
  · intro i h1 h2
    have h2' : i < 27 := by simpa [fillA] using h2
    simp only [fillA]
    rw [Array.getElem_setIfInBounds (by simpa using h2')]
    by_cases e : k = i
    · subst e; simp
    · have : (i < k + 1) = (i < k) := by rw [eq_iff_iff]; omega
      simp [e, this]
theorem holds_start (w : World) (b : Nat) (h : w.heap[b]? = some (.cells (fillA 27) 55 (0, 0))) : Go.Sort.Holds (fun x : Fin 27 => Value.int .i64 (x.val : Nat)) w b 0 start27 := by
  intro j hj
  have hj' : j < 27 := hj
  rw [Nat.zero_add]
  refine ⟨?_, by simp [World.frozen?, h]⟩
  rw [cell_at h (fillA_at 27 j hj'), if_pos hj']
  have e : ∀ j, j < 27 → (start27[j]!).val = j := by decide +kernel
  show _ = some (Value.int .i64 (((start27[j]!).val : Nat) : Int))
  rw [e j hj']
theorem allLetters_any (w : World) :
    Calls Tryd.prog 51 #[.func (.func 52) #[] #[]] w fun e w' => ∃ b, w.heap.size ≤ b ∧ b < w'.heap.size ∧ e = .returned (.slice (some ⟨b, 0, none⟩) 27 27) ∧ LetRow w' b ∧ Below w.heap.size w w' := by
  have hmk : Sem.run Tryd.prog (Instr.makeSlice 51 (.int .i64 27) (.int .i64 27)) w = .ok (.slice (some ⟨w.heap.size, 0, none⟩) 27 27) (w.alloc (.cells (fillA 0) 55)) := by kernel_rfl
  have H0 := Lib.hid (heap_alloc_new w (.cells (fillA 0) 55))
  have G0 := Lib.hid ((Below.refl _ w).alloc (Nat.le_refl _) (.cells (fillA 0) 55))
  go_enter Tryd.func51, Tryd.ntmps51
  go_wp2_with fail
  generalize hA : fillA 0 = A0 at *
  go_loopw [8] (fun i wr => ∃ k : Nat, k ≤ 27 ∧ i = .int .i64 k ∧ wr.heap[w.heap.size]? = some (.cells (fillA k) 55 (0, 0)) ∧ Below w.heap.size w wr) (fun i _ => 27 - (intOf i).toNat)
  case atStart => exact ⟨0, by omega, rfl, by rw [hA]; exact H0.out, G0.out⟩
  case round =>
    clear H0 G0 hmk
    obtain ⟨k, hk, rfl, hb, hbel⟩ := hrel
    by_cases hlt : k < 27
    · have hc := cell_at hb (fillA_at k k hlt)
      rw [if_neg (by omega)] at hc
      have hf : wr.frozen? ⟨w.heap.size, k, none⟩ = false := by simp [World.frozen?, hb]
      have hs := heap_setCell_same wr w.heap.size k _ _ (.int .i64 (k : Nat)) hb
      rw [fillA_set k hlt] at hs
      have Hs := Lib.hid hs; have Hb := Lib.hid (hbel.setCell (p := ⟨w.heap.size, k, none⟩) (Nat.le_refl _) (.int .i64 (k : Nat)))
      clear hs hb hbel
      go_wp2_with fail
      go_roundw
      case rel => exact ⟨k + 1, by omega, by go_num, Hs.out, Hb.out⟩
      case measure => simp [intOf]; omega
    · obtain rfl : k = 27 := by omega
      have hbl := lt_of_block' hb
      have eg : ∀ args w, (callFunc 52 args).run Tryd.prog w = .ok (.enter 52 args) w := enters_of Tryd.func52 (by kernel_rfl) rfl
      have hcon := Any.slices_SortFunc_total Tryd.sortL (fun x : Fin 27 => Value.int .i64 (x.val : Nat)) (fun _ => rfl) cmpL swo27 52 #[] w.heap.size 0 27 start27 wr eg
        (CmpReads.lays (fun m os dk _ x y => (compareSigns_any x y _).mono fun _ _ ⟨he, hw⟩ => ⟨he, 0, hw.symm⟩)) (holds_start wr _ hb) hbl (by decide) total27
      rw [sort27] at hcon
      have Hcon : Hid (Calls Tryd.prog 61 #[.slice (some ⟨w.heap.size, 0, none⟩) 27 27, .func (.func 52) #[] #[]] wr fun e w' => e = .returned (.tuple #[]) ∧ ∃ n os, w' = sortWorld (fun x : Fin 27 => Value.int .i64 (x.val : Nat)) wr w.heap.size 0 n sorted27 os) := hcon
      have Hb := Lib.hid hb; have Hbel := Lib.hid hbel; have Hbl := Lib.hid hbl
      clear hcon eg hb hbel
      go_wp2_with fail
      refine Hcon.out.mono ?_
      rintro e w3 ⟨rfl, n, os, hw3⟩
      have Hw3 := Lib.hid hw3; clear hw3
      go_wp2_with fail
      go_ret
      have hB := below_sorted (B := w.heap.size) (fun x : Fin 27 => Value.int .i64 (x.val : Nat)) wr 0 n sorted27 os (Nat.le_refl _) Hbel.out.size
      rw [← Hw3.out] at hB
      refine ⟨w.heap.size, Nat.le_refl _, ?_, rfl, fun j hj => ?_, Hbel.out.trans hB⟩
      · exact Nat.lt_of_lt_of_le Hbl.out hB.size
      · have := (holds_sortWorld (fun x : Fin 27 => Value.int .i64 (x.val : Nat)) wr w.heap.size 0 n start27 sorted27 os Hbl.out (holds_start wr _ Hb.out) rfl j hj).1
        rw [← Hw3.out, Nat.zero_add] at this
        refine this.trans ?_
        show some (Value.int .i64 (((sorted27[j]!).val : Nat) : Int)) = _
        rw [sorted27_at j hj]
end Go.Proofs.YtdognkjpiineiaaDoor
