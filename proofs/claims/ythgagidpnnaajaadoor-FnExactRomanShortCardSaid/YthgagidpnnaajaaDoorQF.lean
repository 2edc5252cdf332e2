/- The program's table of fewest letters: of. -/
import Derived.Test.YthgagidpnnaajaaDoorQ
import Derived.Test.YthgagidpnnaajaaDoorLI
import Derived.Test.YthgagidpnnaajaaDoorDr
namespace Go.Proofs.YthgagidpnnaajaaDoor
open Go.RowKit
set_option linter.unusedVariables false
set_option maxRecDepth 100000
/-- the table's cells: by value and letter -/
def fArr (N : Nat) (F : Nat → Nat → Nat) : Array Value := ((List.range (N * 7)).map fun i => Value.int .i8 (F (i % 7) (i / 7) : Nat)).toArray
theorem fArr_at (N : Nat) (F : Nat → Nat → Nat) (v c : Nat) (hv : v < N) (hc : c < 7) : (fArr N F)[v * 7 + c]? = some (.int .i8 (F c v : Nat)) := by
  have h : v * 7 + c < N * 7 := by omega
  have e1 : (v * 7 + c) % 7 = c := by omega
  have e2 : (v * 7 + c) / 7 = v := by omega
  simp [fArr, h, e1, e2]
theorem fArr_set (N : Nat) (F : Nat → Nat → Nat) (v c x : Nat) (hv : v < N) (hc : c < 7) : (fArr N F).setIfInBounds (v * 7 + c) (.int .i8 (x : Nat)) = fArr N (fun c' v' => if c' = c ∧ v' = v then x else F c' v') := by
  apply Array.ext
  · simp [fArr]
  · intro i h1 h2
    have h2' : i < N * 7 := by simpa [fArr] using h2
    simp only [fArr]
    rw [Array.getElem_setIfInBounds (by simpa using h2')]
    by_cases e : v * 7 + c = i
    · have e1 : i % 7 = c := by omega
      have e2 : i / 7 = v := by omega
      simp [e, e1, e2]
    · have e1 : ¬ (i % 7 = c ∧ i / 7 = v) := by omega
      simp [e, e1]
theorem fArr_congr (N : Nat) (F G : Nat → Nat → Nat) (h : ∀ c v, c < 7 → v < N → F c v = G c v) : fArr N F = fArr N G := by
  unfold fArr
  congr 1
  exact List.map_congr_left fun x hx => by rw [h (x % 7) (x / 7) (by omega) (by have := List.mem_range.1 hx; omega)]
def Found (w : World) (b N : Nat) (F : Nat → Nat → Nat) : Prop := w.heap[b]? = some (.cells (fArr N F) 84 (0, 0))
theorem ofFew_any (b N cap c : Nat) (v : Int) (F : Nat → Nat → Nat) (w : World) (hF : Found w b N F) (hc : c < 7) (hv0 : -1000000 ≤ v) (hv1 : v ≤ 1000000) (hN : N ≤ 100000) (hFb : ∀ c v, F c v ≤ 100) :
    Calls Tryd.prog 67 #[.slice (some ⟨b, 0, none⟩) N cap, .agg #[.int .i64 c, .int .i64 v]] w fun e w' => e = .returned (.int .i64 (if 1 ≤ v ∧ v < N then F c v.toNat else 0 : Nat)) ∧ Below w.heap.size w w' := by
  by_cases h1 : v < 1
  · rw [if_neg (by omega)]
    go_enter Tryd.func67, Tryd.ntmps67
    go_wp2_with fail
    go_ret
    exact ⟨rfl, (Below.refl _ _).alloc (Nat.le_refl _) _⟩
  · by_cases h2 : (N : Int) ≤ v
    · rw [if_neg (by omega)]
      go_enter Tryd.func67, Tryd.ntmps67
      go_wp2_with fail
      go_ret
      exact ⟨rfl, (Below.refl _ _).alloc (Nat.le_refl _) _⟩
    · obtain ⟨x, rfl⟩ := Int.eq_ofNat_of_zero_le (show 0 ≤ v by omega)
      rw [if_pos (by omega), Int.toNat_natCast]
      have hcell : w.cell? ⟨b, x * 7 + c, none⟩ = some (.int .i8 (F c x : Nat)) := cell_at hF (fArr_at N F x c (by omega) hc)
      have hbd := hFb c x
      clear hFb hF
      generalize F c x = y at *
      have hlt := World.block_lt_of_cell? w _ hcell
      have hcell2 : ∀ o, (w.alloc o).cell? ⟨b, x * 7 + c, none⟩ = some (.int .i8 (y : Nat)) := fun o => (World.cell?_of_block (Below.heap_alloc w o b hlt)).trans hcell
      go_enter Tryd.func67, Tryd.ntmps67
      go_wp2_with fail
      go_quiet (fail)
      go_wp2_with fail
      go_ret
      exact ⟨rfl, bel_drewN ((Below.refl _ _).alloc (Nat.le_refl _) _) _⟩
end Go.Proofs.YthgagidpnnaajaaDoor
