/- The program's chapter 7: strokes, stems, digits by their weights. -/
import Derived.Test.YtdokdlcmplggfaaDoorVT
import Derived.Test.YtdokdlcmplggfaaDoorVC
import Derived.OwnWalk
import Derived.Lib.Hide
namespace Go.Proofs.YtdokdlcmplggfaaDoor
open Go.RowKit
set_option linter.unusedVariables false
set_option maxRecDepth 100000
/-- the cells of strokes -/
def skC (L : List Stk) : List Value := L.flatMap fun s => [.int .i64 (s.1 : Nat), .int .i64 (s.2 : Nat)]
theorem skC_append (a b : List Stk) : skC (a ++ b) = skC a ++ skC b := by simp [skC]
theorem skC_length (a : List Stk) : (skC a).length = a.length * 2 := by
  induction a with
  | nil => rfl
  | cons s r ih =>
    have e : skC (s :: r) = .int .i64 (s.1 : Nat) :: .int .i64 (s.2 : Nat) :: skC r := by simp [skC]
    rw [e, List.length_cons, List.length_cons, ih, List.length_cons]; omega
theorem skC_at : ∀ (a : List Stk) (i : Nat) (h : i < a.length), (skC a)[i * 2]? = some (.int .i64 (a[i].1 : Nat)) ∧ (skC a)[i * 2 + 1]? = some (.int .i64 (a[i].2 : Nat))
  | [], i, h => by simp at h
  | s :: r, 0, _ => by simp [skC]
  | s :: r, i + 1, h => by
    have ih := skC_at r i (by simpa using h)
    have e : skC (s :: r) = .int .i64 (s.1 : Nat) :: .int .i64 (s.2 : Nat) :: skC r := by simp [skC]
    rw [e, show (i + 1) * 2 = i * 2 + 1 + 1 by omega]
    simpa using ih
/-- a stem in memory: its strokes can be read -/
def SkR (w : World) (v : Value) (L : List Stk) : Prop := ∃ (a : Option Addr) (cap : Nat), v = .slice a L.length cap ∧ ∀ i (h : i < L.length), ∃ b, a = some ⟨b, 0, none⟩ ∧ b < w.heap.size ∧ w.cell? ⟨b, i * 2, none⟩ = some (.int .i64 (L[i].1 : Nat)) ∧ w.cell? ⟨b, i * 2 + 1, none⟩ = some (.int .i64 (L[i].2 : Nat))
theorem SkR.of_own {w : World} {base : Nat} {T : TypeId} {v : Value} {L : List Stk} (h : w.ownsRow base T 2 v L.length (skC L)) : SkR w v L := by
  rcases h.2 with ⟨rfl, h0⟩ | ⟨g, cap, cur, rfl, hb, hg, _, _, hcs, htk⟩
  · exact ⟨none, 0, by rw [h0], fun i hi => by omega⟩
  · refine ⟨some ⟨g, 0, none⟩, cap, rfl, fun i hi => ⟨g, rfl, lt_of_block' hg, ?_⟩⟩
    have hat := skC_at L i hi
    rw [← htk, List.getElem?_take, List.getElem?_take, if_pos (by omega), if_pos (by omega), Array.getElem?_toList, Array.getElem?_toList] at hat
    exact ⟨cell_at hg hat.1, cell_at hg hat.2⟩
theorem SkR.below {w w' : World} {v : Value} {L : List Stk} (h : SkR w v L) (g : Below w.heap.size w w') : SkR w' v L := by
  obtain ⟨a, cap, rfl, h⟩ := h
  refine ⟨a, cap, rfl, fun i hi => ?_⟩
  obtain ⟨b, e, hb, h1, h2⟩ := h i hi
  exact ⟨b, e, Nat.lt_of_lt_of_le hb g.size, (g.cell (p := ⟨b, i * 2, none⟩) hb).trans h1, (g.cell (p := ⟨b, i * 2 + 1, none⟩) hb).trans h2⟩
theorem info_stk : (Tryd.prog.info? 52).map (fun i => (i.zero, i.size, i.bytes)) = some (some (.agg #[.int .i64 0, .int .i64 0]), 2, 16) := by kernel_rfl
set_option maxHeartbeats 2000000 in
theorem weight_any (p k : Nat) (w : World) (hp : p < 4) (hk : k < 5) : Calls Tryd.prog 49 #[.agg #[.int .i64 p, .int .i64 k]] w fun e w' => e = .returned (.int .i64 (wt (p, k) : Nat)) ∧ Below w.heap.size w w' := by
  have hb : Below w.heap.size w (w.alloc (.cells #[.int .i64 p, .int .i64 k] 52)) := (Below.refl _ _).alloc (Nat.le_refl _) _
  rcases (show p = 0 ∨ p = 1 ∨ p = 2 ∨ p = 3 by omega) with rfl | rfl | rfl | rfl <;>
  rcases (show k = 0 ∨ k = 1 ∨ k = 2 ∨ k = 3 ∨ k = 4 by omega) with rfl | rfl | rfl | rfl | rfl <;>
  · go_enter Tryd.func49, Tryd.ntmps49
    go_wp2_with fail
    go_ret
    exact ⟨rfl, hb⟩
theorem vturned_any (p : Nat) (w : World) (hp : p < 4) (h : TP w) : Calls Tryd.prog 45 #[.int .i64 p] w fun e w' => e = .returned (.int .i64 (tpl p : Nat)) ∧ w = w' := by
  have hc := h.2 p hp
  go_enter Tryd.func45, Tryd.ntmps45
  go_wp2_with fail
  go_ret
  exact ⟨rfl, rfl⟩
theorem mirrored_any (p : Nat) (w : World) (hp : p < 4) (h : MP w) : Calls Tryd.prog 46 #[.int .i64 p] w fun e w' => e = .returned (.int .i64 (mpl p : Nat)) ∧ w = w' := by
  have hc := h.2 p hp
  go_enter Tryd.func46, Tryd.ntmps46
  go_wp2_with fail
  go_ret
  exact ⟨rfl, rfl⟩
end Go.Proofs.YtdokdlcmplggfaaDoor
