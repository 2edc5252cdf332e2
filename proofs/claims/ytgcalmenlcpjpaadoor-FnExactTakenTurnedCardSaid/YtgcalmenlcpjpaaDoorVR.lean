/- Rows of values of one cell each, of whatever type. -/
import Derived.Test.YtgcalmenlcpjpaaDoorBL
namespace Go.Proofs.YtgcalmenlcpjpaaDoor
open Go.RowKit
set_option linter.unusedVariables false
set_option maxRecDepth 100000
def vals (v : Nat → Value) (n : Nat) : List Value := (List.range n).map v
theorem vals_at (v : Nat → Value) (n k : Nat) (h : k < n) : (vals v n)[k]? = some (v k) := by simp [vals, h]
theorem vals_len (v : Nat → Value) (n : Nat) : (vals v n).length = n := by simp [vals]
theorem vals_congr {u v : Nat → Value} {n : Nat} (h : ∀ k, k < n → u k = v k) : vals u n = vals v n :=
  List.map_congr_left fun k hk => by rw [h k (List.mem_range.1 hk)]
/-- a block of just n values, of type T -/
def VRow (T : TypeId) (w : World) (b n : Nat) (v : Nat → Value) : Prop := w.heap[b]? = some (.cells (vals v n).toArray T (0, 0))
section
variable {T : TypeId} {w w' : World} {b n : Nat} {u v : Nat → Value}
theorem VRow.lt (h : VRow T w b n v) : b < w.heap.size := lt_of_block' h
theorem VRow.cell (h : VRow T w b n v) (k : Nat) (hk : k < n) : w.cell? ⟨b, k, none⟩ = some (v k) := cell_at h (by rw [List.getElem?_toArray]; exact vals_at v n k hk)
theorem VRow.frozen (h : VRow T w b n v) (k : Nat) : w.frozen? ⟨b, k, none⟩ = false := by
  unfold VRow at h
  simp [World.frozen?, h]
theorem VRow.congr (h : VRow T w b n v) (e : ∀ k, k < n → v k = u k) : VRow T w b n u := by
  unfold VRow at h ⊢
  rw [h, vals_congr e]
theorem VRow.keep (h : VRow T w b n v) (e : w'.heap[b]? = w.heap[b]?) : VRow T w' b n v := e.trans h
theorem VRow.below (h : VRow T w b n v) (g : Below w.heap.size w w') : VRow T w' b n v := h.keep (g.block b h.lt)
theorem VRow.belowB {B : Nat} (h : VRow T w b n v) (g : Below B w w') (hb : b < B) : VRow T w' b n v := h.keep (g.block b hb)
theorem VRow.set_ (h : VRow T w b n v) (k : Nat) (x : Value) : VRow T (w.setCell ⟨b, k, none⟩ x) b n (fun j => if j = k then x else v j) := by
  unfold VRow at h ⊢
  have e : (vals v n).toArray.setIfInBounds k x = (vals (fun j => if j = k then x else v j) n).toArray := by
    apply Array.ext
    · simp [vals]
    · intro i h1 h2
      simp only [Array.size_setIfInBounds, List.size_toArray, vals_len] at h1
      by_cases e : k = i
      · subst e; simp [vals]
      · rw [Array.getElem_setIfInBounds_ne (by simpa [vals] using h1) e]
        simp [vals, Ne.symm e]
  simp only [World.setCell, Array.getElem?_modify, h, if_true, Option.map_some]
  rw [← e]
  rfl
theorem VRow.new (w : World) (T : TypeId) (n : Nat) (v : Nat → Value) : VRow T (w.alloc (.cells (vals v n).toArray T)) w.heap.size n v := heap_alloc_new w _
theorem VRow.alloc (h : VRow T w b n v) (o : Obj) : VRow T (w.alloc o) b n v := (Below.heap_alloc w o b h.lt).trans h
theorem VRow.upto {k : Nat} {z : Value} (h : VRow T w b n (fun j => if j < k then v j else z)) : VRow T (w.setCell ⟨b, k, none⟩ (v k)) b n (fun j => if j < k + 1 then v j else z) :=
  (h.set_ k (v k)).congr fun j hj => by
    by_cases e : j = k
    · subst e; simp
    · rw [if_neg e]
      by_cases h2 : j < k
      · rw [if_pos h2, if_pos (by omega)]
      · rw [if_neg h2, if_neg (by omega)]
end
theorem made_vals (z : Value) (hz : z.cells = #[z]) (n : Nat) : madeCells z.cells (n * 1) = (vals (fun _ => z) n).toArray := by
  rw [hz]
  apply Array.ext
  · simp [madeCells, vals]
  · intro i h1 h2
    simp [madeCells, vals, Nat.mod_one]
theorem wpList_make_vals {P : Program} (w : World) {ops : Array Oper} {rest : List Oper} {o : Oper} {a : Act} {Q : Exit → Act → World → Prop}
    (hg : o.guard = none) (l c : Operand) (t T : TypeId) (hop : o.op = Op.makeSlice t l c) (z : Value) (hzc : z.cells = #[z])
    (i : TypeInfo) (ht : P.underlying t = some (.slice T)) (hi : P.info? T = some i) (hz : i.zero = some z) (hsize : i.size = 1) (hby : i.bytes ≤ 16)
    (n : Nat) (hn : n ≤ 10000000) (hl : a.eval l = .int .i64 (n : Int)) (hc : a.eval c = .int .i64 (n : Int))
    (hK : ∀ w', VRow T w' w.heap.size n (fun _ => z) → Below w.heap.size w w' → w'.heap.size = w.heap.size + 1 → wpList P ops Q rest (a.put o.dst (.slice (some ⟨w.heap.size, 0, none⟩) n n)) w') :
    wpList P ops Q (o :: rest) a w := by
  refine wpList_plain hg fun K hK' => ?_
  have hb' : (i.bytes : Int) * (n : Int) ≤ 281474976710656 := by
    have h1 := Int.mul_le_mul (show (i.bytes : Int) ≤ 16 by omega) (show (n : Int) ≤ 10000000 by omega) (by omega) (by omega)
    omega
  have hrun := run_make (P := P) w t T i z ht hi hz .i64 .i64 n n (by omega) (Int.le_refl _) hb' (by omega)
  simp only [Int.toNat_natCast, hsize, made_vals z hzc] at hrun
  unfold Oper.wp
  simp [execOp, hop, hl, hc, hrun, Result.andThen]
  exact hK' _ _ (hK _ (VRow.new w T n _) ((Below.refl _ _).alloc (Nat.le_refl _) _) (by simp))
end Go.Proofs.YtgcalmenlcpjpaaDoor
