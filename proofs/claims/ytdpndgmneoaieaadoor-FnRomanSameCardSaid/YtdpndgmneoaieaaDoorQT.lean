/- The model's l1Table: rows of bools. -/
import Derived.Test.YtdpndgmneoaieaaDoorQ
import Derived.Test.YtdpndgmneoaieaaDoorSL
import Derived.Deep.OwnRows
namespace Go.Proofs.YtdpndgmneoaieaaDoor
open Go.RowKit
set_option linter.unusedVariables false
theorem l1Letters_any (w : World) : Calls Tryd.prog 17 #[] w fun e w' => e = .returned (.string ⟨#[67, 68, 73, 76, 77, 86, 88]⟩) ∧ w = w' := by
  go_enter Tryd.func17, Tryd.ntmps17
  go_wp2
  go_ret
  exact ⟨rfl, rfl⟩
/-- the cells of a row of n bools -/
def boolArr (n : Nat) (P : Nat → Bool) : Array Value := ((List.range n).map fun x => Value.bool (P x)).toArray
theorem boolArr_at (n : Nat) (P : Nat → Bool) (x : Nat) (h : x < n) : (boolArr n P)[x]? = some (.bool (P x)) := by
  simp [boolArr, h]
theorem boolArr_size (n : Nat) (P : Nat → Bool) : (boolArr n P).size = n := by simp [boolArr]
theorem boolArr_set (n : Nat) (P : Nat → Bool) (y : Nat) (b : Bool) : (boolArr n P).setIfInBounds y (.bool b) = boolArr n (fun x => if x = y then b else P x) := by
  apply Array.ext
  · simp [boolArr]
  · intro i h1 h2
    have h2' : i < n := by simpa [boolArr] using h2
    simp only [boolArr]
    rw [Array.getElem_setIfInBounds (by simpa using h2')]
    by_cases e : y = i
    · subst e; simp
    · simp [e, Ne.symm e]
theorem boolArr_congr (n : Nat) (P Q : Nat → Bool) (h : ∀ x, x < n → P x = Q x) : boolArr n P = boolArr n Q := by
  unfold boolArr
  congr 1
  exact List.map_congr_left fun x hx => by rw [h x (List.mem_range.1 hx)]
theorem made_bool (n : Nat) : madeCells #[.bool false] n = boolArr n (fun _ => false) := by
  unfold madeCells boolArr
  apply Array.ext
  · simp
  · intro i h1 h2
    simp [Nat.mod_one]
theorem info_bool : (Tryd.prog.info? 4).map (fun i => (i.zero, i.size, i.bytes)) = some (some (.bool false), 1, 1) := by kernel_rfl
/-- make([]bool, n): the new row's block, in a world of which nothing else is told -/
theorem wpList_make_bools {P : Program} (w : World) {ops : Array Oper} {rest : List Oper} {o : Oper} {a : Act} {Q : Exit → Act → World → Prop}
    (hg : o.guard = none) (l c : Operand) (t : TypeId) (hop : o.op = Op.makeSlice t l c)
    (e : TypeId) (i : TypeInfo) (ht : P.underlying t = some (.slice e)) (hi : P.info? e = some i) (hz : i.zero = some (.bool false)) (hsize : i.size = 1) (hby : i.bytes = 1)
    (n : Nat) (hn : n ≤ 100000) (hl : a.eval l = .int .i64 (n : Int)) (hc : a.eval c = .int .i64 (n : Int))
    (hK : ∀ w', w'.heap[w.heap.size]? = some (.cells (boolArr n fun _ => false) e (0, 0)) → Below w.heap.size w w' → wpList P ops Q rest (a.put o.dst (.slice (some ⟨w.heap.size, 0, none⟩) n n)) w') :
    wpList P ops Q (o :: rest) a w := by
  refine wpList_make_row w hg l c t hop e i (.bool false) ht hi hz hsize rfl .i64 .i64 n hl hc (by rw [hby]; omega) (by omega) ?_
  rw [made_bool]
  exact hK _ (heap_alloc_new _ _) ((Below.refl _ _).alloc (Nat.le_refl _) _)
def rowVal (g : Nat) : Value := .slice (some ⟨g, 0, none⟩) 5001 5001
/-- the rows of a table in their blocks -/
def RowsOk (w : World) (B : Nat) (gs : List Nat) (T : Nat → Nat → Bool) : Prop := ∀ j (h : j < gs.length), B ≤ gs[j] ∧ w.heap[gs[j]]? = some (.cells (boolArr 5001 (T j)) 4 (0, 0))
theorem RowsOk.snoc {w : World} {B : Nat} {gs : List Nat} {T : Nat → Nat → Bool} {g : Nat} (h : RowsOk w B gs T) (hB : B ≤ g) (hg : w.heap[g]? = some (.cells (boolArr 5001 (T gs.length)) 4 (0, 0))) : RowsOk w B (gs ++ [g]) T := fun j hj => by
  by_cases e : j < gs.length
  · rw [List.getElem_append_left e]; exact h j e
  · have e2 : j = gs.length := by simp at hj; omega
    subst e2
    simp only [List.getElem_append_right (Nat.le_refl _), Nat.sub_self, List.getElem_cons_zero]
    exact ⟨hB, hg⟩
theorem RowsOk.kept {w w' : World} {B : Nat} {gs : List Nat} {T : Nat → Nat → Bool} (h : RowsOk w B gs T) (hk : ∀ j (hj : j < gs.length), w'.heap[gs[j]]? = w.heap[gs[j]]?) : RowsOk w' B gs T := fun j hj => ⟨(h j hj).1, (hk j hj).trans (h j hj).2⟩
theorem RowsOk.lt {w : World} {B : Nat} {gs : List Nat} {T : Nat → Nat → Bool} (h : RowsOk w B gs T) (j : Nat) (hj : j < gs.length) : gs[j] < w.heap.size := lt_of_block' (h j hj).2
theorem RowsOk.below {w w' : World} {B : Nat} {gs : List Nat} {T : Nat → Nat → Bool} (h : RowsOk w B gs T) (hb : Below w.heap.size w w') : RowsOk w' B gs T := h.kept fun j hj => hb.block _ (h.lt j hj)
theorem letters_at (k : Nat) (h : k < 7) : ∀ h', rv (((⟨#[67, 68, 73, 76, 77, 86, 88]⟩ : ByteArray)[k]'h').toNat : Int) = lv k := by
  rcases (show k = 0 ∨ k = 1 ∨ k = 2 ∨ k = 3 ∨ k = 4 ∨ k = 5 ∨ k = 6 by omega) with rfl | rfl | rfl | rfl | rfl | rfl | rfl <;> (intro _; rfl)
theorem exT_one (i : Nat) (hi : i < 7) (y : Nat) (hy : y < 5001) : (if y = (lv i).toNat then true else false) = exT 5000 1 i (y : Int) := by
  have hv := lv_bd i
  have hp := lv_pos i hi
  have e2 : lv 2 = 1 := rfl
  rw [Bool.eq_iff_iff, exT_succ]
  constructor
  · intro h
    have h' : y = (lv i).toNat := by
      by_cases e : y = (lv i).toNat
      · exact e
      · rw [if_neg e] at h; cases h
    refine ⟨by omega, 2, by omega, ?_⟩
    show decide (2 = 2 ∧ wo i 2 (y : Int) = 0) = true
    rw [decide_eq_true_eq]
    refine ⟨rfl, ?_⟩
    unfold wo
    rw [e2, if_neg (by omega)]
    omega
  · rintro ⟨_, f, hf, h⟩
    have h' : f = 2 ∧ wo i f (y : Int) = 0 := of_decide_eq_true h
    obtain ⟨rfl, h0⟩ := h'
    unfold wo at h0
    rw [e2, if_neg (by omega)] at h0
    rw [if_pos (by omega)]
end Go.Proofs.YtdpndgmneoaieaaDoor
