/- Rows of values of one cell each: a part of a row loaded and stored; signed piles as values. -/
import Derived.Test.YtgcalmenlcpjpaaDoorBI9
import Derived.Test.YtgcalmenlcpjpaaDoorVS
import Derived.Test.YtgcalmenlcpjpaaDoorTI
import Derived.Test.YtgcalmenlcpjpaaDoorEB
namespace Go.Proofs.YtgcalmenlcpjpaaDoor
open Go.RowKit
set_option linter.unusedVariables false
set_option maxRecDepth 100000
/-- a signed pile's cells: six numbers of signs, six marks of those that are taken off -/
def sgV (p : Nat → Int) (t : Nat → Bool) (j : Nat) : Value := if j < 6 then .int .i64 (p j) else .bool (t (j - 6))
def sgA (p : Nat → Int) (t : Nat → Bool) : Array Value := (vals (sgV p t) 12).toArray
theorem sgV_one (p : Nat → Int) (t : Nat → Bool) (n : Nat) : OneV (sgV p t) n := fun j _ => by unfold sgV; split <;> rfl
theorem sgV_num (p : Nat → Int) (t : Nat → Bool) (j : Nat) (h : j < 6) : sgV p t j = .int .i64 (p j) := if_pos h
theorem sgV_mark (p : Nat → Int) (t : Nat → Bool) (j : Nat) : sgV p t (6 + j) = .bool (t j) := by unfold sgV; rw [if_neg (by omega)]; congr 2; omega
theorem sgA_congr {p q : Nat → Int} {t s : Nat → Bool} (h : ∀ j, j < 6 → p j = q j) (h' : ∀ j, j < 6 → t j = s j) : sgA p t = sgA q s := by
  unfold sgA
  rw [vals_congr]
  intro k hk
  unfold sgV
  split
  · rw [h k (by assumption)]
  · rw [h' (k - 6) (by omega)]
def zero12 : Array Value := #[.int .i64 0, .int .i64 0, .int .i64 0, .int .i64 0, .int .i64 0, .int .i64 0, .bool false, .bool false, .bool false, .bool false, .bool false, .bool false]
theorem zero12_eq : zero12 = sgA (fun _ => 0) (fun _ => false) := rfl
theorem szSg : (Tryd.prog.info? 50).map (·.size) = some 12 := by kernel_rfl
def Sg (w : World) (b : Nat) (p : Nat → Int) (t : Nat → Bool) : Prop := VRow 50 w b 12 (sgV p t)
theorem sg_new (w : World) (p : Nat → Int) (t : Nat → Bool) : Sg (w.alloc (.cells (sgA p t) 50)) w.heap.size p t := VRow.new w _ 12 _
theorem sg_zero (w : World) : Sg (w.alloc (.cells zero12 50)) w.heap.size (fun _ => 0) (fun _ => false) := by rw [zero12_eq]; exact sg_new w _ _
theorem sg_num6 (p : Nat → Int) (t : Nat → Bool) : (vals (fun j => sgV p t (0 + j)) 6).toArray = arr6 p := by
  unfold arr6 intCells
  exact congrArg List.toArray (List.map_congr_left fun k hk => by rw [Nat.zero_add]; exact sgV_num p t k (List.mem_range.1 hk))
theorem sg_all (p : Nat → Int) (t : Nat → Bool) : (vals (fun j => sgV p t (0 + j)) 12).toArray = sgA p t := by
  unfold sgA
  exact congrArg List.toArray (vals_congr fun k _ => by rw [Nat.zero_add])
theorem set_num {w : World} {b : Nat} {p : Nat → Int} {t : Nat → Bool} (h : Sg w b p t) (k : Nat) (hk : k < 6) (x : Int) : Sg (w.setCell ⟨b, k, none⟩ (.int .i64 x)) b (fun j => if j = k then x else p j) t :=
  (VRow.set_ h k (.int .i64 x)).congr fun j hj => by
    unfold sgV
    by_cases e : j = k
    · subst e; simp [hk]
    · simp [e]
theorem set_mark {w : World} {b : Nat} {p : Nat → Int} {t : Nat → Bool} (h : Sg w b p t) (k : Nat) (x : Bool) : Sg (w.setCell ⟨b, 6 + k, none⟩ (.bool x)) b p (fun j => if j = k then x else t j) :=
  (VRow.set_ h (6 + k) (.bool x)).congr fun j hj => by
    unfold sgV
    by_cases e : j = 6 + k
    · subst e; simp
    · by_cases g : j < 6
      · simp [e, g]
      · have e2 : ¬ j - 6 = k := by omega
        simp [e, g, e2]
end Go.Proofs.YtgcalmenlcpjpaaDoor
