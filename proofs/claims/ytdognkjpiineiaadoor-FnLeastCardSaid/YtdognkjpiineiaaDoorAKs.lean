/- The program's letters in the order of texts: compareSigns, allLetters (slices.SortFunc by the library's contract). -/
import Derived.Test.YtdognkjpiineiaaDoorAF
import Derived.Test.YtdognkjpiineiaaDoorSort
namespace Go.Proofs.YtdognkjpiineiaaDoor
open Go.RowKit
set_option linter.unusedVariables false
set_option maxRecDepth 100000
set_option maxRecDepth 100000 in
theorem compareString_any (a b : ByteArray) (w : World) : Calls Tryd.prog 68 #[.string a, .string b] w fun e w' => e = .returned (.int .i64 (Lib.compareBytes a.data.toList b.data.toList)) ∧ w = w' := by
  have H := Lib.hid (Lib.run_compareString (P := Tryd.prog) a b w)
  go_enter Tryd.func68, Tryd.ntmps68
  go_wp2
  rw [run_callFunc_extern Tryd.func81 (by kernel_rfl) (by kernel_rfl) (by kernel_rfl) (e := Extern.BytealgCompare.compare) (by kernel_rfl), H.out]
  simp only [Result.andThen]
  rw [Oper.upon_value]
  go_wp2
  go_ret
  exact ⟨rfl, rfl⟩
theorem stringsCompare_any (a b : ByteArray) (w : World) : Calls Tryd.prog 62 #[.string a, .string b] w fun e w' => e = .returned (.int .i64 (Lib.compareBytes a.data.toList b.data.toList)) ∧ w = w' := by
  go_enter Tryd.func62, Tryd.ntmps62
  go_wp2_with fail
  refine (compareString_any _ _ _).mono ?_
  rintro e w1 ⟨rfl, rfl⟩
  go_wp2_with fail
  go_ret
  exact ⟨rfl, rfl⟩
/-- what compareSigns says of two letters -/
def cmpL (x y : Fin 27) : Int := Lib.compareBytes [lt x.val] [lt y.val]
theorem compareSigns_any (x y : Fin 27) (w : World) : Calls Tryd.prog 52 #[.int .i64 (x.val : Nat), .int .i64 (y.val : Nat)] w fun e w' => e = .returned (.int .i64 (cmpL x y)) ∧ w = w' := by
  obtain ⟨x, hx⟩ := x
  obtain ⟨y, hy⟩ := y
  unfold cmpL
  dsimp only
  go_enter Tryd.func52, Tryd.ntmps52
  go_wp2_with fail
  refine (aSign_any x _ hx).mono ?_
  rintro e w1 ⟨rfl, rfl⟩
  go_wp2_with fail
  refine (aSign_any y _ hy).mono ?_
  rintro e w1 ⟨rfl, rfl⟩
  go_wp2_with fail
  refine (stringsCompare_any _ _ _).mono ?_
  rintro e w1 ⟨rfl, rfl⟩
  go_wp2_with fail
  go_ret
  exact ⟨rfl, rfl⟩
/-- a letter's place in the order of texts -/
def ord27 (x : Fin 27) : Nat := if x.val = 26 then 0 else x.val + 1
theorem lt_ord : ∀ x y : Fin 27, ltOf cmpL x y = decide (ord27 x < ord27 y) := by decide +kernel
theorem ord_inj : ∀ x y : Fin 27, ord27 x = ord27 y → x = y := by decide +kernel
theorem swo27 : Go.Sort.SWO (ltOf cmpL) where
  irrefl x := by rw [lt_ord]; simp
  trans x y z h1 h2 := by rw [lt_ord] at *; simp at *; omega
  ntrans x y z h1 h2 := by rw [lt_ord] at *; simp at *; omega
theorem total27 (x y : Fin 27) (h1 : ltOf cmpL x y = false) (h2 : ltOf cmpL y x = false) : x = y := by
  rw [lt_ord] at h1 h2
  simp at h1 h2
  exact ord_inj x y (by omega)
/-- the letters before and after -/
def start27 : Array (Fin 27) := (List.finRange 27).toArray
def sorted27 : Array (Fin 27) := ((26 : Fin 27) :: (List.finRange 26).map (fun i => ⟨i.val, by omega⟩)).toArray
theorem sorted27_perm : Go.Sort.PermIn 0 start27.size start27 sorted27 := by
  refine ⟨by decide, fun i hi => ?_, List.isPerm_iff.1 (by decide +kernel)⟩
  have h : 27 ≤ i := by
    rcases hi with h | h
    · exact absurd h (Nat.not_lt_zero _)
    · exact h
  rw [getElem!_neg start27 i (by show ¬ i < 27; omega), getElem!_neg sorted27 i (by show ¬ i < 27; omega)]
theorem sorted27_sorted : Go.Sort.SortedIn (ltOf cmpL) 0 start27.size sorted27 := by
  intro i j _ hij hj
  have h : ∀ j, j < 27 → ∀ i, i < j → ltOf cmpL sorted27[j]! sorted27[i]! = false := by decide +kernel
  exact h j hj i hij
theorem sort27 : (start27.toList.mergeSort fun x y => !(ltOf cmpL) y x).toArray = sorted27 := by
  rw [← Go.Sort.sorted_unique_holds swo27 total27 start27 sorted27 sorted27_perm sorted27_sorted]
theorem sorted27_at : ∀ j, j < 27 → (sorted27[j]!).val = at27 j := by decide +kernel
theorem below_sorted {α : Type} [Inhabited α] {B blk : Nat} (enc : α → Value) (w : World) (off m : Nat) (d : Array α) (os : Array Obj) (hB : B ≤ blk) (hw : B ≤ w.heap.size) : Below B w (sortWorld enc w blk off m d os) := by
  refine ⟨rfl, rfl, rfl, ?_, fun k hk => ?_⟩
  · show w.heap.size ≤ ((w.heap.modify blk _) ++ os).size
    simp
  · show ((w.heap.modify blk _) ++ os)[k]? = w.heap[k]?
    rw [Array.getElem?_append_left (by simp; omega), Array.getElem?_modify, if_neg (by omega)]
end Go.Proofs.YtdognkjpiineiaaDoor
