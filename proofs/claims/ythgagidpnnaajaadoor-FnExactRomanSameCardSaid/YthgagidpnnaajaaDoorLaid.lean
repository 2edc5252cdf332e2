/- The package-level table letterValues: what the condition gives the walks, and that it reads again behind the call. -/
import Derived.Test.YthgagidpnnaajaaDoorRows
import Derived.Test.YthgagidpnnaajaaDoorTV
import Derived.ProofKit
import Derived.LaidMore
import Derived.OpenShut
import Derived.Stop.Joined
import Derived.MakeChecks
import Derived.WalkSmall
import Derived.ChangeVars
import Derived.Below
namespace Go.Proofs.YthgagidpnnaajaaDoor
open Go.ChangeShapes Go.WideShapes Go.ChangeAt Go.WideMaps Go.WideElems Go.RowKit
set_option linter.unusedVariables false
set_option maxRecDepth 100000
/-- the values of the letters, in the order of their bytes; 0 behind them -/
def lv (j : Nat) : Int := [100, 500, 1, 50, 1000, 5, 10].getD j 0
/-- the table lies in its variable's block -/
def LV (w : World) : Prop := 0 < w.heap.size ∧ ∀ j, j < 7 → w.cell? ⟨0, j, none⟩ = some (.int .i64 (lv j))
def lvLaid : List (String × DataW Unit) := [("loop.example/peoplesnumerals/impl.letterValues", Rows.laid_loop_example_peoplesnumerals_impl_letterValues)]
def laidSteps : Nat := 400
theorem gLV : Tryd.prog.globalNamed "loop.example/peoplesnumerals/impl.letterValues" = some 0 := by kernel_rfl
theorem tLV : (Tryd.prog.globals[0]?).map (·.type) = some 87 := by kernel_rfl
theorem cLV : Tryd.prog.cellsOf 87 = 7 := by kernel_rfl
theorem cInt : Tryd.prog.cellsOf 3 = 1 := by kernel_rfl
def cells7 : Array Value := #[.int .i64 100, .int .i64 500, .int .i64 1, .int .i64 50, .int .i64 1000, .int .i64 5, .int .i64 10]
theorem door_met (os : Os) (args : Array Value) : laidMetH Tryd.prog lvLaid ((World.doorLaid Tryd.prog laidSteps os).forCall (fun _ _ => 0) ⟨#[], args, []⟩).memory :=
  laidMetH_of_parts3 (fuel := 8) (laidMet_of_run' 8 (by kernel_rfl) (by kernel_rfl)) (by kernel_rfl) (by kernel_rfl)
theorem int_of_trod {H : Type} {enc : TypeId × Value → H} {P : Program} {w : World} {base : Nat} {sp : Nat → Bool} {held : Bool} {fuel : Nat} {t : TypeId} {k : IntKind} {c : Value} {y : DataW H × List MemPlace}
    (ht : P.underlying t = some (.int k)) (h : DataW.trod enc P w base sp held fuel t [c] = some y) : ∃ n, c = .int k n ∧ y = (.lit (.int k n), []) := by
  cases fuel with
  | zero => simp [DataW.trod] at h
  | succ fuel =>
    cases c <;> simp [DataW.trod, ht] at h
    rename_i k' n
    obtain ⟨⟨rfl, _⟩, rfl⟩ := h
    exact ⟨n, rfl, rfl⟩
theorem cells_of_item {W : World} (h : LaidItem Tryd.prog W "loop.example/peoplesnumerals/impl.letterValues" Rows.laid_loop_example_peoplesnumerals_impl_letterValues) : W.var? Tryd.prog "loop.example/peoplesnumerals/impl.letterValues" = some cells7 := by
  obtain ⟨g, t, cs, fuel, p, hg, ht, hvar, hd⟩ := h
  obtain rfl := Option.some.inj (gLV.symm.trans hg)
  obtain rfl := Option.some.inj (tLV.symm.trans ht)
  rw [hvar]
  congr 1
  obtain ⟨l⟩ := cs
  cases fuel with
  | zero => simp [DataW.trod] at hd
  | succ fuel =>
    simp only [DataW.trod, Tryd.underlying87, cLV, cInt] at hd
    split at hd
    · rename_i hl
      obtain ⟨c0, c1, c2, c3, c4, c5, c6, rfl⟩ : ∃ c0 c1 c2 c3 c4 c5 c6, l = [c0, c1, c2, c3, c4, c5, c6] := by
        match l, hl with
        | [a, b, c, d, e, f, g], _ => exact ⟨a, b, c, d, e, f, g, rfl⟩
      have e : List.range 7 = [0, 1, 2, 3, 4, 5, 6] := rfl
      rw [e] at hd
      simp only [Option.map_eq_some_iff, List.mapM_cons, List.mapM_nil, Option.bind_eq_bind, Option.bind_eq_some_iff, Option.pure_def, Option.some.injEq] at hd
      obtain ⟨xs, ⟨y0, h0, _, ⟨y1, h1, _, ⟨y2, h2, _, ⟨y3, h3, _, ⟨y4, h4, _, ⟨y5, h5, _, ⟨y6, h6, _, rfl, rfl⟩, rfl⟩, rfl⟩, rfl⟩, rfl⟩, rfl⟩, rfl⟩, hx⟩ := hd
      obtain ⟨n0, rfl, rfl⟩ := int_of_trod Tryd.underlying3 h0
      obtain ⟨n1, rfl, rfl⟩ := int_of_trod Tryd.underlying3 h1
      obtain ⟨n2, rfl, rfl⟩ := int_of_trod Tryd.underlying3 h2
      obtain ⟨n3, rfl, rfl⟩ := int_of_trod Tryd.underlying3 h3
      obtain ⟨n4, rfl, rfl⟩ := int_of_trod Tryd.underlying3 h4
      obtain ⟨n5, rfl, rfl⟩ := int_of_trod Tryd.underlying3 h5
      obtain ⟨n6, rfl, rfl⟩ := int_of_trod Tryd.underlying3 h6
      simp [Rows.laid_loop_example_peoplesnumerals_impl_letterValues] at hx
      obtain ⟨⟨rfl, rfl, rfl, rfl, rfl, rfl, rfl⟩, _⟩ := hx
      rfl
    · cases hd
theorem cells_of_laid {W : World} (h : laidMetH Tryd.prog lvLaid W) : W.var? Tryd.prog "loop.example/peoplesnumerals/impl.letterValues" = some cells7 := by
  rw [MakeChecks.laidMetH_plain _ _ _ (by kernel_rfl)] at h
  obtain ⟨ps, ⟨g, t, cs, fuel, p, q, hg, ht, hvar, hd, _, _⟩, _⟩ := h
  exact cells_of_item ⟨g, t, cs, fuel, p, hg, ht, hvar, hd⟩
theorem lv_var {W : World} (hv : W.var? Tryd.prog "loop.example/peoplesnumerals/impl.letterValues" = some cells7) : LV W := by
  have hc : ∀ j, W.cell? ⟨0, j, none⟩ = cells7[j]? := fun j => World.var?_cell gLV hv j
  refine ⟨World.block_lt_of_cell? W ⟨0, 0, none⟩ (u := .int .i64 100) (hc 0), fun j hj => ?_⟩
  rw [hc j]
  rcases (show j = 0 ∨ j = 1 ∨ j = 2 ∨ j = 3 ∨ j = 4 ∨ j = 5 ∨ j = 6 by omega) with rfl | rfl | rfl | rfl | rfl | rfl | rfl <;> rfl
theorem lv_of_laid {W : World} (h : laidMetH Tryd.prog lvLaid W) : LV W := lv_var (cells_of_laid h)
abbrev tableH {H : Type} : DataW H := .agg [.lit (.int .i64 100), .lit (.int .i64 500), .lit (.int .i64 1), .lit (.int .i64 50), .lit (.int .i64 1000), .lit (.int .i64 5), .lit (.int .i64 10)]
theorem reads_table {H : Type} (enc : TypeId × Value → H) (W : World) (sp : Nat → Bool) : DataW.trod enc Tryd.prog W 0 sp true 3 87 cells7.toList = some (tableH, []) := by kernel_rfl
theorem tab_lv {W : World} (h : LaidItem Tryd.prog W "loop.example/peoplesnumerals/impl.letterValues" Rows.laid_loop_example_peoplesnumerals_impl_letterValues) : LV W ∧ TabAt Tryd.prog W "loop.example/peoplesnumerals/impl.letterValues" := by
  have hv := cells_of_item h
  have hf := lv_var hv
  exact ⟨hf, _, _, _, gLV, tLV, hv, hf.1, fun H enc => ⟨tableH, fun W' sp => reads_table enc W' sp⟩⟩
theorem laid_open {H : Type} {enc : TypeId × Value → H} {W : World} {gs : List (DataW H)} {q : List MemPlace} (hL : laidMetH Tryd.prog lvLaid W)
    (hV : DataW.TrodVars enc Tryd.prog W (fun _ => true) ["loop.example/peoplesnumerals/impl.letterValues"] gs q) :
    LV W ∧ ∃ d, gs = [d] ∧ ∃ pv, ∀ (sp : Nat → Bool) {W' : World}, Below W.heap.size W W' → DataW.TrodVars enc Tryd.prog W' sp ["loop.example/peoplesnumerals/impl.letterValues"] [d] pv := by
  have hlv := lv_of_laid hL
  obtain ⟨g, t, cs, fuel, d, p', rfl, hg, ht, hvar, hd, rfl⟩ := trodVars_one hV
  obtain rfl := Option.some.inj (gLV.symm.trans hg)
  obtain rfl := Option.some.inj (tLV.symm.trans ht)
  obtain rfl : cs = cells7 := Option.some.inj (hvar.symm.trans (cells_of_laid hL))
  obtain ⟨rfl, rfl⟩ := DataW.Trod.unique (v := .agg cells7) ⟨fuel, hd⟩ ⟨3, reads_table enc W _⟩
  refine ⟨hlv, _, rfl, MemPlace.row ⟨0, 0, none⟩ cells7.size ++ [] ++ [], fun sp W' bel => ?_⟩
  exact ⟨0, 87, cells7, 3, [], [], gLV, tLV, var?_below bel gLV hlv.1 hvar, reads_table enc W' sp, rfl, rfl⟩
theorem LV.below {B : Nat} {w w' : World} (h : LV w) (hb : Below B w w') (hB : 0 < B) : LV w' :=
  ⟨Nat.lt_of_lt_of_le h.1 hb.size, fun j hj => (hb.cell (p := ⟨0, j, none⟩) hB).trans (h.2 j hj)⟩
theorem LV.step {w w' : World} (h : LV w) (hb : Below w.heap.size w w') : LV w' := h.below hb h.1
theorem LV.alloc {w : World} (h : LV w) (o : Obj) : LV (w.alloc o) := h.step ((Below.refl _ _).alloc (Nat.le_refl _) o)
theorem LV.grown {w w' : World} {r : Nat} (h : LV w) (hg : w.grownBy w' (some r)) (hr : 0 < r) : LV w' :=
  ⟨Nat.lt_of_lt_of_le h.1 hg.size, fun j hj => hg.cell (h.2 j hj) (by simp; omega)⟩
end Go.Proofs.YthgagidpnnaajaaDoor
