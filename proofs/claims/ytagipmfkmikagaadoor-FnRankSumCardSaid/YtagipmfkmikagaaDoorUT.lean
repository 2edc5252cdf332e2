/- The package-level table rankValues: what the condition gives the walks, and that it reads again behind the call. -/
import Derived.Test.YtagipmfkmikagaaDoorRows
import Derived.Test.YtagipmfkmikagaaDoorTV
import Derived.ProofKit
import Derived.LaidMore
import Derived.OpenShut
import Derived.Stop.Joined
import Derived.MakeChecks
import Derived.WalkSmall
import Derived.ChangeVars
import Derived.Below
namespace Go.Proofs.YtagipmfkmikagaaDoor
open Go.ChangeShapes Go.WideShapes Go.ChangeAt Go.WideMaps Go.WideElems Go.RowKit
set_option linter.unusedVariables false
set_option maxRecDepth 100000
/-- the values of the ranks -/
def rnv (j : Nat) : Int := [1, 10, 100, 1000, 10000].getD j 0
/-- the table lies in its variable's block -/
def RV (w : World) : Prop := 0 < w.heap.size ∧ ∀ j, j < 5 → w.cell? ⟨0, j, none⟩ = some (.int .i64 (rnv j))
def rvLaid : List (String × DataW Unit) := [("loop.example/peoplesnumerals/impl.rankValues", Rows.laid_loop_example_peoplesnumerals_impl_rankValues)]
def laidStepsR : Nat := 400
theorem gRVt : Tryd.prog.globalNamed "loop.example/peoplesnumerals/impl.rankValues" = some 0 := by kernel_rfl
theorem tRVt : (Tryd.prog.globals[0]?).map (·.type) = some 69 := by kernel_rfl
theorem cRVt : Tryd.prog.cellsOf 69 = 5 := by kernel_rfl
theorem cIntR : Tryd.prog.cellsOf 3 = 1 := by kernel_rfl
def cells5 : Array Value := #[.int .i64 1, .int .i64 10, .int .i64 100, .int .i64 1000, .int .i64 10000]
theorem door_metR (os : Os) (args : Array Value) : laidMetH Tryd.prog rvLaid ((World.doorLaid Tryd.prog laidStepsR os).forCall (fun _ _ => 0) ⟨#[], args, []⟩).memory :=
  laidMetH_of_parts3 (fuel := 8) (laidMet_of_run' 8 (by kernel_rfl) (by kernel_rfl)) (by kernel_rfl) (by kernel_rfl)
theorem int_of_trodR {H : Type} {enc : TypeId × Value → H} {P : Program} {w : World} {base : Nat} {sp : Nat → Bool} {held : Bool} {fuel : Nat} {t : TypeId} {k : IntKind} {c : Value} {y : DataW H × List MemPlace}
    (ht : P.underlying t = some (.int k)) (h : DataW.trod enc P w base sp held fuel t [c] = some y) : ∃ n, c = .int k n ∧ y = (.lit (.int k n), []) := by
  cases fuel with
  | zero => simp [DataW.trod] at h
  | succ fuel =>
    cases c <;> simp [DataW.trod, ht] at h
    rename_i k' n
    obtain ⟨⟨rfl, _⟩, rfl⟩ := h
    exact ⟨n, rfl, rfl⟩
theorem cells_of_itemR {W : World} (h : LaidItem Tryd.prog W "loop.example/peoplesnumerals/impl.rankValues" Rows.laid_loop_example_peoplesnumerals_impl_rankValues) : W.var? Tryd.prog "loop.example/peoplesnumerals/impl.rankValues" = some cells5 := by
  obtain ⟨g, t, cs, fuel, p, hg, ht, hvar, hd⟩ := h
  obtain rfl := Option.some.inj (gRVt.symm.trans hg)
  obtain rfl := Option.some.inj (tRVt.symm.trans ht)
  rw [hvar]
  congr 1
  obtain ⟨l⟩ := cs
  cases fuel with
  | zero => simp [DataW.trod] at hd
  | succ fuel =>
    simp only [DataW.trod, Tryd.underlying69, cRVt, cIntR] at hd
    split at hd
    · rename_i hl
      obtain ⟨c0, c1, c2, c3, c4, rfl⟩ : ∃ c0 c1 c2 c3 c4, l = [c0, c1, c2, c3, c4] := by
        match l, hl with
        | [a, b, c, d, e], _ => exact ⟨a, b, c, d, e, rfl⟩
      have e : List.range 5 = [0, 1, 2, 3, 4] := rfl
      rw [e] at hd
      simp only [Option.map_eq_some_iff, List.mapM_cons, List.mapM_nil, Option.bind_eq_bind, Option.bind_eq_some_iff, Option.pure_def, Option.some.injEq] at hd
      obtain ⟨xs, ⟨y0, h0, _, ⟨y1, h1, _, ⟨y2, h2, _, ⟨y3, h3, _, ⟨y4, h4, _, rfl, rfl⟩, rfl⟩, rfl⟩, rfl⟩, rfl⟩, hx⟩ := hd
      obtain ⟨n0, rfl, rfl⟩ := int_of_trodR Tryd.underlying3 h0
      obtain ⟨n1, rfl, rfl⟩ := int_of_trodR Tryd.underlying3 h1
      obtain ⟨n2, rfl, rfl⟩ := int_of_trodR Tryd.underlying3 h2
      obtain ⟨n3, rfl, rfl⟩ := int_of_trodR Tryd.underlying3 h3
      obtain ⟨n4, rfl, rfl⟩ := int_of_trodR Tryd.underlying3 h4
      simp [Rows.laid_loop_example_peoplesnumerals_impl_rankValues] at hx
      obtain ⟨⟨rfl, rfl, rfl, rfl, rfl⟩, _⟩ := hx
      rfl
    · cases hd
theorem cells_of_laidR {W : World} (h : laidMetH Tryd.prog rvLaid W) : W.var? Tryd.prog "loop.example/peoplesnumerals/impl.rankValues" = some cells5 := by
  rw [MakeChecks.laidMetH_plain _ _ _ (by kernel_rfl)] at h
  obtain ⟨ps, ⟨g, t, cs, fuel, p, q, hg, ht, hvar, hd, _, _⟩, _⟩ := h
  exact cells_of_itemR ⟨g, t, cs, fuel, p, hg, ht, hvar, hd⟩
theorem rv_var {W : World} (hv : W.var? Tryd.prog "loop.example/peoplesnumerals/impl.rankValues" = some cells5) : RV W := by
  have hc : ∀ j, W.cell? ⟨0, j, none⟩ = cells5[j]? := fun j => World.var?_cell gRVt hv j
  refine ⟨World.block_lt_of_cell? W ⟨0, 0, none⟩ (u := .int .i64 1) (hc 0), fun j hj => ?_⟩
  rw [hc j]
  rcases (show j = 0 ∨ j = 1 ∨ j = 2 ∨ j = 3 ∨ j = 4 by omega) with rfl | rfl | rfl | rfl | rfl <;> rfl
theorem rv_of_laid {W : World} (h : laidMetH Tryd.prog rvLaid W) : RV W := rv_var (cells_of_laidR h)
abbrev tableR {H : Type} : DataW H := .agg [.lit (.int .i64 1), .lit (.int .i64 10), .lit (.int .i64 100), .lit (.int .i64 1000), .lit (.int .i64 10000)]
theorem reads_tableR {H : Type} (enc : TypeId × Value → H) (W : World) (sp : Nat → Bool) : DataW.trod enc Tryd.prog W 0 sp true 3 69 cells5.toList = some (tableR, []) := by kernel_rfl
theorem tab_rv {W : World} (h : LaidItem Tryd.prog W "loop.example/peoplesnumerals/impl.rankValues" Rows.laid_loop_example_peoplesnumerals_impl_rankValues) : RV W ∧ TabAt Tryd.prog W "loop.example/peoplesnumerals/impl.rankValues" := by
  have hv := cells_of_itemR h
  have hf := rv_var hv
  exact ⟨hf, _, _, _, gRVt, tRVt, hv, hf.1, fun H enc => ⟨tableR, fun W' sp => reads_tableR enc W' sp⟩⟩
theorem laid_openR {H : Type} {enc : TypeId × Value → H} {W : World} {gs : List (DataW H)} {q : List MemPlace} (hL : laidMetH Tryd.prog rvLaid W)
    (hV : DataW.TrodVars enc Tryd.prog W (fun _ => true) ["loop.example/peoplesnumerals/impl.rankValues"] gs q) :
    RV W ∧ ∃ d, gs = [d] ∧ ∃ pv, ∀ (sp : Nat → Bool) {W' : World}, Below W.heap.size W W' → DataW.TrodVars enc Tryd.prog W' sp ["loop.example/peoplesnumerals/impl.rankValues"] [d] pv := by
  have hlv := rv_of_laid hL
  obtain ⟨g, t, cs, fuel, d, p', rfl, hg, ht, hvar, hd, rfl⟩ := trodVars_one hV
  obtain rfl := Option.some.inj (gRVt.symm.trans hg)
  obtain rfl := Option.some.inj (tRVt.symm.trans ht)
  obtain rfl : cs = cells5 := Option.some.inj (hvar.symm.trans (cells_of_laidR hL))
  obtain ⟨rfl, rfl⟩ := DataW.Trod.unique (v := .agg cells5) ⟨fuel, hd⟩ ⟨3, reads_tableR enc W _⟩
  refine ⟨hlv, _, rfl, MemPlace.row ⟨0, 0, none⟩ cells5.size ++ [] ++ [], fun sp W' bel => ?_⟩
  exact ⟨0, 69, cells5, 3, [], [], gRVt, tRVt, var?_below bel gRVt hlv.1 hvar, reads_tableR enc W' sp, rfl, rfl⟩
theorem RV.below {B : Nat} {w w' : World} (h : RV w) (hb : Below B w w') (hB : 0 < B) : RV w' :=
  ⟨Nat.lt_of_lt_of_le h.1 hb.size, fun j hj => (hb.cell (p := ⟨0, j, none⟩) hB).trans (h.2 j hj)⟩
theorem RV.step {w w' : World} (h : RV w) (hb : Below w.heap.size w w') : RV w' := h.below hb h.1
theorem RV.alloc {w : World} (h : RV w) (o : Obj) : RV (w.alloc o) := h.step ((Below.refl _ _).alloc (Nat.le_refl _) o)
theorem RV.grown {w w' : World} {r : Nat} (h : RV w) (hg : w.grownBy w' (some r)) (hr : 0 < r) : RV w' :=
  ⟨Nat.lt_of_lt_of_le h.1 hg.size, fun j hj => hg.cell (h.2 j hj) (by simp; omega)⟩
end Go.Proofs.YtagipmfkmikagaaDoor
