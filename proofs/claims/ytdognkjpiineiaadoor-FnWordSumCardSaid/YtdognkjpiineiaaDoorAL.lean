/- The package-level table alphaRankValues: what the condition gives the walks, and that it reads again behind the call. -/
import Derived.Test.YtdognkjpiineiaaDoorRows
import Derived.Test.YtdognkjpiineiaaDoorTV
import Derived.ProofKit
import Derived.LaidMore
import Derived.OpenShut
import Derived.Stop.Joined
import Derived.MakeChecks
import Derived.WalkSmall
import Derived.ChangeVars
import Derived.Below
namespace Go.Proofs.YtdognkjpiineiaaDoor
open Go.ChangeShapes Go.WideShapes Go.ChangeAt Go.WideMaps Go.WideElems Go.RowKit
set_option linter.unusedVariables false
set_option maxRecDepth 100000
/-- the values of the ranks -/
def rkv (j : Nat) : Int := [1, 10, 100].getD j 0
/-- the table lies in its variable's block -/
def AT (w : World) : Prop := 0 < w.heap.size ∧ ∀ j, j < 3 → w.cell? ⟨0, j, none⟩ = some (.int .i64 (rkv j))
def atLaid : List (String × DataW Unit) := [("loop.example/peoplesnumerals/impl.alphaRankValues", Rows.laid_loop_example_peoplesnumerals_impl_alphaRankValues)]
def laidStepsA : Nat := 400
theorem gAT : Tryd.prog.globalNamed "loop.example/peoplesnumerals/impl.alphaRankValues" = some 0 := by kernel_rfl
theorem tAT : (Tryd.prog.globals[0]?).map (·.type) = some 43 := by kernel_rfl
theorem cAT : Tryd.prog.cellsOf 43 = 3 := by kernel_rfl
theorem cIntA : Tryd.prog.cellsOf 3 = 1 := by kernel_rfl
def cells3 : Array Value := #[.int .i64 1, .int .i64 10, .int .i64 100]
theorem door_metA (os : Os) (args : Array Value) : laidMetH Tryd.prog atLaid ((World.doorLaid Tryd.prog laidStepsA os).forCall (fun _ _ => 0) ⟨#[], args, []⟩).memory :=
  laidMetH_of_parts3 (fuel := 8) (laidMet_of_run' 8 (by kernel_rfl) (by kernel_rfl)) (by kernel_rfl) (by kernel_rfl)
theorem int_of_trodA {H : Type} {enc : TypeId × Value → H} {P : Program} {w : World} {base : Nat} {sp : Nat → Bool} {held : Bool} {fuel : Nat} {t : TypeId} {k : IntKind} {c : Value} {y : DataW H × List MemPlace}
    (ht : P.underlying t = some (.int k)) (h : DataW.trod enc P w base sp held fuel t [c] = some y) : ∃ n, c = .int k n ∧ y = (.lit (.int k n), []) := by
  cases fuel with
  | zero => simp [DataW.trod] at h
  | succ fuel =>
    cases c <;> simp [DataW.trod, ht] at h
    rename_i k' n
    obtain ⟨⟨rfl, _⟩, rfl⟩ := h
    exact ⟨n, rfl, rfl⟩
theorem cells_of_itemA {W : World} (h : LaidItem Tryd.prog W "loop.example/peoplesnumerals/impl.alphaRankValues" Rows.laid_loop_example_peoplesnumerals_impl_alphaRankValues) : W.var? Tryd.prog "loop.example/peoplesnumerals/impl.alphaRankValues" = some cells3 := by
  obtain ⟨g, t, cs, fuel, p, hg, ht, hvar, hd⟩ := h
  obtain rfl := Option.some.inj (gAT.symm.trans hg)
  obtain rfl := Option.some.inj (tAT.symm.trans ht)
  rw [hvar]
  congr 1
  obtain ⟨l⟩ := cs
  cases fuel with
  | zero => simp [DataW.trod] at hd
  | succ fuel =>
    simp only [DataW.trod, Tryd.underlying43, cAT, cIntA] at hd
    split at hd
    · rename_i hl
      obtain ⟨c0, c1, c2, rfl⟩ : ∃ c0 c1 c2, l = [c0, c1, c2] := by
        match l, hl with
        | [a, b, c], _ => exact ⟨a, b, c, rfl⟩
      have e : List.range 3 = [0, 1, 2] := rfl
      rw [e] at hd
      simp only [Option.map_eq_some_iff, List.mapM_cons, List.mapM_nil, Option.bind_eq_bind, Option.bind_eq_some_iff, Option.pure_def, Option.some.injEq] at hd
      obtain ⟨xs, ⟨y0, h0, _, ⟨y1, h1, _, ⟨y2, h2, _, rfl, rfl⟩, rfl⟩, rfl⟩, hx⟩ := hd
      obtain ⟨n0, rfl, rfl⟩ := int_of_trodA Tryd.underlying3 h0
      obtain ⟨n1, rfl, rfl⟩ := int_of_trodA Tryd.underlying3 h1
      obtain ⟨n2, rfl, rfl⟩ := int_of_trodA Tryd.underlying3 h2
      simp [Rows.laid_loop_example_peoplesnumerals_impl_alphaRankValues] at hx
      obtain ⟨⟨rfl, rfl, rfl⟩, _⟩ := hx
      rfl
    · cases hd
theorem cells_of_laidA {W : World} (h : laidMetH Tryd.prog atLaid W) : W.var? Tryd.prog "loop.example/peoplesnumerals/impl.alphaRankValues" = some cells3 := by
  rw [MakeChecks.laidMetH_plain _ _ _ (by kernel_rfl)] at h
  obtain ⟨ps, ⟨g, t, cs, fuel, p, q, hg, ht, hvar, hd, _, _⟩, _⟩ := h
  exact cells_of_itemA ⟨g, t, cs, fuel, p, hg, ht, hvar, hd⟩
theorem at_var {W : World} (hv : W.var? Tryd.prog "loop.example/peoplesnumerals/impl.alphaRankValues" = some cells3) : AT W := by
  have hc : ∀ j, W.cell? ⟨0, j, none⟩ = cells3[j]? := fun j => World.var?_cell gAT hv j
  refine ⟨World.block_lt_of_cell? W ⟨0, 0, none⟩ (u := .int .i64 1) (hc 0), fun j hj => ?_⟩
  rw [hc j]
  rcases (show j = 0 ∨ j = 1 ∨ j = 2 by omega) with rfl | rfl | rfl <;> rfl
theorem at_of_laid {W : World} (h : laidMetH Tryd.prog atLaid W) : AT W := at_var (cells_of_laidA h)
abbrev tableA {H : Type} : DataW H := .agg [.lit (.int .i64 1), .lit (.int .i64 10), .lit (.int .i64 100)]
theorem reads_tableA {H : Type} (enc : TypeId × Value → H) (W : World) (sp : Nat → Bool) : DataW.trod enc Tryd.prog W 0 sp true 3 43 cells3.toList = some (tableA, []) := by kernel_rfl
theorem tab_at {W : World} (h : LaidItem Tryd.prog W "loop.example/peoplesnumerals/impl.alphaRankValues" Rows.laid_loop_example_peoplesnumerals_impl_alphaRankValues) : AT W ∧ TabAt Tryd.prog W "loop.example/peoplesnumerals/impl.alphaRankValues" := by
  have hv := cells_of_itemA h
  have hf := at_var hv
  exact ⟨hf, _, _, _, gAT, tAT, hv, hf.1, fun H enc => ⟨tableA, fun W' sp => reads_tableA enc W' sp⟩⟩
theorem laid_openA {H : Type} {enc : TypeId × Value → H} {W : World} {gs : List (DataW H)} {q : List MemPlace} (hL : laidMetH Tryd.prog atLaid W)
    (hV : DataW.TrodVars enc Tryd.prog W (fun _ => true) ["loop.example/peoplesnumerals/impl.alphaRankValues"] gs q) :
    AT W ∧ ∃ d, gs = [d] ∧ ∃ pv, ∀ (sp : Nat → Bool) {W' : World}, Below W.heap.size W W' → DataW.TrodVars enc Tryd.prog W' sp ["loop.example/peoplesnumerals/impl.alphaRankValues"] [d] pv := by
  have hlv := at_of_laid hL
  obtain ⟨g, t, cs, fuel, d, p', rfl, hg, ht, hvar, hd, rfl⟩ := trodVars_one hV
  obtain rfl := Option.some.inj (gAT.symm.trans hg)
  obtain rfl := Option.some.inj (tAT.symm.trans ht)
  obtain rfl : cs = cells3 := Option.some.inj (hvar.symm.trans (cells_of_laidA hL))
  obtain ⟨rfl, rfl⟩ := DataW.Trod.unique (v := .agg cells3) ⟨fuel, hd⟩ ⟨3, reads_tableA enc W _⟩
  refine ⟨hlv, _, rfl, MemPlace.row ⟨0, 0, none⟩ cells3.size ++ [] ++ [], fun sp W' bel => ?_⟩
  exact ⟨0, 43, cells3, 3, [], [], gAT, tAT, var?_below bel gAT hlv.1 hvar, reads_tableA enc W' sp, rfl, rfl⟩
theorem AT.below {B : Nat} {w w' : World} (h : AT w) (hb : Below B w w') (hB : 0 < B) : AT w' :=
  ⟨Nat.lt_of_lt_of_le h.1 hb.size, fun j hj => (hb.cell (p := ⟨0, j, none⟩) hB).trans (h.2 j hj)⟩
theorem AT.step {w w' : World} (h : AT w) (hb : Below w.heap.size w w') : AT w' := h.below hb h.1
theorem AT.alloc {w : World} (h : AT w) (o : Obj) : AT (w.alloc o) := h.step ((Below.refl _ _).alloc (Nat.le_refl _) o)
theorem AT.grown {w w' : World} {r : Nat} (h : AT w) (hg : w.grownBy w' (some r)) (hr : 0 < r) : AT w' :=
  ⟨Nat.lt_of_lt_of_le h.1 hg.size, fun j hj => hg.cell (h.2 j hj) (by simp; omega)⟩
end Go.Proofs.YtdognkjpiineiaaDoor
