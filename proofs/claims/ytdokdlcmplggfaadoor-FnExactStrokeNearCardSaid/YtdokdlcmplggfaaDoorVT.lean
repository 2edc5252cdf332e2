/- The package-level tables of chapter 7 (digitKinds, turnedPlaces, mirroredPlaces): what the condition gives the walks. -/
import Derived.Test.YtdokdlcmplggfaaDoorRows
import Derived.Test.YtdokdlcmplggfaaDoorTV
import Derived.Test.YtdokdlcmplggfaaDoorVP
import Derived.ProofKit
import Derived.LaidMore
import Derived.OpenShut
import Derived.Stop.Joined
import Derived.MakeChecks
import Derived.WalkSmall
import Derived.Below
namespace Go.Proofs.YtdokdlcmplggfaaDoor
open Go.ChangeShapes Go.WideShapes Go.ChangeAt Go.WideMaps Go.WideElems Go.RowKit
set_option linter.unusedVariables false
set_option maxRecDepth 100000
/-- an array whose elements are one cell each, element by element -/
theorem arr_item {H : Type} {enc : TypeId × Value → H} {P : Program} {W : World} {sp : Nat → Bool} {held : Bool} {fuel n : Nat} {t e : TypeId} {cs : List Value} {ds : List (DataW H)} {p : List MemPlace}
    (ht : P.underlying t = some (.array n e)) (hc : P.cellsOf e = 1) (ht2 : P.cellsOf t = n) (h : DataW.trod enc P W 0 sp held fuel t cs = some (.agg ds, p)) :
    cs.length = n ∧ ∀ (i : Nat) (d : DataW H), ds[i]? = some d → ∃ v m q, cs[i]? = some v ∧ DataW.trod enc P W 0 sp held m e [v] = some (d, q) := by
  obtain ⟨xs, m, rfl, hx, hl, hn, hel⟩ := DataW.trod_array ht h
  simp only [Prod.mk.injEq, DataW.agg.injEq] at hx
  obtain ⟨rfl, _⟩ := hx
  rw [ht2] at hl
  refine ⟨hl, fun i d hd => ?_⟩
  have hi : i < n := by have := (List.getElem?_eq_some_iff.1 hd).1; simpa [hn] using this
  have he := hel i hi
  rw [hc, Nat.mul_one] at he
  rw [List.getElem?_map] at hd
  have hv : cs[i]? = some cs[i] := List.getElem?_eq_getElem (by omega)
  refine ⟨cs[i], m, ?_⟩
  cases hy : xs[i]? with
  | none => simp [hy] at hd
  | some y =>
    rw [hy] at he hd
    simp only [Option.map_some, Option.some.injEq] at hd
    have e1 : (cs.drop i).take 1 = [cs[i]] := by
      rw [List.drop_eq_getElem_cons (by omega)]; rfl
    rw [e1] at he
    exact ⟨y.2, hv, by rw [he, ← hd]⟩
theorem int_item {H : Type} {enc : TypeId × Value → H} {P : Program} {w : World} {base : Nat} {sp : Nat → Bool} {held : Bool} {fuel : Nat} {t : TypeId} {k : IntKind} {c : Value} {x : Int} {q : List MemPlace}
    (ht : P.underlying t = some (.int k)) (h : DataW.trod enc P w base sp held fuel t [c] = some (.lit (.int k x), q)) : c = .int k x := by
  cases fuel with
  | zero => simp [DataW.trod] at h
  | succ fuel =>
    cases c <;> simp [DataW.trod, ht] at h
    obtain ⟨⟨rfl, _⟩, rfl, _⟩ := h
    rfl
theorem spot_none {w : World} {a : Addr} {v : Value} (h : w.cell? a = some v) : a.spot = none := by
  unfold World.cell? at h
  split at h
  · cases hs : a.spot with
    | none => rfl
    | some s => simp [hs] at h
  · cases h
/-- a table of slices of numbers: what a row of it says -/
def KRow (B : Nat) (W : World) (c : Value) (l : List Nat) : Prop := ∃ (a : Option Addr) (cap : Nat), c = .slice a l.length cap ∧ ∀ k (hk : k < l.length), ∃ b off, a = some ⟨b, off, none⟩ ∧ b < B ∧ W.cell? ⟨b, off + k, none⟩ = some (.int .i64 (l[k] : Nat))
theorem krow_of {H : Type} {enc : TypeId × Value → H} {P : Program} {W : World} {sp : Nat → Bool} {held : Bool} {fuel : Nat} {t e : TypeId} {c : Value} {l : List Nat} {q : List MemPlace}
    (ht : P.underlying t = some (.slice e)) (hc : P.cellsOf e = 1) (he : P.underlying e = some (.int .i64)) (h : DataW.trod enc P W 0 sp held fuel t [c] = some (.slice (l.map fun n => .lit (.int .i64 (n : Nat))) [], q)) : KRow W.heap.size W c l := by
  obtain ⟨a, cap, hcs, _, hel⟩ := open_row ht hc h
  rw [List.length_map] at hcs
  obtain rfl := List.cons.inj hcs |>.1
  refine ⟨some a, cap, rfl, fun k hk => ?_⟩
  have h1 : ∀ j (hj : j < l.length), W.cell? (a.add j) = some (.int .i64 (l[j] : Nat)) := fun j hj => by
    obtain ⟨v, n, q, h1, h2⟩ := hel j (.lit (.int .i64 (l[j] : Nat))) (by rw [List.getElem?_map, List.getElem?_eq_getElem hj]; rfl)
    rw [h1, int_item he h2]
  have h0 := h1 0 (by omega)
  have hs : a.spot = none := by have := spot_none h0; simpa [Addr.add] using this
  obtain ⟨b, off, s⟩ := a
  simp only at hs
  subst hs
  refine ⟨b, off, rfl, ?_, ?_⟩
  · have := World.block_lt_of_cell? W _ h0; simpa [Addr.add] using this
  · have := h1 k hk
    unfold Addr.add at this
    split at this
    · rename_i e; subst e; exact this
    · exact this
theorem KRow.below {B : Nat} {w w' : World} {c : Value} {l : List Nat} (h : KRow B w c l) (g : Below B w w') : KRow B w' c l := by
  obtain ⟨a, cap, rfl, h⟩ := h
  refine ⟨a, cap, rfl, fun k hk => ?_⟩
  obtain ⟨b, off, e, hb, hc⟩ := h k hk
  exact ⟨b, off, e, hb, (g.cell (p := ⟨b, off + k, none⟩) hb).trans hc⟩
theorem KRow.mono {B C : Nat} {w : World} {c : Value} {l : List Nat} (h : KRow B w c l) (hC : B ≤ C) : KRow C w c l := by
  obtain ⟨a, cap, rfl, h⟩ := h
  refine ⟨a, cap, rfl, fun k hk => ?_⟩
  obtain ⟨b, off, e, hb, hc⟩ := h k hk
  exact ⟨b, off, e, by omega, hc⟩
/-- the kinds of all digits, in blocks below B -/
def DKB (B : Nat) (w : World) : Prop := 2 < B ∧ ∀ d, d < 10 → ∃ c, w.cell? ⟨2, d, none⟩ = some c ∧ KRow B w c (kds d)
theorem DKB.step {B : Nat} {w w' : World} (h : DKB B w) (g : Below B w w') : DKB B w' := by
  refine ⟨h.1, fun d hd => ?_⟩
  obtain ⟨c, hc, hr⟩ := h.2 d hd
  exact ⟨c, (g.cell (p := ⟨2, d, none⟩) h.1).trans hc, hr.below g⟩
theorem DKB.mono {B C : Nat} {w : World} (h : DKB B w) (hC : B ≤ C) : DKB C w := by
  refine ⟨Nat.lt_of_lt_of_le h.1 hC, fun d hd => ?_⟩
  obtain ⟨c, hc, hr⟩ := h.2 d hd
  exact ⟨c, hc, hr.mono hC⟩
def DK (w : World) : Prop := DKB w.heap.size w
theorem DK.step {w w' : World} (h : DK w) (g : Below w.heap.size w w') : DK w' := (DKB.step h g).mono g.size
/-- where a digit's place goes -/
def TP (w : World) : Prop := 0 < w.heap.size ∧ ∀ p, p < 4 → w.cell? ⟨0, p, none⟩ = some (.int .i64 (tpl p : Nat))
theorem TP.step {w w' : World} (h : TP w) (g : Below w.heap.size w w') : TP w' :=
  ⟨Nat.lt_of_lt_of_le h.1 g.size, fun p hp => (g.cell (p := ⟨0, p, none⟩) h.1).trans (h.2 p hp)⟩
def MP (w : World) : Prop := 1 < w.heap.size ∧ ∀ p, p < 4 → w.cell? ⟨1, p, none⟩ = some (.int .i64 (mpl p : Nat))
theorem MP.step {w w' : World} (h : MP w) (g : Below w.heap.size w w') : MP w' :=
  ⟨Nat.lt_of_lt_of_le h.1 g.size, fun p hp => (g.cell (p := ⟨1, p, none⟩) h.1).trans (h.2 p hp)⟩
/-- the tables that a law reads: t: turnedPlaces, m: mirroredPlaces -/
def TBs (t m : Bool) (w : World) : Prop := DK w ∧ (t = true → TP w) ∧ (m = true → MP w)
theorem TBs.step {t m : Bool} {w w' : World} (h : TBs t m w) (g : Below w.heap.size w w') : TBs t m w' := ⟨h.1.step g, fun e => (h.2.1 e).step g, fun e => (h.2.2 e).step g⟩
theorem TBs.of00 {w : World} (h : DK w) : TBs false false w := ⟨h, (fun e => by cases e), (fun e => by cases e)⟩
theorem TBs.of10 {w : World} (h : DK w) (k : TP w) : TBs true false w := ⟨h, (fun _ => k), (fun e => by cases e)⟩
theorem TBs.of01 {w : World} (h : DK w) (k : MP w) : TBs false true w := ⟨h, (fun e => by cases e), (fun _ => k)⟩
theorem TBs.of11 {w : World} (h : DK w) (k : TP w) (l : MP w) : TBs true true w := ⟨h, (fun _ => k), (fun _ => l)⟩
/-! ### out of what the rows list -/
theorem gDKt : Tryd.prog.globalNamed "loop.example/peoplesnumerals/impl.digitKinds" = some 2 := by kernel_rfl
theorem tDKt : (Tryd.prog.globals[2]?).map (·.type) = some 59 := by kernel_rfl
theorem cDK10 : Tryd.prog.cellsOf 59 = 10 := by kernel_rfl
theorem cDK1 : Tryd.prog.cellsOf 58 = 1 := by kernel_rfl
theorem cDKk : Tryd.prog.cellsOf 50 = 1 := by kernel_rfl
theorem kds_laid : ∀ d, d < 10 → ([.slice [] [], .slice [.lit (.int .i64 0)] [], .slice [.lit (.int .i64 1)] [], .slice [.lit (.int .i64 2)] [], .slice [.lit (.int .i64 3)] [], .slice [.lit (.int .i64 0), .lit (.int .i64 3)] [], .slice [.lit (.int .i64 4)] [], .slice [.lit (.int .i64 0), .lit (.int .i64 4)] [], .slice [.lit (.int .i64 1), .lit (.int .i64 4)] [], .slice [.lit (.int .i64 0), .lit (.int .i64 1), .lit (.int .i64 4)] []] : List (DataW Unit))[d]? = some (.slice ((kds d).map fun n => .lit (.int .i64 (n : Nat))) []) := by
  intro d hd
  rcases (show d = 0 ∨ d = 1 ∨ d = 2 ∨ d = 3 ∨ d = 4 ∨ d = 5 ∨ d = 6 ∨ d = 7 ∨ d = 8 ∨ d = 9 by omega) with rfl | rfl | rfl | rfl | rfl | rfl | rfl | rfl | rfl | rfl <;> rfl
theorem tab_dk {W : World} (h : LaidItem Tryd.prog W "loop.example/peoplesnumerals/impl.digitKinds" Rows.laid_loop_example_peoplesnumerals_impl_digitKinds) : DK W := by
  obtain ⟨g, t, cs, fuel, p, hg, ht, hvar, hd⟩ := h
  obtain rfl := Option.some.inj (gDKt.symm.trans hg)
  obtain rfl := Option.some.inj (tDKt.symm.trans ht)
  obtain ⟨hl, hel⟩ := arr_item Tryd.underlying59 cDK1 cDK10 hd
  have hc : ∀ j, W.cell? ⟨2, j, none⟩ = cs[j]? := fun j => World.var?_cell gDKt hvar j
  have key : ∀ d, d < 10 → ∃ c, W.cell? ⟨2, d, none⟩ = some c ∧ KRow W.heap.size W c (kds d) := fun d hd => by
    obtain ⟨v, m, q, hv, hr⟩ := hel d _ (kds_laid d hd)
    exact ⟨v, by rw [hc d]; simpa using hv, krow_of Tryd.underlying58 cDKk Tryd.underlying50 hr⟩
  obtain ⟨c, h0, _⟩ := key 0 (by omega)
  exact ⟨World.block_lt_of_cell? W _ h0, key⟩
theorem gTPt : Tryd.prog.globalNamed "loop.example/peoplesnumerals/impl.turnedPlaces" = some 0 := by kernel_rfl
theorem tTPt : (Tryd.prog.globals[0]?).map (·.type) = some 56 := by kernel_rfl
theorem gMPt : Tryd.prog.globalNamed "loop.example/peoplesnumerals/impl.mirroredPlaces" = some 1 := by kernel_rfl
theorem tMPt : (Tryd.prog.globals[1]?).map (·.type) = some 56 := by kernel_rfl
theorem cP4 : Tryd.prog.cellsOf 56 = 4 := by kernel_rfl
theorem cP1 : Tryd.prog.cellsOf 47 = 1 := by kernel_rfl
theorem tab_tp {W : World} (h : LaidItem Tryd.prog W "loop.example/peoplesnumerals/impl.turnedPlaces" Rows.laid_loop_example_peoplesnumerals_impl_turnedPlaces) : TP W := by
  obtain ⟨g, t, cs, fuel, p, hg, ht, hvar, hd⟩ := h
  obtain rfl := Option.some.inj (gTPt.symm.trans hg)
  obtain rfl := Option.some.inj (tTPt.symm.trans ht)
  obtain ⟨hl, hel⟩ := arr_item Tryd.underlying56 cP1 cP4 hd
  have key : ∀ j, j < 4 → W.cell? ⟨0, j, none⟩ = some (.int .i64 (tpl j : Nat)) := fun j hj => by
    obtain ⟨v, m, q, hv, hr⟩ := hel j (.lit (.int .i64 (tpl j : Nat))) (by
      rcases (show j = 0 ∨ j = 1 ∨ j = 2 ∨ j = 3 by omega) with rfl | rfl | rfl | rfl <;> rfl)
    rw [World.var?_cell gTPt hvar j, ← int_item Tryd.underlying47 hr]
    simpa using hv
  exact ⟨World.block_lt_of_cell? W _ (key 0 (by omega)), key⟩
theorem tab_mp {W : World} (h : LaidItem Tryd.prog W "loop.example/peoplesnumerals/impl.mirroredPlaces" Rows.laid_loop_example_peoplesnumerals_impl_mirroredPlaces) : MP W := by
  obtain ⟨g, t, cs, fuel, p, hg, ht, hvar, hd⟩ := h
  obtain rfl := Option.some.inj (gMPt.symm.trans hg)
  obtain rfl := Option.some.inj (tMPt.symm.trans ht)
  obtain ⟨hl, hel⟩ := arr_item Tryd.underlying56 cP1 cP4 hd
  have key : ∀ j, j < 4 → W.cell? ⟨1, j, none⟩ = some (.int .i64 (mpl j : Nat)) := fun j hj => by
    obtain ⟨v, m, q, hv, hr⟩ := hel j (.lit (.int .i64 (mpl j : Nat))) (by
      rcases (show j = 0 ∨ j = 1 ∨ j = 2 ∨ j = 3 by omega) with rfl | rfl | rfl | rfl <;> rfl)
    rw [World.var?_cell gMPt hvar j, ← int_item Tryd.underlying47 hr]
    simpa using hv
  exact ⟨World.block_lt_of_cell? W _ (key 0 (by omega)), key⟩
end Go.Proofs.YtdokdlcmplggfaaDoor
