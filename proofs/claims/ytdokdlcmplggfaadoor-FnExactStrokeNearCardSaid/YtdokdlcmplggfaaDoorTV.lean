/- Several package-level tables at once: what a row's list of variables lays, and that it reads again behind the call. Nothing of one program. -/
import Derived.ProofKit
import Derived.LaidMore
import Derived.OpenShut
import Derived.Stop.Joined
import Derived.MakeChecks
import Derived.WalkSmall
import Derived.ChangeVars
import Derived.Below
namespace Go.Proofs.YtdokdlcmplggfaaDoor
open Go.ChangeShapes Go.WideShapes Go.ChangeAt Go.WideMaps Go.WideElems Go.RowKit
set_option linter.unusedVariables false
set_option maxRecDepth 100000
/-- a variable reads as a datum -/
def LaidItem (P : Program) (W : World) (n : String) (d : DataW Unit) : Prop := ∃ g t cs fuel p, P.globalNamed n = some g ∧ (P.globals[g]?).map (·.type) = some t ∧ W.var? P n = some cs ∧ DataW.trod (fun _ => ()) P W 0 (fun _ => true) false fuel t cs.toList = some (d, p)
theorem laid_mem {P : Program} {W : World} {n : String} {d : DataW Unit} : ∀ {L : List (String × DataW Unit)} {ps : List MemPlace}, DataW.LaidVars P W L ps → (n, d) ∈ L → LaidItem P W n d
  | [], _, _, hm => by cases hm
  | (n', d') :: L, ps, h, hm => by
    obtain ⟨g, t, cs, fuel, p, q, h1, h2, h3, h4, h5, _⟩ := h
    rcases List.mem_cons.1 hm with e | hm
    · simp only [Prod.mk.injEq] at e
      obtain ⟨rfl, rfl⟩ := e
      exact ⟨g, t, cs, fuel, p, h1, h2, h3, h4⟩
    · exact laid_mem h5 hm
theorem laid_item {P : Program} {W : World} {L : List (String × DataW Unit)} {n : String} {d : DataW Unit} (h : laidMetH P L W) (hp : (L.all fun x => x.2.handleName?.isNone) = true) (hm : (n, d) ∈ L) : LaidItem P W n d := by
  rw [MakeChecks.laidMetH_plain _ _ _ hp] at h
  obtain ⟨ps, h, _⟩ := h
  exact laid_mem h hm
/-- a variable's cells, and how they read in whatever world -/
def TabAt (P : Program) (W : World) (n : String) : Prop := ∃ g t cs, P.globalNamed n = some g ∧ (P.globals[g]?).map (·.type) = some t ∧ W.var? P n = some cs ∧ g < W.heap.size ∧
  ∀ (H : Type) (enc : TypeId × Value → H), ∃ d : DataW H, ∀ (W' : World) (sp : Nat → Bool), DataW.trod enc P W' 0 sp true 3 t cs.toList = some (d, [])
theorem tabs_keep {H : Type} {enc : TypeId × Value → H} {P : Program} {W : World} : ∀ {ns : List String} {gs : List (DataW H)} {q : List MemPlace}, (∀ n, n ∈ ns → TabAt P W n) → DataW.TrodVars enc P W (fun _ => true) ns gs q →
    ∃ pv, ∀ (sp : Nat → Bool) {W' : World}, Below W.heap.size W W' → DataW.TrodVars enc P W' sp ns gs pv
  | [], gs, q, _, h => by
    obtain ⟨rfl, rfl⟩ := trodVars_none h
    exact ⟨[], fun sp W' _ => rfl⟩
  | n :: ns, [], q, _, h => by cases h
  | n :: ns, d :: ds, q, hT, h => by
    obtain ⟨g, t, cs, fuel, p, q', h1, h2, h3, h4, h5, _⟩ := h
    obtain ⟨pv, hk⟩ := tabs_keep (fun n hn => hT n (List.mem_cons_of_mem _ hn)) h5
    obtain ⟨g', t', cs', k1, k2, k3, k4, k5⟩ := hT n (List.mem_cons_self ..)
    obtain rfl := Option.some.inj (k1.symm.trans h1)
    obtain rfl := Option.some.inj (k2.symm.trans h2)
    obtain rfl := Option.some.inj (k3.symm.trans h3)
    obtain ⟨d', hd'⟩ := k5 H enc
    obtain ⟨rfl, rfl⟩ := DataW.Trod.unique (v := .agg cs') ⟨fuel, h4⟩ ⟨3, hd' W _⟩
    exact ⟨MemPlace.row ⟨g', 0, none⟩ cs'.size ++ [] ++ pv, fun sp W' bel => ⟨g', t', cs', 3, [], pv, k1, k2, var?_below bel k1 k4 k3, hd' W' sp, hk sp bel, rfl⟩⟩
/-- how many data there are -/
theorem trodVars_len {H : Type} {enc : TypeId × Value → H} {P : Program} {W : World} {sp : Nat → Bool} : ∀ {ns : List String} {gs : List (DataW H)} {q : List MemPlace}, DataW.TrodVars enc P W sp ns gs q → gs.length = ns.length
  | [], gs, q, h => by obtain ⟨rfl, _⟩ := trodVars_none h; rfl
  | n :: ns, [], q, h => by cases h
  | n :: ns, d :: ds, q, h => by
    obtain ⟨g, t, cs, fuel, p, q', h1, h2, h3, h4, h5, _⟩ := h
    show _ + 1 = _ + 1
    rw [trodVars_len h5]
end Go.Proofs.YtdokdlcmplggfaaDoor
