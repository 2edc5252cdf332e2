/- Goroutines that make memory: what the others may do to one, what one may do. Nothing of one program. -/
import Derived.Test.YtmphfdibijbjeaaDoorHA
import Derived.Conc.EventLaws2
import Derived.Conc.CompanyWords
namespace Go.Proofs.YtmphfdibijbjeaaDoor
open Go.Conc
set_option linter.unusedSimpArgs false
set_option linter.unusedVariables false
set_option maxRecDepth 100000
/-- what the others may do: my blocks stand, and so do the low ones that are nobody's share -/
structure RH (Low : Nat) (Shr : Nat → Prop) (Lv : World → Prop) (S : Bag) (w w₁ : World) : Prop where
  size : w.heap.size ≤ w₁.heap.size
  low : ∀ b, b < Low → ¬ Shr b → w₁.heap[b]? = w.heap[b]?
  own : ∀ b, S b → w₁.heap[b]? = w.heap[b]?
  live : Lv w → Lv w₁
/-- an access to a block of mine, or a read of a low one that is nobody's share; or a mark that is no word of the library's -/
def EvH (Low : Nat) (Shr : Nat → Prop) (S : Bag) (w : World) (e : Event) : Prop :=
  (∃ a, e.loc = .cell a ∧ (S a.block ∨ (a.block < Low ∧ ¬ Shr a.block ∧ e.write = false))) ∨ ∃ m, e = ⟨.mark m, false, true⟩ ∧ Neutral m
/-- what I do -/
structure DH (Low : Nat) (Shr : Nat → Prop) (S : Bag) (w w' : World) (es : Array Event) : Prop where
  size : w.heap.size ≤ w'.heap.size
  os : w'.os = w.os
  tape : w'.tape = w.tape
  output : w'.output = w.output
  block : ∀ b, b < w.heap.size → ¬ S b → w'.heap[b]? = w.heap[b]?
  evs : ∀ e ∈ es, EvH Low Shr S w e
section
variable {Low : Nat} {Shr : Nat → Prop} {Lv : World → Prop} {S : Bag} {w w₁ w' : World}
theorem fairH : Fair2 (RH Low Shr Lv) (DH Low Shr) :=
  ⟨fun S a b c h h' => ⟨Nat.le_trans h.size h'.size, fun b hb hs => (h'.low b hb hs).trans (h.low b hb hs), fun b hb => (h'.own b hb).trans (h.own b hb), h'.live ∘ h.live⟩,
   fun S w => ⟨Nat.le_refl _, rfl, rfl, rfl, fun _ _ _ => rfl, fun e he => by simp at he⟩⟩
theorem RH.cellOwn (h : RH Low Shr Lv S w w₁) {a : Addr} (hb : S a.block) : w₁.cell? a = w.cell? a := by simp [World.cell?, h.own _ hb]
theorem RH.frozenOwn (h : RH Low Shr Lv S w w₁) {a : Addr} (hb : S a.block) : w₁.frozen? a = w.frozen? a := by simp [World.frozen?, h.own _ hb]
theorem RH.cellLow (h : RH Low Shr Lv S w w₁) {a : Addr} (hb : a.block < Low) (hs : ¬ Shr a.block) : w₁.cell? a = w.cell? a := by simp [World.cell?, h.low _ hb hs]
/-- an operation that turns nothing -/
theorem DH.read {es : Array Event} (h : ∀ e ∈ es, EvH Low Shr S w e) : DH Low Shr S w w es := ⟨Nat.le_refl _, rfl, rfl, rfl, fun _ _ _ => rfl, h⟩
/-- a new block -/
theorem DH.alloc (o : Obj) {es : Array Event} (h : ∀ e ∈ es, EvH Low Shr S w e) : DH Low Shr S w (w.alloc o) es :=
  ⟨by simp, rfl, rfl, rfl, fun b hb _ => by show (w.heap.push o)[b]? = _; rw [Array.getElem?_push]; rw [if_neg (by omega)], h⟩
/-- a store into a block of mine -/
theorem DH.set {a : Addr} (v : Value) (hs : S a.block) {es : Array Event} (h : ∀ e ∈ es, EvH Low Shr S w e) : DH Low Shr S w (w.setCell a v) es :=
  ⟨by simp [World.setCell], rfl, rfl, rfl, fun b hb hn => by
    have : b ≠ a.block := fun e => hn (e ▸ hs)
    simp [World.setCell, Array.getElem?_modify, Ne.symm this], h⟩
theorem evs_none : ∀ e ∈ (#[] : Array Event), EvH Low Shr S w e := fun e he => by simp at he
theorem more_alloc (S : Bag) (w : World) (o : Obj) : more S w (w.alloc o) w.heap.size := .inr ⟨Nat.le_refl _, by simp⟩
theorem more_old {S : Bag} {w w' : World} {b : Nat} (h : S b) : more S w w' b := .inl h
end
section
variable {P : Program} {main : Bool} {R : Bag → World → World → Prop} {D : Bag → World → World → Array Event → Prop} {fn : FuncId} {Q : Bag → Exit → Act → World → Prop} {S : Bag} {a : Act} {w : World}
/-- one operation, what follows behind a variable -/
theorem opsT_cons_k {ops : Array Oper} {i : Nat} {rest : List Nat} {o : Oper} {n : Nat} (ho : ops[i]? = some o) (hw : Region.wanted o (yielded ops a.tmps) = true)
    (h : ∀ w₁, R S w w₁ → ∀ K : Act → World → Prop, (∀ a' w', D S w₁ w' (listed P fn a o w₁) ∧ opsT P main R D fn ops rest n Q (more S w₁ w') a' w' → K a' w') → uponK o a K ((execOp a.eval o).run P w₁)) : opsT P main R D fn ops (i :: rest) (n + 1) Q S a w :=
  opsT_cons ho hw fun w₁ h₁ => h w₁ h₁ _ fun _ _ x => x
/-- an operation that leaves the world as it finds it -/
theorem opsT_look {ops : Array Oper} {i : Nat} {rest : List Nat} {o : Oper} {n : Nat} (ho : ops[i]? = some o) (hw : Region.wanted o (yielded ops a.tmps) = true)
    (h : ∀ w₁, R S w w₁ → ∀ K : Act → World → Prop, (∀ a', D S w₁ w₁ (listed P fn a o w₁) ∧ opsT P main R D fn ops rest n Q S a' w₁ → K a' w₁) → uponK o a K ((execOp a.eval o).run P w₁)) : opsT P main R D fn ops (i :: rest) (n + 1) Q S a w :=
  opsT_cons ho hw fun w₁ h₁ => h w₁ h₁ _ fun a' x => ⟨x.1, by rw [more_same (Nat.le_refl _)]; exact x.2⟩
/-- a call, its arguments told -/
theorem opsT_call_at (T : Fair2 R D) {ops : Array Oper} {i : Nat} {rest : List Nat} {o : Oper} {f : FuncId} {args : Array Operand} {ats : Array TypeId} {nf n : Nat} {vs : Array Value} {Post : Bag → Value → World → Prop}
    (ho : ops[i]? = some o) (hw : Region.wanted o (yielded ops a.tmps) = true) (hop : o.op = .call { callee := .value (.func f), args, argTypes := ats })
    (hcall : CallsT P main R D f vs nf S w Post) (hargs : args.map a.eval = vs) (hnext : ∀ S' v w', Post S' v w' → opsT P main R D fn ops rest n Q S' (a.put o.dst v) w') : opsT P main R D fn ops (i :: rest) (n + nf + 3) Q S a w :=
  opsT_call T ho hw hop (by rw [hargs]; exact hcall) hnext
/-- a cut between two pieces of code -/
theorem codeT_mid (T : Fair2 R D) {x y : Code} {n₁ n₂ : Nat} (M : Bag → Act → World → Prop) (hx : codeT P main R D fn x n₁ (fun S' => Exit.then (M S') (Q S')) S a w) (hy : ∀ S' a' w', M S' a' w' → codeT P main R D fn y n₂ Q S' a' w') : codeT P main R D fn (.seq x y) (n₁ + n₂ + 1) Q S a w :=
  codeT_seq T (codeT_mono hx fun S' e a' w' q => by cases e <;> first | exact hy _ _ _ q | exact q)
/-- a test, both roads -/
theorem codeT_split (T : Fair2 R D) {c : Operand} {x y : Code} {t : Bool} {n₁ n₂ : Nat} (hc : a.eval c = .bool t) (ht : t = true → codeT P main R D fn x n₁ Q S a w) (hf : t = false → codeT P main R D fn y n₂ Q S a w) :
    codeT P main R D fn (.cond c x y) (max n₁ n₂ + 1) Q S a w := by
  refine codeT_cond T hc ?_
  cases t with
  | true => exact codeT_more (ht rfl) (Nat.le_max_left _ _)
  | false => exact codeT_more (hf rfl) (Nat.le_max_right _ _)
end
end Go.Proofs.YtmphfdibijbjeaaDoor
