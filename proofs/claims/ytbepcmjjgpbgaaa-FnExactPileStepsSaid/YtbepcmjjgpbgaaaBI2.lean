/- Whole arrays loaded and stored; the program's systemOf. -/
import Derived.Test.YtbepcmjjgpbgaaaBI
namespace Go.Proofs.Ytbepcmjjgpbgaaa
open Go.RowKit
set_option linter.unusedVariables false
set_option maxRecDepth 100000
def isRowT : TypeDesc → Bool
  | .struct _ | .array _ _ => true
  | _ => false
theorem wpList_load_blk {P : Program} {ops : Array Oper} {rest : List Oper} {o : Oper} {a : Act} {w : World} {Q : Exit → Act → World → Prop} (hgd : o.guard = none) (ty : TypeId) (x : Operand) (ho : o.op = .load ty x)
    (T : TypeId) (b N : Nat) (f : Nat → Int) (d : TypeDesc) (hx : a.eval x = .pointer (some ⟨b, 0, none⟩)) (hb : Blk T w b N f) (hu : P.underlying ty = some d) (hd : isRowT d = true) (hi : (P.info? ty).map (·.size) = some N)
    (h : wpList P ops Q rest (a.put o.dst (.agg (intCells f N).toArray)) w) : wpList P ops Q (o :: rest) a w :=
  wpList_load_row hgd ty x ho b hx T _ _ d hb hu (by cases d <;> simp_all [isRowT]) (by rw [hi]; simp [intCells]) h
theorem wpList_store_blk {P : Program} {ops : Array Oper} {rest : List Oper} {o : Oper} {a : Act} {w : World} {Q : Exit → Act → World → Prop} (hgd : o.guard = none) (ty : TypeId) (x y : Operand) (ho : o.op = .store ty x y)
    (T : TypeId) (b N : Nat) (f g : Nat → Int) (hx : a.eval x = .pointer (some ⟨b, 0, none⟩)) (hy : a.eval y = .agg (intCells g N).toArray) (hb : Blk T w b N f) (hi : (P.info? ty).map (·.size) = some N)
    (h : ∀ w', Blk T w' b N g → Mid b (b + 1) w w' → wpList P ops Q rest (a.put o.dst undef) w') : wpList P ops Q (o :: rest) a w := by
  refine wpList_plain hgd fun K hK => wp_store_row ty x y ho b (intCells g N).toArray hx hy T _ hb (by rw [hi]; simp [intCells]) (by simp [intCells]) ?_ ?_
  · rw [Array.all_eq_true_iff_forall_mem]
    intro v hv
    obtain ⟨j, _, rfl⟩ := List.mem_map.1 (List.mem_toArray.1 hv)
    rfl
  · exact hK _ _ (h _ (setRow_heap w b _ _ T _ hb) ⟨rfl, rfl, rfl, by simp [World.setRow], fun j hj => setRow_other w b j _ (by omega)⟩)
theorem results_cell_tmp {P : Program} {fn : Func} {p q : Tmp} {ty : TypeId} (h : fn.results = #[.cell p ty, .tmp q]) (tmps : Array Value) (w : World) (T : TypeId) (b N : Nat) (f : Nat → Int) (v : Value) (d : TypeDesc)
    (hp : tmps.getD p undef = .pointer (some ⟨b, 0, none⟩)) (hq : tmps.getD q undef = v) (hb : Blk T w b N f)
    (hu : P.underlying ty = some d) (hd : isRowT d = true) (hi : (P.info? ty).map (·.size) = some N) :
    (results fn tmps).run P w = .ok (.tuple #[.agg (intCells f N).toArray, v]) w := by
  have hp' : tmps[p]?.getD undef = .pointer (some ⟨b, 0, none⟩) := by simpa using hp
  have hq' : tmps[q]?.getD undef = v := by simpa using hq
  have hr := run_loadVar_row (P := P) w b T ty _ _ d hb hu (by cases d <;> simp_all [isRowT]) (by rw [hi]; simp [intCells])
  simp [results, h, hp', hq', asAddr, hr]
end Go.Proofs.Ytbepcmjjgpbgaaa
