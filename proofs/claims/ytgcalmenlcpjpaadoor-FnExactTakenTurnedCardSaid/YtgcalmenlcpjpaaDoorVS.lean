/- Rows of values of one cell each: a part of a row loaded and stored (generic: no program's own functions). -/
import Derived.Test.YtgcalmenlcpjpaaDoorVR
import Derived.Test.YtgcalmenlcpjpaaDoorBK
import Derived.Deep.MidRow
import Derived.OrdersHeld
import Derived.Deep.RegionHeld
namespace Go.Proofs.YtgcalmenlcpjpaaDoor
open Go.RowKit
set_option linter.unusedVariables false
set_option maxRecDepth 100000
/-- a guard ahead of a law: is this the operation? -/
theorem here6 (o : Oper) {P : Program} {w : World} {ops : Array Oper} {rest : List Oper} {a : Act} {Q : Exit → Act → World → Prop} (h : wpList P ops Q (o :: rest) a w) : wpList P ops Q (o :: rest) a w := h
def OneV (u : Nat → Value) (n : Nat) : Prop := ∀ j, j < n → (u j).oneCell' = true
def ovr (v u : Nat → Value) (off n j : Nat) : Value := if off ≤ j ∧ j < off + n then u (j - off) else v j
theorem vals_succ (u : Nat → Value) (n : Nat) : vals u (n + 1) = u 0 :: vals (fun j => u (j + 1)) n := by
  unfold vals
  rw [List.range_succ_eq_map, List.map_cons, List.map_map]
  rfl
theorem vals_one {u : Nat → Value} {n : Nat} (h : OneV u n) : ∀ x ∈ vals u n, x.oneCell' = true := by
  intro x hx
  obtain ⟨j, hj, rfl⟩ := List.mem_map.1 hx
  exact h j (List.mem_range.1 hj)
section
variable {T : TypeId} {w w' : World} {b N : Nat} {u v : Nat → Value}
theorem VRow.mid {lo hi : Nat} (h : VRow T w b N v) (g : Mid lo hi w w') (hb : b < lo ∨ hi ≤ b) : VRow T w' b N v := h.keep (g.block b (by omega))
theorem VRow.range (h : VRow T w b N v) (off n : Nat) (hn : off + n ≤ N) : w.rangeAt b off (vals (fun j => v (off + j)) n) := fun j x hx => by
  have hj : j < n := by
    rcases Nat.lt_or_ge j n with h | h
    · exact h
    · rw [List.getElem?_eq_none (by rw [vals_len]; exact h)] at hx; cases hx
  rw [vals_at _ n j hj] at hx
  obtain rfl := Option.some.inj hx
  exact h.cell (off + j) (by omega)
theorem VRow.setCells : ∀ (n : Nat) (u : Nat → Value) (off : Nat) (w : World) (v : Nat → Value), VRow T w b N v → VRow T (w.setCells b off (vals u n)) b N (ovr v u off n) ∧ Mid b (b + 1) w (w.setCells b off (vals u n))
  | 0, u, off, w, v, h => ⟨h.congr fun j hj => by unfold ovr; rw [if_neg (by omega)], Mid.refl _ _ _⟩
  | n + 1, u, off, w, v, h => by
    rw [vals_succ, World.setCells]
    obtain ⟨h1, h2⟩ := VRow.setCells n (fun j => u (j + 1)) (off + 1) _ _ (h.set_ off (u 0))
    have m1 := (Mid.refl b (b + 1) w).setCell (Nat.le_refl b) (by omega) off (u 0)
    refine ⟨h1.congr fun j hj => ?_, ⟨h2.os.trans m1.os, h2.tape.trans m1.tape, h2.output.trans m1.output, h2.size.trans m1.size, fun k hk => (h2.block k hk).trans (m1.block k hk)⟩⟩
    unfold ovr
    by_cases e : j = off
    · subst e
      rw [if_neg (by omega), if_pos (by omega), Nat.sub_self]
      exact if_pos rfl
    · by_cases g : off + 1 ≤ j ∧ j < off + 1 + n
      · rw [if_pos g, if_pos (by omega)]
        show u (j - (off + 1) + 1) = u (j - off)
        rw [show j - (off + 1) + 1 = j - off by omega]
      · rw [if_neg g, if_neg (by omega)]
        exact if_neg e
end
theorem wpList_load_vals {P : Program} {ops : Array Oper} {rest : List Oper} {o : Oper} {a : Act} {w : World} {Q : Exit → Act → World → Prop} (hgd : o.guard = none) (ty : TypeId) (x : Operand) (ho : o.op = .load ty x)
    (T : TypeId) (b N off n : Nat) (v : Nat → Value) (d : TypeDesc) (hx : a.eval x = .pointer (some ⟨b, off, none⟩)) (hb : VRow T w b N v) (hn : off + n ≤ N) (hu : P.underlying ty = some d) (hd : d.isRow = true) (hi : (P.info? ty).map (·.size) = some n)
    (h : wpList P ops Q rest (a.put o.dst (.agg (vals (fun j => v (off + j)) n).toArray)) w) : wpList P ops Q (o :: rest) a w :=
  wpList_load_mid hgd ty x ho b off hx _ d (hb.range off n hn) hu hd (by rw [hi, vals_len]) h
theorem wpList_store_vals {P : Program} {ops : Array Oper} {rest : List Oper} {o : Oper} {a : Act} {w : World} {Q : Exit → Act → World → Prop} (hgd : o.guard = none) (ty : TypeId) (x y : Operand) (ho : o.op = .store ty x y)
    (T : TypeId) (b N off n : Nat) (v u : Nat → Value) (hx : a.eval x = .pointer (some ⟨b, off, none⟩)) (hy : a.eval y = .agg (vals u n).toArray) (hb : VRow T w b N v) (hn : off + n ≤ N) (hi : (P.info? ty).map (·.size) = some n) (h1 : OneV u n)
    (h : ∀ w', VRow T w' b N (ovr v u off n) → Mid b (b + 1) w w' → wpList P ops Q rest (a.put o.dst undef) w') : wpList P ops Q (o :: rest) a w := by
  refine wpList_store_mid hgd ty x y ho b off _ hx hy (fun j hj => ?_) (by rw [hi]; simp [vals]) (all_oneCell_toArray (vals_one h1)) ?_
  · simp [vals] at hj
    exact ⟨by rw [hb.cell (off + j) (by omega)]; rfl, hb.frozen (off + j)⟩
  · obtain ⟨r1, r2⟩ := VRow.setCells n u off w v hb
    exact h _ r1 r2
theorem step_load_vals {P : Program} {ops : Array Oper} {o : Oper} {a : Act} {w : World} {K : Act → World → Prop} {Q : Exit → Act → World → Prop} {E : Prop} (hgd : o.guard = none) (ty : TypeId) (x : Operand) (ho : o.op = .load ty x)
    (T : TypeId) (b N off n : Nat) (v : Nat → Value) (d : TypeDesc) (hx : a.eval x = .pointer (some ⟨b, off, none⟩)) (hb : VRow T w b N v) (hn : off + n ≤ N) (hu : P.underlying ty = some d) (hd : d.isRow = true) (hi : (P.info? ty).map (·.size) = some n)
    (h : K (a.put o.dst (.agg (vals (fun j => v (off + j)) n).toArray)) w) : if Region.wanted o (yielded ops a.tmps) = true then Oper.wp P o a w K Q else E := by
  have hw : Region.wanted o (yielded ops a.tmps) = true := by simp [Region.wanted, hgd]
  rw [if_pos hw]
  exact wp_load_mid ty x ho b off hx _ d (hb.range off n hn) hu hd (by rw [hi, vals_len]) h
theorem step_store_vals {P : Program} {ops : Array Oper} {o : Oper} {a : Act} {w : World} {K : Act → World → Prop} {Q : Exit → Act → World → Prop} {E : Prop} (hgd : o.guard = none) (ty : TypeId) (x y : Operand) (ho : o.op = .store ty x y)
    (T : TypeId) (b N off n : Nat) (v u : Nat → Value) (hx : a.eval x = .pointer (some ⟨b, off, none⟩)) (hy : a.eval y = .agg (vals u n).toArray) (hb : VRow T w b N v) (hn : off + n ≤ N) (hi : (P.info? ty).map (·.size) = some n) (h1 : OneV u n)
    (h : ∀ w', VRow T w' b N (ovr v u off n) → Mid b (b + 1) w w' → K (a.put o.dst undef) w') : if Region.wanted o (yielded ops a.tmps) = true then Oper.wp P o a w K Q else E := by
  have hw : Region.wanted o (yielded ops a.tmps) = true := by simp [Region.wanted, hgd]
  rw [if_pos hw]
  refine wp_store_mid ty x y ho b off _ hx hy (fun j hj => ?_) (by rw [hi]; simp [vals]) (all_oneCell_toArray (vals_one h1)) ?_
  · simp [vals] at hj
    exact ⟨by rw [hb.cell (off + j) (by omega)]; rfl, hb.frozen (off + j)⟩
  · obtain ⟨r1, r2⟩ := VRow.setCells n u off w v hb
    exact h _ r1 r2
theorem yields_load_vals {P : Program} {ops : Array Oper} {S : World → Prop} {o : Oper} {a : Act} (hgd : o.guard = none) (ty : TypeId) (x : Operand) (ho : o.op = .load ty x)
    (T : TypeId) (b N off n : Nat) (v : Nat → Value) (d : TypeDesc) (hx : a.eval x = .pointer (some ⟨b, off, none⟩)) (hS : ∀ w, S w → VRow T w b N v) (hn : off + n ≤ N) (hu : P.underlying ty = some d) (hd : d.isRow = true) (hi : (P.info? ty).map (·.size) = some n) :
    YieldsIf P ops S o (.agg (vals (fun j => v (off + j)) n).toArray) a :=
  yieldsIf_load_mid (by simp [Region.wanted, hgd]) ty x ho b off hx _ d (fun w hw => (hS w hw).range off n hn) hu hd (by rw [hi, vals_len])
/-- an operation that yields a value and leaves the world -/
theorem exec_build {P : Program} {a : Act} {w : World} {o : Oper} (t : TypeId) (k : Nat) (x : Operand) (ho : o.op = .build t #[(k, x)]) (v : Value) (h : (Instr.build t #[(k, a.eval x)]).run P w = .ok v w) : (execOp a.eval o).run P w = .ok (.value v) w := by
  unfold execOp
  simp only [ho, List.map_toArray, List.map_cons, List.map_nil, Sem.run_bind, h, Result.andThen_ok]
  rfl
theorem exec_field {P : Program} {a : Act} {w : World} {o : Oper} (t : TypeId) (x : Operand) (k : Nat) (ho : o.op = .field t x k) (v : Value) (h : (Instr.field t (a.eval x) k).run P w = .ok v w) : (execOp a.eval o).run P w = .ok (.value v) w := by
  unfold execOp
  simp only [ho, Sem.run_bind, h, Result.andThen_ok]
  rfl
theorem wpList_yields {P : Program} {ops : Array Oper} {rest : List Oper} {o : Oper} {a : Act} {w : World} {Q : Exit → Act → World → Prop} (hgd : o.guard = none) (v : Value) (hr : (execOp a.eval o).run P w = .ok (.value v) w) (h : wpList P ops Q rest (a.put o.dst v) w) : wpList P ops Q (o :: rest) a w :=
  wpList_plain hgd fun K hK => by unfold Oper.wp; rw [hr]; exact hK _ _ h
theorem step_yields {P : Program} {ops : Array Oper} {o : Oper} {a : Act} {w : World} {K : Act → World → Prop} {Q : Exit → Act → World → Prop} {E : Prop} (hgd : o.guard = none) (v : Value) (hr : (execOp a.eval o).run P w = .ok (.value v) w) (h : K (a.put o.dst v) w) : if Region.wanted o (yielded ops a.tmps) = true then Oper.wp P o a w K Q else E := by
  have hw : Region.wanted o (yielded ops a.tmps) = true := by simp [Region.wanted, hgd]
  rw [if_pos hw]
  unfold Oper.wp
  rw [hr]
  exact h
theorem yields_of {P : Program} {ops : Array Oper} {S : World → Prop} {o : Oper} {a : Act} (hgd : o.guard = none) (v : Value) (hr : ∀ w, S w → (execOp a.eval o).run P w = .ok (.value v) w) : YieldsIf P ops S o v a :=
  .inl ⟨by simp [Region.wanted, hgd], hr⟩
theorem ovr_all (v u : Nat → Value) (n j : Nat) (h : j < n) : ovr v u 0 n j = u j := by unfold ovr; rw [if_pos (by omega), Nat.sub_zero]
theorem results_vals1 {P : Program} {fn : Func} {p : Tmp} {ty : TypeId} (h : fn.results = #[.cell p ty]) (tmps : Array Value) (w : World) (T : TypeId) (b N : Nat) (v : Nat → Value) (d : TypeDesc)
    (hp : tmps.getD p undef = .pointer (some ⟨b, 0, none⟩)) (hb : VRow T w b N v) (hu : P.underlying ty = some d) (hd : d.isRow = true) (hi : (P.info? ty).map (·.size) = some N) :
    (results fn tmps).run P w = .ok (.agg (vals v N).toArray) w :=
  results_cell_row h tmps w b T _ (0, 0) d hp hb hu (by cases d <;> simp_all [TypeDesc.isRow]) (by rw [hi]; simp [vals])
end Go.Proofs.YtgcalmenlcpjpaaDoor
