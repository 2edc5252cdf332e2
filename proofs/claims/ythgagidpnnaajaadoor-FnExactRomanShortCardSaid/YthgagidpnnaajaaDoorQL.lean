/- The program's lengthen. -/
import Derived.Test.YthgagidpnnaajaaDoorQF
namespace Go.Proofs.YthgagidpnnaajaaDoor
open Go.RowKit
set_option linter.unusedVariables false
set_option maxRecDepth 100000
abbrev St := Nat × Int
def stCells (ss : List St) : List Value := ss.flatMap fun s => [.int .i64 (s.1 : Nat), .int .i64 s.2]
theorem stCells_append (a b : List St) : stCells (a ++ b) = stCells a ++ stCells b := by simp [stCells]
theorem stCells_length (a : List St) : (stCells a).length = a.length * 2 := by
  induction a with
  | nil => rfl
  | cons s r ih =>
    have e : stCells (s :: r) = .int .i64 (s.1 : Nat) :: .int .i64 s.2 :: stCells r := by simp [stCells]
    rw [e]
    simp only [List.length_cons, ih]
    omega
theorem stCells_at : ∀ (a : List St) (i : Nat) (h : i < a.length), (stCells a)[i * 2]? = some (.int .i64 (a[i].1 : Nat)) ∧ (stCells a)[i * 2 + 1]? = some (.int .i64 a[i].2)
  | [], i, h => by simp at h
  | s :: r, 0, _ => by simp [stCells]
  | s :: r, i + 1, h => by
    have ih := stCells_at r i (by simpa using h)
    have e : stCells (s :: r) = .int .i64 (s.1 : Nat) :: .int .i64 s.2 :: stCells r := by simp [stCells]
    rw [e, show (i + 1) * 2 = i * 2 + 1 + 1 by omega]
    simpa using ih
/-- a table and the states that were new -/
abbrev Acc := (Nat → Nat → Nat) × List St
def lookF (N : Nat) (F : Nat → Nat → Nat) (c : Nat) (v : Int) : Nat := if 1 ≤ v ∧ v < N then F c v.toNat else 0
def setF (F : Nat → Nat → Nat) (c v x : Nat) : Nat → Nat → Nat := fun c' v' => if c' = c ∧ v' = v then x else F c' v'
def stepL (N x : Nat) (s : St) (a : Acc) (l : Nat) : Acc :=
  if bef l s.1 s.2 < N ∧ lookF N a.1 l (bef l s.1 s.2) = 0 then (setF a.1 l (bef l s.1 s.2).toNat x, a.2 ++ [(l, bef l s.1 s.2)]) else a
def stepS (N x : Nat) (a : Acc) (s : St) : Acc := (List.range 7).foldl (stepL N x s) a
def lenL (N x : Nat) (ss : List St) (a : Acc) : Acc := ss.foldl (stepS N x) a
theorem stepL_len (N x : Nat) (s : St) (a : Acc) (l : Nat) : a.2.length ≤ (stepL N x s a l).2.length ∧ (stepL N x s a l).2.length ≤ a.2.length + 1 := by
  unfold stepL; split <;> simp
theorem stepL_bd (N x : Nat) (hx : x ≤ 100) (s : St) (a : Acc) (l : Nat) (h : ∀ c v, a.1 c v ≤ 100) : ∀ c v, (stepL N x s a l).1 c v ≤ 100 := by
  intro c v
  unfold stepL
  split
  · show setF _ _ _ _ c v ≤ 100
    unfold setF
    split
    · exact hx
    · exact h c v
  · exact h c v
theorem range_fold (N x : Nat) (s : St) (a : Acc) (l : Nat) : (List.range (l + 1)).foldl (stepL N x s) a = stepL N x s ((List.range l).foldl (stepL N x s) a) l := by
  rw [List.range_succ, List.foldl_append]; rfl
theorem take_fold (N x : Nat) (ss : List St) (a : Acc) (i : Nat) (h : i < ss.length) : lenL N x (ss.take (i + 1)) a = stepS N x (lenL N x (ss.take i) a) ss[i] := by
  unfold lenL
  rw [List.take_succ_eq_append_getElem h, List.foldl_append]; rfl
/-- the row of the new states is not the block of the state at hand -/
theorem append_ne {w w' : World} {base n rb : Nat} {e T : TypeId} {v v' : Value} {xs : List Value} {p q x y : Value} (ho : w'.ownsRow base e 2 v' (n + 1) (xs ++ [p, q])) (hx : xs.length = n * 2) (hg : w.grownBy w' v.ownBlock)
    (hb : w.heap[rb]? = some (.cells #[x, y] T (0, 0))) (hne : v.ownBlock ≠ some rb) (hpq : ¬ (p = x ∧ q = y)) : v'.ownBlock ≠ some rb := by
  intro hv
  have hb' := (hg.block rb (lt_of_block' hb) (fun e => hne e.symm)).trans hb
  rcases ho.2 with ⟨rfl, h⟩ | ⟨g, cap, cur, rfl, _, hgg, hnc, _, hcs, htk⟩
  · omega
  · simp [Value.ownBlock] at hv
    subst hv
    rw [hb'] at hgg
    simp only [Option.some.injEq, Obj.cells.injEq] at hgg
    obtain ⟨rfl, _⟩ := hgg
    have h2 : (#[x, y] : Array Value).size = 2 := rfl
    rw [h2] at hcs
    have hn : n = 0 := by omega
    subst hn
    have hx0 : xs = [] := List.eq_nil_of_length_eq_zero (by omega)
    subst hx0
    simp at htk
    exact hpq ⟨htk.1.symm, htk.2.symm⟩
theorem bef_ne (l c : Nat) (v : Int) (hl : l < 7) : ¬ (l = c ∧ bef l c v = v) := by
  rintro ⟨rfl, h⟩
  have := lv_pos l hl
  unfold bef at h
  rw [if_neg (by omega)] at h
  omega
theorem info_st : (Tryd.prog.info? 47).map (fun i => (i.zero, i.size, i.bytes)) = some (some (.agg #[.int .i64 0, .int .i64 0]), 2, 16) := by kernel_rfl
end Go.Proofs.YthgagidpnnaajaaDoor
