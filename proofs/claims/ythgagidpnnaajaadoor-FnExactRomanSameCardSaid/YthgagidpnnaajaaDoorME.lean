/- A map keyed by a loose text: the laws at the operations, for the walk. -/
import Derived.Test.YthgagidpnnaajaaDoorMD
namespace Go.Proofs.YthgagidpnnaajaaDoor
open Go.RowKit
set_option linter.unusedVariables false
set_option maxRecDepth 100000
section
variable (w : World) {ops : Array Oper} {rest : List Oper} {o : Oper} {a : Act} {Q : Exit → Act → World → Prop}
theorem run_make_kv (w : World) : (Instr.makeMap 70 none).run Tryd.prog w = .ok (.map (some w.heap.size)) (w.alloc (.map #[] 0)) := by rfl
theorem wpList_make_kv (hg : o.guard = none) (hop : o.op = Op.makeMap 70 none)
    (hK : wpList Tryd.prog ops Q rest (a.put o.dst (.map (some w.heap.size))) (w.alloc (.map #[] 0))) : wpList Tryd.prog ops Q (o :: rest) a w := by
  refine wpList_plain hg fun K' hK' => ?_
  have hrun := run_make_kv w
  unfold Oper.wp
  simp [execOp, hop, hrun, Result.andThen]
  exact hK' _ _ hK
theorem wpList_insert_kv (hg : o.guard = none) (m x y : Operand) (hop : o.op = Op.insert 70 m x y) (b : Nat) (g : Nat → Int → Nat) (B : Int) (c : Nat) (v : Int) (z : Nat)
    (hm : a.eval m = .map (some b)) (hx : a.eval x = kv c v) (hy : a.eval y = .int .i64 (z : Nat)) (h : MapOf w b g B 0) (hc : c < 7) (h0 : -B ≤ v) (h1 : v ≤ B)
    (hK : ∀ w', MapOf w' b (upd g c v z) B 1 → w.grownBy w' (some b) → w'.heap.size = w.heap.size → wpList Tryd.prog ops Q rest (a.put o.dst undef) w') : wpList Tryd.prog ops Q (o :: rest) a w := by
  refine wpList_plain hg fun K' hK' => ?_
  obtain ⟨w', hrun, r1, r2, r3⟩ := h.insert c v z hc h0 h1 rfl
  unfold Oper.wp
  simp [execOp, hop, hm, hx, hy, hrun, Result.andThen]
  exact hK' _ _ (hK w' r1 r2 r3)
theorem wpList_clear_kv (hg : o.guard = none) (m : Operand) (hop : o.op = Op.call { callee := Callee.builtin Builtin.clear, args := #[m], argTypes := #[70] }) (b : Nat) (g : Nat → Int → Nat) (B : Int) (N : Nat)
    (hm : a.eval m = .map (some b)) (h : MapOf w b g B N)
    (hK : ∀ w', MapOf w' b (fun _ _ => 0) B 0 → w.grownBy w' (some b) → w'.heap.size = w.heap.size → wpList Tryd.prog ops Q rest (a.put o.dst (.tuple #[])) w') : wpList Tryd.prog ops Q (o :: rest) a w := by
  refine wpList_plain hg fun K' hK' => ?_
  obtain ⟨w', hrun, r1, r2, r3⟩ := h.clear o.type
  unfold Oper.wp
  simp [execOp, hop, resolve, invoke, builtin, hm, hrun, Result.andThen]
  exact hK' _ _ (hK w' r1 r2 r3)
theorem wpList_range_kv (hg : o.guard = none) (m : Operand) (hop : o.op = Op.range 70 m) (b : Nat) (g : Nat → Int → Nat) (B : Int) (N : Nat)
    (hm : a.eval m = .map (some b)) (h : MapOf w b g B N)
    (hK : ∀ w' n, Rng w' b w.heap.size g g B N n → n ≤ N → Below w.heap.size w w' → w'.heap.size = w.heap.size + 1 → wpList Tryd.prog ops Q rest (a.put o.dst (.pointer (some ⟨w.heap.size, 0, none⟩))) w') : wpList Tryd.prog ops Q (o :: rest) a w := by
  refine wpList_plain hg fun K' hK' => ?_
  obtain ⟨w', n, hrun, r1, r2, r3, r4⟩ := h.range
  unfold Oper.wp
  simp [execOp, hop, hm, hrun, Result.andThen]
  exact hK' _ _ (hK w' n r1 r2 r3 r4)
theorem wpList_next_kv (hg : o.guard = none) (it : Operand) (hop : o.op = Op.next it false) (b r : Nat) (g rem : Nat → Int → Nat) (B : Int) (N n : Nat)
    (hit : a.eval it = .pointer (some ⟨r, 0, none⟩)) (h : Rng w b r g rem B N n)
    (hDone : n = 0 → (∀ c v, c < 7 → rem c v = 0) → wpList Tryd.prog ops Q rest (a.put o.dst (.tuple #[.bool false])) w)
    (hMore : ∀ (c : Nat) (v : Int) (w' : World) (n' : Nat), c < 7 → -B ≤ v → v ≤ B → rem c v = g c v → Rng w' b r g (upd rem c v 0) B N n' → n' < n → w.grownBy w' (some r) → w'.heap.size = w.heap.size →
      (Instr.entry (.pointer (some ⟨r, 0, none⟩))).run Tryd.prog w' = .ok (.tuple #[kv c v, .int .i64 (g c v : Nat)]) w' → wpList Tryd.prog ops Q rest (a.put o.dst (.tuple #[.bool true, kv c v, .int .i64 (g c v : Nat)])) w') : wpList Tryd.prog ops Q (o :: rest) a w := by
  refine wpList_plain hg fun K' hK' => ?_
  unfold Oper.wp
  rcases h.next o.type with ⟨h0, hl, hrun⟩ | ⟨c, v, w', n', hc, h0, h1, hrem, hrun, r1, r2, r3, r4, r5⟩
  · simp [execOp, hop, hit, hrun, Result.andThen]
    exact hK' _ _ (hDone h0 hl)
  · simp [execOp, hop, hit, hrun, Result.andThen]
    exact hK' _ _ (hMore c v w' n' hc h0 h1 hrem r1 r2 r3 r4 r5)
theorem wpList_entry_kv (hg : o.guard = none) (m x : Operand) (hop : o.op = Op.mapEntry 70 m x) (b : Nat) (g : Nat → Int → Nat) (B : Int) (N c : Nat) (v : Int)
    (hm : a.eval m = .map (some b)) (hx : a.eval x = kv c v) (h : MapOf w b g B N) (hc : c < 7) (h0 : -B ≤ v) (h1 : v ≤ B)
    (hK : ∀ w' st, MapSt w' b g B (N + 1) c v st → w.grownBy w' (some b) → w'.heap.size = w.heap.size → wpList Tryd.prog ops Q rest (a.put o.dst (.tuple #[.int .i64 (g c v : Nat), goInt st])) w') : wpList Tryd.prog ops Q (o :: rest) a w := by
  refine wpList_plain hg fun K' hK' => ?_
  obtain ⟨st, w', hrun, r1, r2, r3⟩ := h.entry c v hc h0 h1
  unfold Oper.wp
  simp [execOp, hop, hm, hx, hrun, Result.andThen]
  exact hK' _ _ (hK w' st r1 r2 r3)
theorem wpList_store_kv (hg : o.guard = none) (m s y : Operand) (hop : o.op = Op.entryStore 70 m s y) (b : Nat) (g : Nat → Int → Nat) (B : Int) (N c : Nat) (v : Int) (st z : Nat)
    (hm : a.eval m = .map (some b)) (hs : a.eval s = goInt st) (hy : a.eval y = .int .i64 (z : Nat)) (h : MapSt w b g B N c v st)
    (hK : ∀ w', MapOf w' b (upd g c v z) B N → w.grownBy w' (some b) → w'.heap.size = w.heap.size → wpList Tryd.prog ops Q rest (a.put o.dst undef) w') : wpList Tryd.prog ops Q (o :: rest) a w := by
  refine wpList_plain hg fun K' hK' => ?_
  obtain ⟨w', hrun, r1, r2, r3⟩ := h.store z
  unfold Oper.wp
  simp [execOp, hop, hm, hs, hy, hrun, Result.andThen]
  exact hK' _ _ (hK w' r1 r2 r3)
theorem wpList_look_kv (hg : o.guard = none) (m x : Operand) (hop : o.op = Op.lookup 70 m x false) (b : Nat) (g : Nat → Int → Nat) (B : Int) (N c : Nat) (v : Int)
    (hm : a.eval m = .map (some b)) (hx : a.eval x = kv c v) (h : MapOf w b g B N) (hc : c < 7) (h0 : -1000000 ≤ v) (h1 : v ≤ 1000000)
    (hK : wpList Tryd.prog ops Q rest (a.put o.dst (.int .i64 (g c v : Nat))) w) : wpList Tryd.prog ops Q (o :: rest) a w := by
  refine wpList_plain hg fun K' hK' => ?_
  have hrun := h.lookup c v hc h0 h1
  unfold Oper.wp
  simp [execOp, hop, hm, hx, hrun, Result.andThen]
  exact hK' _ _ hK
end
/-! ### sums -/
theorem sum7_upd (rem : Nat → Int → Nat) (f : Nat) (v : Int) (hf : f < 7) (p : Nat → Int) : sum7 (fun f' => upd rem f v 0 f' (p f')) + (if p f = v then rem f v else 0) = sum7 fun f' => rem f' (p f') := by
  have q : ∀ i, upd rem f v 0 i (p i) + (if i = f then (if p f = v then rem f v else 0) else 0) = rem i (p i) := by
    intro i
    by_cases hi : i = f
    · subst hi
      rw [if_pos rfl]
      by_cases hv : p i = v
      · rw [if_pos hv, ← hv, upd_same, Nat.zero_add]
      · rw [if_neg hv, upd_other rem 0 (fun h => hv h.2), Nat.add_zero]
    · rw [if_neg hi, upd_other rem 0 (fun h => hi h.1), Nat.add_zero]
  have q0 := q 0; have q1 := q 1; have q2 := q 2; have q3 := q 3; have q4 := q 4; have q5 := q 5; have q6 := q 6
  generalize (if p f = v then rem f v else 0) = z at *
  clear q
  simp only [sum7]
  have h : f = 0 ∨ f = 1 ∨ f = 2 ∨ f = 3 ∨ f = 4 ∨ f = 5 ∨ f = 6 := by omega
  rcases h with rfl | rfl | rfl | rfl | rfl | rfl | rfl <;> simp at q0 q1 q2 q3 q4 q5 q6 <;> omega
theorem upd_round (h3 h : Nat → Int → Nat) (l f : Nat) (v : Int) (x : Nat) (hl : l < 7) (H : ∀ c v', c < 7 → h3 c v' = h c v' + (if c < l ∧ wo c f v' = v then x else 0)) :
    ∀ c v', c < 7 → upd h3 l (bef l f v) (h3 l (bef l f v) + x) c v' = h c v' + (if c < l + 1 ∧ wo c f v' = v then x else 0) := by
  intro c v' hc
  by_cases hh : c = l ∧ v' = bef l f v
  · obtain ⟨rfl, rfl⟩ := hh
    rw [upd_same, H c _ hc, if_neg (by omega), if_pos ⟨by omega, wo_bef c f v⟩, Nat.add_zero]
  · rw [upd_other h3 _ hh, H c v' hc]
    by_cases hw : wo c f v' = v
    · have hcl : c ≠ l := by
        rintro rfl
        exact hh ⟨rfl, by rw [← hw, bef_wo]⟩
      by_cases hlt : c < l
      · rw [if_pos ⟨hlt, hw⟩, if_pos ⟨by omega, hw⟩]
      · rw [if_neg (fun e => hlt e.1), if_neg (fun e => by have := e.1; omega)]
    · rw [if_neg (fun e => hw e.2), if_neg (fun e => hw e.2)]
def psum (F : Nat → Nat) : Nat → Nat
  | 0 => 0
  | m + 1 => psum F m + F m
theorem psum_seven (F : Nat → Nat) : psum F 7 = sum7 F := by simp [psum, sum7]
theorem psum_le (F : Nat → Nat) (M : Nat) (h : ∀ c, c < 7 → F c ≤ M) : ∀ m, m ≤ 7 → psum F m ≤ M * m
  | 0, _ => by simp [psum]
  | m + 1, hm => by have := psum_le F M h m (by omega); have := h m (by omega); simp only [psum, Nat.mul_succ]; omega
end Go.Proofs.YthgagidpnnaajaaDoor
