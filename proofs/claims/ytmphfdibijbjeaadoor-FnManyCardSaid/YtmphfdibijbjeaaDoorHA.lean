/- A goroutine's own steps in company, where it makes memory: the blocks that it has made so far go along. Nothing of one program. -/
import Derived.Conc.Own5
import Derived.Conc.Walk
import Derived.Conc.CompanyCalls
namespace Go.Proofs.YtmphfdibijbjeaaDoor
open Go.Conc
set_option linter.unusedSimpArgs false
set_option linter.unusedVariables false
set_option maxRecDepth 100000
abbrev Bag := Nat → Prop
/-- my blocks behind a step -/
def more (S : Bag) (w w' : World) : Bag := fun b => S b ∨ (w.heap.size ≤ b ∧ b < w'.heap.size)
theorem more_same {S : Bag} {w w' : World} (h : w'.heap.size ≤ w.heap.size) : more S w w' = S := by
  funext b
  exact propext ⟨fun x => x.elim id (fun y => by omega), .inl⟩
/-- at most n own steps from a stop; ahead of each step the others may have turned the world by R; of each step D is asked; S: the blocks that are mine -/
def Trek (P : Program) (main : Bool) (R : Bag → World → World → Prop) (D : Bag → World → World → Array Event → Prop) (Stop : Bag → Goroutine → World → Prop) : Nat → Bag → Goroutine → World → Prop
  | 0, S, g, w => ∀ w₁, R S w w₁ → Stop S g w₁
  | n + 1, S, g, w => (∀ w₁, R S w w₁ → Stop S g w₁) ∨ (g.status = .running ∧ ∀ w₁, R S w w₁ → (stepG P main g w₁).goes fun g' w' es => D S w₁ w' es ∧ Trek P main R D Stop n (more S w₁ w') g' w')
/-- the others' doings add up; nothing may be done -/
structure Fair2 (R : Bag → World → World → Prop) (D : Bag → World → World → Array Event → Prop) : Prop where
  trans : ∀ S a b c, R S a b → R S b c → R S a c
  idle : ∀ S w, D S w w #[]
section
variable {P : Program} {main : Bool} {R : Bag → World → World → Prop} {D : Bag → World → World → Array Event → Prop} {Stop : Bag → Goroutine → World → Prop}
theorem Trek.rely (T : Fair2 R D) {n : Nat} {S : Bag} {g : Goroutine} {w w₁ : World} (h : Trek P main R D Stop n S g w) (hr : R S w w₁) : Trek P main R D Stop n S g w₁ := by
  cases n with
  | zero => exact fun w₂ h₂ => h w₂ (T.trans _ _ _ _ hr h₂)
  | succ n => exact h.imp (fun x w₂ h₂ => x w₂ (T.trans _ _ _ _ hr h₂)) fun x => ⟨x.1, fun w₂ h₂ => x.2 w₂ (T.trans _ _ _ _ hr h₂)⟩
theorem Trek.more : ∀ {n : Nat} {S : Bag} {g : Goroutine} {w : World}, Trek P main R D Stop n S g w → Trek P main R D Stop (n + 1) S g w
  | 0, _, _, _, h => .inl h
  | n + 1, S, g, w, h => by
    rcases h with h | ⟨hs, h⟩
    · exact .inl h
    · refine .inr ⟨hs, fun w₁ h₁ => ?_⟩
      have h2 := h w₁ h₁
      revert h2
      cases stepG P main g w₁ <;> simp only [GStep.goes, imp_self]
      exact fun x => ⟨x.1, Trek.more x.2⟩
theorem Trek.mono {n n' : Nat} {S : Bag} {g : Goroutine} {w : World} (h : Trek P main R D Stop n S g w) (hn : n ≤ n') : Trek P main R D Stop n' S g w := by
  induction hn with
  | refl => exact h
  | step _ ih => exact ih.more
theorem Trek.stop {n : Nat} {S : Bag} {g : Goroutine} {w : World} (h : ∀ w₁, R S w w₁ → Stop S g w₁) : Trek P main R D Stop n S g w := by
  cases n with
  | zero => exact h
  | succ n => exact .inl h
/-- a step that looks at no world and turns none -/
theorem Trek.still (T : Fair2 R D) {n : Nat} {S : Bag} {g g' : Goroutine} {w : World} (hs : g.status = .running) (hg : ∀ w₁, stepG P main g w₁ = .go g' w₁ #[]) (h : Trek P main R D Stop n S g' w) : Trek P main R D Stop (n + 1) S g w :=
  .inr ⟨hs, fun w₁ h₁ => by
    rw [hg w₁]
    refine ⟨T.idle _ _, ?_⟩
    rw [more_same (Nat.le_refl _)]
    exact h.rely T h₁⟩
/-- where it goes on behind a piece of code -/
def Then (P : Program) (main : Bool) (R : Bag → World → World → Prop) (D : Bag → World → World → Array Event → Prop) (Stop : Bag → Goroutine → World → Prop) (m : Nat) (b : Frame) (k : List Item) (cs : List Frame) (S : Bag) : Exit → Act → World → Prop
  | .normal, a, w => Trek P main R D Stop m S (G (b.at a k) cs) w
  | .exit id, a, w => ∃ k', exitTo id k = some k' ∧ Trek P main R D Stop m S (G (b.at a k') cs) w
  | .ret, a, w => ∀ todo, Trek P main R D Stop m S (G { b.at a todo with mode := .returning } cs) w
  | _, _, _ => False
theorem Then.mono {m m' : Nat} {b : Frame} {k : List Item} {cs : List Frame} {S : Bag} {e : Exit} {a : Act} {w : World} (h : Then P main R D Stop m b k cs S e a w) (hm : m ≤ m') : Then P main R D Stop m' b k cs S e a w := by
  cases e with
  | normal => exact Trek.mono h hm
  | exit id => obtain ⟨k', hk, hg⟩ := h; exact ⟨k', hk, hg.mono hm⟩
  | ret => exact fun todo => (h todo).mono hm
  | goto l => exact h
  | panic ch => exact h
  | outgrown => exact h
/-- a way out that is not the normal one passes what stands behind -/
theorem Then.pass {m : Nat} {b : Frame} {x : Item} {k : List Item} {cs : List Frame} {S : Bag} {e : Exit} {a : Act} {w : World} (hx : x.plain = true) (he : e ≠ .normal) (h : Then P main R D Stop m b k cs S e a w) : Then P main R D Stop m b (x :: k) cs S e a w := by
  cases e with
  | normal => exact absurd rfl he
  | exit id => obtain ⟨k', hk, hg⟩ := h; exact ⟨k', by cases x <;> simp_all [exitTo, Item.plain], hg⟩
  | ret => exact h
  | goto l => exact h
  | panic ch => exact h
  | outgrown => exact h
end
/-- the piece of code c, in company, from state a and world w with the blocks S of its own: at most n own steps to a way out that Q allows -/
def codeT (P : Program) (main : Bool) (R : Bag → World → World → Prop) (D : Bag → World → World → Array Event → Prop) (fn : FuncId) (c : Code) (n : Nat) (Q : Bag → Exit → Act → World → Prop) (S : Bag) (a : Act) (w : World) : Prop :=
  ∀ (b : Frame) (k : List Item) (cs : List Frame) (Stop : Bag → Goroutine → World → Prop) (m : Nat), b.fn = fn → b.kind ≠ .early →
    (∀ S' e a' w', Q S' e a' w' → Then P main R D Stop m b k cs S' e a' w') → Trek P main R D Stop (m + n) S (G (b.at a (.code c :: k)) cs) w
def opsT (P : Program) (main : Bool) (R : Bag → World → World → Prop) (D : Bag → World → World → Array Event → Prop) (fn : FuncId) (ops : Array Oper) (todo : List Nat) (n : Nat) (Q : Bag → Exit → Act → World → Prop) (S : Bag) (a : Act) (w : World) : Prop :=
  ∀ (b : Frame) (k : List Item) (cs : List Frame) (Stop : Bag → Goroutine → World → Prop) (m : Nat), b.fn = fn → b.kind ≠ .early →
    (∀ S' e a' w', Q S' e a' w' → Then P main R D Stop m b k cs S' e a' w') → Trek P main R D Stop (m + n) S (G (b.at a (.inRegion ops todo :: k)) cs) w
section
variable {P : Program} {main : Bool} {R : Bag → World → World → Prop} {D : Bag → World → World → Array Event → Prop} {fn : FuncId} {Q : Bag → Exit → Act → World → Prop} {S : Bag} {a : Act} {w : World}
theorem codeT_more {c : Code} {n n' : Nat} (h : codeT P main R D fn c n Q S a w) (hn : n ≤ n') : codeT P main R D fn c n' Q S a w :=
  fun b k cs Stop m hb hk hc => (h b k cs Stop m hb hk hc).mono (by omega)
theorem codeT_mono {c : Code} {n : Nat} {Q' : Bag → Exit → Act → World → Prop} (h : codeT P main R D fn c n Q S a w) (hq : ∀ S e a w, Q S e a w → Q' S e a w) : codeT P main R D fn c n Q' S a w :=
  fun b k cs Stop m hb hk hc => h b k cs Stop m hb hk fun S' e a' w' q => hc S' e a' w' (hq _ _ _ _ q)
theorem codeT_rely (T : Fair2 R D) {c : Code} {n : Nat} {w₁ : World} (h : codeT P main R D fn c n Q S a w) (hr : R S w w₁) : codeT P main R D fn c n Q S a w₁ :=
  fun b k cs Stop m hb hk hc => (h b k cs Stop m hb hk hc).rely T hr
theorem opsT_rely (T : Fair2 R D) {ops : Array Oper} {todo : List Nat} {n : Nat} {w₁ : World} (h : opsT P main R D fn ops todo n Q S a w) (hr : R S w w₁) : opsT P main R D fn ops todo n Q S a w₁ :=
  fun b k cs Stop m hb hk hc => (h b k cs Stop m hb hk hc).rely T hr
theorem codeT_skip (T : Fair2 R D) (h : Q S .normal a w) : codeT P main R D fn .skip 1 Q S a w :=
  fun b k cs Stop m _ _ hc => Trek.still T rfl (fun _ => stepG_skip) (hc _ _ _ _ h)
theorem codeT_label (T : Fair2 R D) {l : Nat} (h : Q S .normal a w) : codeT P main R D fn (.label l) 1 Q S a w :=
  fun b k cs Stop m _ _ hc => Trek.still T rfl (fun _ => stepG_label) (hc _ _ _ _ h)
theorem codeT_ret (T : Fair2 R D) (h : Q S .ret a w) : codeT P main R D fn .ret 1 Q S a w :=
  fun b k cs Stop m _ _ hc => Trek.still T rfl (fun _ => stepG_ret') (hc _ _ _ _ h _)
theorem codeT_exit (T : Fair2 R D) {id : Nat} (h : Q S (.exit id) a w) : codeT P main R D fn (.exit id) 1 Q S a w := fun b k cs Stop m _ _ hc => by
  obtain ⟨k', hk', hg⟩ := hc _ _ _ _ h
  exact Trek.still T rfl (fun _ => stepG_exit hk') hg
theorem codeT_seq (T : Fair2 R D) {x y : Code} {n₁ n₂ : Nat} (h : codeT P main R D fn x n₁ (fun S' => Exit.then (fun a' w' => codeT P main R D fn y n₂ Q S' a' w') (Q S')) S a w) : codeT P main R D fn (.seq x y) (n₁ + n₂ + 1) Q S a w := by
  intro b k cs Stop m hb hk hc
  have hx := h b (.code y :: k) cs Stop (m + n₂) hb hk fun S' e a' w' q => by
    cases e with
    | normal => exact q b k cs Stop m hb hk hc
    | exit id => exact ((hc _ _ _ _ q).mono (Nat.le_add_right _ _)).pass rfl (by simp)
    | ret => exact ((hc _ _ _ _ q).mono (Nat.le_add_right _ _)).pass (x := .code y) rfl (by simp)
    | goto l => exact hc _ _ _ _ q
    | panic ch => exact hc _ _ _ _ q
    | outgrown => exact hc _ _ _ _ q
  rw [show m + (n₁ + n₂ + 1) = (m + n₂ + n₁) + 1 by omega]
  exact Trek.still T rfl (fun _ => stepG_seq) hx
theorem codeT_cond (T : Fair2 R D) {c : Operand} {x y : Code} {t : Bool} {n : Nat} (hc : a.eval c = .bool t) (h : codeT P main R D fn (if t then x else y) n Q S a w) : codeT P main R D fn (.cond c x y) (n + 1) Q S a w :=
  fun b k cs Stop m hb hk hq => Trek.still T rfl (fun _ => stepG_cond hc) (h b k cs Stop m hb hk hq)
theorem codeT_block (T : Fair2 R D) {id : Nat} {c : Code} {n : Nat} (h : codeT P main R D fn c n (fun S' => Exit.inBlock id (Q S')) S a w) : codeT P main R D fn (.block id c) (n + 2) Q S a w := by
  intro b k cs Stop m hb hk hc
  have hx := h b (.inBlock id :: k) cs Stop (m + 1) hb hk fun S' e a' w' q => by
    cases e with
    | normal => exact Trek.still T rfl (fun _ => stepG_inBlock) (hc _ _ _ _ q)
    | exit id' =>
      by_cases hid : id' = id
      · simp only [Exit.inBlock, hid, if_true] at q
        exact ⟨k, by simp [exitTo, hid], Trek.more (hc _ _ _ _ q)⟩
      · simp only [Exit.inBlock, hid, if_false] at q
        obtain ⟨k', hk', hg⟩ := hc _ _ _ _ q
        have hne : (id == id') = false := by simp; exact fun h => hid h.symm
        exact ⟨k', by simp [exitTo, hne, hk'], hg.more⟩
    | ret => exact fun todo => (hc _ _ _ _ q todo).more
    | goto l => exact hc _ _ _ _ q
    | panic ch => exact hc _ _ _ _ q
    | outgrown => exact hc _ _ _ _ q
  rw [show m + (n + 2) = (m + 1 + n) + 1 by omega]
  exact Trek.still T rfl (fun _ => stepG_block) hx
/-- a loop: an invariant, a measure, one bound for all rounds -/
theorem codeT_loop (T : Fair2 R D) {c : Code} (I : Bag → Act → World → Prop) (μ : Act → Nat) (r N : Nat) (h₀ : I S a w) (hN : μ a ≤ N)
    (round : ∀ S a w, I S a w → codeT P main R D fn c r (fun S' => Exit.then (fun a' w' => I S' a' w' ∧ μ a' < μ a) (Q S')) S a w) : codeT P main R D fn (.loop c) ((N + 1) * (r + 1) + 1) Q S a w := by
  intro b k cs Stop m hb hk hc
  have key : ∀ N S a w, μ a ≤ N → I S a w → Trek P main R D Stop (m + (N + 1) * (r + 1)) S (G (b.at a (.code c :: .inLoop c :: k)) cs) w := by
    intro N
    induction N with
    | zero =>
      intro S a w hμ hI
      refine Trek.mono (round S a w hI b (.inLoop c :: k) cs Stop (m + 1) hb hk fun S' e a' w' q => ?_) (by simp; omega)
      cases e with
      | normal => exact absurd q.2 (by omega)
      | exit id => exact ((hc _ _ _ _ q).mono (Nat.le_add_right _ _)).pass rfl (by simp)
      | ret => exact ((hc _ _ _ _ q).mono (Nat.le_add_right _ _)).pass (x := .inLoop c) rfl (by simp)
      | goto l => exact hc _ _ _ _ q
      | panic ch => exact hc _ _ _ _ q
      | outgrown => exact hc _ _ _ _ q
    | succ N ih =>
      intro S a w hμ hI
      have e : (N + 1 + 1) * (r + 1) = (N + 1) * (r + 1) + (r + 1) := by rw [Nat.succ_mul]
      refine Trek.mono (round S a w hI b (.inLoop c :: k) cs Stop (m + (N + 1) * (r + 1) + 1) hb hk fun S' e a' w' q => ?_) (by omega)
      cases e with
      | normal => exact Trek.still T rfl (fun _ => stepG_inLoop) (ih S' a' w' (by have := q.2; omega) q.1)
      | exit id => exact ((hc _ _ _ _ q).mono (by omega)).pass rfl (by simp)
      | ret => exact ((hc _ _ _ _ q).mono (by omega)).pass (x := .inLoop c) rfl (by simp)
      | goto l => exact hc _ _ _ _ q
      | panic ch => exact hc _ _ _ _ q
      | outgrown => exact hc _ _ _ _ q
  rw [show m + ((N + 1) * (r + 1) + 1) = (m + (N + 1) * (r + 1)) + 1 by omega]
  exact Trek.still T rfl (fun _ => stepG_loop) (key N S a w hN h₀)
theorem codeT_region (T : Fair2 R D) {id : Nat} {ops : Array Oper} {n : Nat} (h : opsT P main R D fn ops (List.range ops.size) n Q S a w) : codeT P main R D fn (.region id ops false) (n + 1) Q S a w :=
  fun b k cs Stop m hb hk hc => Trek.still T rfl (fun _ => stepG_region) (h b k cs Stop m hb hk hc)
theorem opsT_nil (T : Fair2 R D) {ops : Array Oper} (h : Q S .normal a w) : opsT P main R D fn ops [] 1 Q S a w :=
  fun b k cs Stop m _ _ hc => Trek.still T rfl (fun _ => stepG_region_end) (hc _ _ _ _ h)
theorem opsT_more {ops : Array Oper} {todo : List Nat} {n n' : Nat} (h : opsT P main R D fn ops todo n Q S a w) (hn : n ≤ n') : opsT P main R D fn ops todo n' Q S a w :=
  fun b k cs Stop m hb hk hc => (h b k cs Stop m hb hk hc).mono (by omega)
/-- one operation -/
theorem opsT_cons {ops : Array Oper} {i : Nat} {rest : List Nat} {o : Oper} {n : Nat} (ho : ops[i]? = some o) (hw : Region.wanted o (yielded ops a.tmps) = true)
    (h : ∀ w₁, R S w w₁ → uponK o a (fun a' w' => D S w₁ w' (listed P fn a o w₁) ∧ opsT P main R D fn ops rest n Q (more S w₁ w') a' w') ((execOp a.eval o).run P w₁)) : opsT P main R D fn ops (i :: rest) (n + 1) Q S a w := by
  intro b k cs Stop m hb hk hc
  refine .inr ⟨rfl, fun w₁ h₁ => goes_oper ho hw hk ?_⟩
  have h2 := h w₁ h₁
  revert h2
  cases (execOp a.eval o).run P w₁ with
  | ok x w' => cases x <;> first | exact fun h2 => ⟨hb ▸ h2.1, h2.2 b k cs Stop m hb hk hc⟩ | exact id
  | halt _ _ => exact id
theorem opsT_unwanted (T : Fair2 R D) {ops : Array Oper} {i : Nat} {rest : List Nat} {o : Oper} {n : Nat} (ho : ops[i]? = some o) (hw : Region.wanted o (yielded ops a.tmps) = false)
    (h : opsT P main R D fn ops rest n Q S (a.put o.dst undef) w) : opsT P main R D fn ops (i :: rest) (n + 1) Q S a w :=
  fun b k cs Stop m hb hk hc => Trek.still T rfl (fun _ => stepG_unwanted ho hw) (h b k cs Stop m hb hk hc)
/-- an operation that yields a value, the same in every world, and lists nothing -/
theorem opsT_value (T : Fair2 R D) {ops : Array Oper} {i : Nat} {rest : List Nat} {o : Oper} {n : Nat} {v : Value} (ho : ops[i]? = some o) (hw : Region.wanted o (yielded ops a.tmps) = true)
    (hr : ∀ w₁, (execOp a.eval o).run P w₁ = .ok (.value v) w₁) (hl : ∀ w₁, listed P fn a o w₁ = #[]) (h : opsT P main R D fn ops rest n Q S (a.put o.dst v) w) : opsT P main R D fn ops (i :: rest) (n + 1) Q S a w :=
  opsT_cons ho hw fun w₁ h₁ => by
    rw [hr w₁, uponK_value, hl w₁]
    refine ⟨T.idle _ _, ?_⟩
    rw [more_same (Nat.le_refl _)]
    exact opsT_rely T h h₁
end
/-- what a body has to come to -/
def bodyT (P : Program) (fn : Func) (Post : Bag → Value → World → Prop) (S : Bag) : Exit → Act → World → Prop
  | .normal, a, w | .ret, a, w => a.defers = [] ∧ ∃ v, ResultsC P fn a.tmps v ∧ Post S v w
  | _, _, _ => False
/-- a contract in company -/
def CallsT (P : Program) (main : Bool) (R : Bag → World → World → Prop) (D : Bag → World → World → Array Event → Prop) (f : FuncId) (args : Array Value) (n : Nat) (S : Bag) (w : World) (Post : Bag → Value → World → Prop) : Prop :=
  ∃ fn c, P.funcs[f]? = some fn ∧ (fn.name == "runtime.NumGoroutine") = false ∧ fn.body = some c ∧
    codeT P main R D f c n (bodyT P fn Post) S { tmps := args ++ Array.replicate (fn.ntmps - args.size) undef, defers := [] } w
section
variable {P : Program} {main : Bool} {R : Bag → World → World → Prop} {D : Bag → World → World → Array Event → Prop}
theorem opsT_call (T : Fair2 R D) {fn : FuncId} {Q : Bag → Exit → Act → World → Prop} {S : Bag} {a : Act} {w : World} {ops : Array Oper} {i : Nat} {rest : List Nat} {o : Oper} {f : FuncId} {args : Array Operand} {ats : Array TypeId} {nf n : Nat} {Post : Bag → Value → World → Prop}
    (ho : ops[i]? = some o) (hw : Region.wanted o (yielded ops a.tmps) = true) (hop : o.op = .call { callee := .value (.func f), args, argTypes := ats })
    (hcall : CallsT P main R D f (args.map a.eval) nf S w Post) (hnext : ∀ S' v w', Post S' v w' → opsT P main R D fn ops rest n Q S' (a.put o.dst v) w') : opsT P main R D fn ops (i :: rest) (n + nf + 3) Q S a w := by
  intro b k cs Stop m hb hk hc
  obtain ⟨fn', c, hf, hname, hbody, hwp⟩ := hcall
  have hfin : ∀ v, (b.at a (.inRegion ops (i :: rest) :: k)).finish v = b.at (a.put o.dst v) (.inRegion ops rest :: k) := fun v => by rw [Frame.finish_at, ho]; rfl
  have hleave : ∀ (S' : Bag) (a' : Act) (w' : World) (todo : List Item), (a'.defers = [] ∧ ∃ v, ResultsC P fn' a'.tmps v ∧ Post S' v w') →
      Trek P main R D Stop (m + n + 1) S' (G { (base f).at a' todo with mode := .returning } (b.at a (.inRegion ops (i :: rest) :: k) :: cs)) w' := by
    rintro S' a' w' todo ⟨hd, v, hr, hp⟩
    refine Trek.still T rfl (fun w₁ => ?_) (hnext S' v w' hp b k cs Stop m hb hk hc)
    rw [stepG_leave (b := base f) rfl hd hf (hr w₁).1 (hr w₁).2, hfin]
  have hbodyG := hwp (base f) [] (b.at a (.inRegion ops (i :: rest) :: k) :: cs) Stop (m + n + 2) rfl (by simp [base]) fun S' e a' w' q => by
    cases e with
    | normal => exact Trek.still T rfl (fun _ => stepG_end) (hleave S' a' w' [] q)
    | ret => exact fun todo => (hleave S' a' w' todo q).more
    | exit id => exact q.elim
    | goto l => exact q.elim
    | panic ch => exact q.elim
    | outgrown => exact q.elim
  rw [show m + (n + nf + 3) = (m + n + 2 + nf) + 1 by omega]
  refine .inr ⟨rfl, fun w₁ h₁ => goes_call ho hw hk hop hf hname hbody ⟨T.idle _ _, ?_⟩⟩
  rw [more_same (Nat.le_refl _)]
  exact Trek.rely T hbodyG h₁
/-- a walk in which nothing is made, told by the kit's judgement -/
theorem Trek.of_goes {R0 : World → World → Prop} {D0 : World → World → Array Event → Prop} {Stop0 : Goroutine → World → Prop} {Stop : Bag → Goroutine → World → Prop} {S : Bag}
    (hR : ∀ w w₁, R S w w₁ → R0 w w₁) (hD : ∀ w w' es, D0 w w' es → D S w w' es ∧ w'.heap.size ≤ w.heap.size) (hS : ∀ g w, Stop0 g w → Stop S g w) :
    ∀ {n : Nat} {g : Goroutine} {w : World}, Goes P main R0 D0 Stop0 n g w → Trek P main R D Stop n S g w
  | 0, g, w, h => fun w₁ h₁ => hS _ _ (h w₁ (hR _ _ h₁))
  | n + 1, g, w, h => by
    rcases h with h | ⟨hs, h⟩
    · exact .inl fun w₁ h₁ => hS _ _ (h w₁ (hR _ _ h₁))
    · refine .inr ⟨hs, fun w₁ h₁ => ?_⟩
      have h2 := h w₁ (hR _ _ h₁)
      revert h2
      cases stepG P main g w₁ <;> simp only [GStep.goes, imp_self]
      rintro ⟨d, x⟩
      obtain ⟨d1, d2⟩ := hD _ _ _ d
      exact ⟨d1, by rw [more_same d2]; exact Trek.of_goes hR hD hS x⟩
end
end Go.Proofs.YtmphfdibijbjeaaDoor
