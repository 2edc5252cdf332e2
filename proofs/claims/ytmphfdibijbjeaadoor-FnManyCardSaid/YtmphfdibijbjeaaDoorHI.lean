/- The literal that each goroutine runs: up to its send. -/
import Derived.Test.YtmphfdibijbjeaaDoorHF
import Derived.Test.YtmphfdibijbjeaaDoorHG
namespace Go.Proofs.YtmphfdibijbjeaaDoor
open Go.Conc Go.RowKit
set_option linter.unusedSimpArgs false
set_option linter.unusedVariables false
set_option maxRecDepth 100000
def bL : Frame := baseD 15
noncomputable def botL : Frame := { (default : Frame) with fn := Tryd.prog.funcs.size, defers := [], mode := .panicking [goexitEntry] }
noncomputable def bodyL : Code := Tryd.f15.body.getD .skip
/-- the call that a go statement holds: the group, the channel's variable, the digit, k -/
def callL (Wg bc bd bk : Nat) : Deferred := { target := .fn (.func 15) #[.pointer (some ⟨Wg, 0, none⟩), .pointer (some ⟨bc, 0, none⟩), .pointer (some ⟨bd, 0, none⟩), .pointer (some ⟨bk, 0, none⟩)], args := #[] }
theorem born_stepL (Wg bc bd bk : Nat) (w : World) : stepG Tryd.prog false (born Tryd.prog (callL Wg bc bd bk)) w =
    .go (G (bL.at ⟨#[.pointer (some ⟨Wg, 0, none⟩), .pointer (some ⟨bc, 0, none⟩), .pointer (some ⟨bd, 0, none⟩), .pointer (some ⟨bk, 0, none⟩), undef, undef, undef, undef], []⟩ [.code bodyL]) [botL]) w #[] := by
  simp [born, callL, stepG, unwind, callDeferred, invoke, callFunc, Tryd.func15, Tryd.f15, seen, GStep.after, G, Frame.enter, Frame.at, bL, baseD, botL, bodyL]
variable {B0 Low : Nat} {Shr : Nat → Prop} {Lv : World → Prop}
/-- what a worker knows of the world -/
structure HL (B0 Low : Nat) (Shr : Nat → Prop) (o : Nat → Obj) (C bc bd bk : Nat) (d : Nat) (x : Int) (S : Bag) (w : World) : Prop where
  ht : HT B0 Low Shr S w
  lo : LowAt Low Shr o S w
  lc : bc < Low ∧ ¬ Shr bc
  ld : bd < Low ∧ ¬ Shr bd
  lk : bk < Low ∧ ¬ Shr bk
  cc : w.cell? ⟨bc, 0, none⟩ = some (.chan (some C))
  cd : w.cell? ⟨bd, 0, none⟩ = some (.int .i64 (d : Nat))
  ck : w.cell? ⟨bk, 0, none⟩ = some (.int .i64 x)
theorem LowAt.cell {o : Nat → Obj} {S S' : Bag} {w w' : World} (h : LowAt Low Shr o S w) (h' : LowAt Low Shr o S' w') {a : Addr} (hb : a.block < Low) (hs : ¬ Shr a.block) : w'.cell? a = w.cell? a := by
  simp [World.cell?, h.2 _ hb hs, h'.2 _ hb hs]
theorem HL.turn {o : Nat → Obj} {C bc bd bk d : Nat} {x : Int} {S S' : Bag} {w w₁ : World} (h : HL B0 Low Shr o C bc bd bk d x S w) (ht : HT B0 Low Shr S' w₁) (hl : LowAt Low Shr o S' w₁) : HL B0 Low Shr o C bc bd bk d x S' w₁ :=
  ⟨ht, hl, h.lc, h.ld, h.lk, (h.lo.cell hl h.lc.1 h.lc.2).trans h.cc, (h.lo.cell hl h.ld.1 h.ld.2).trans h.cd, (h.lo.cell hl h.lk.1 h.lk.2).trans h.ck⟩
theorem HL.rely {o : Nat → Obj} {C bc bd bk d : Nat} {x : Int} {S : Bag} {w w₁ : World} (h : HL B0 Low Shr o C bc bd bk d x S w) (r : RH Low Shr Lv S w w₁) : HL B0 Low Shr o C bc bd bk d x S w₁ := h.turn (h.ht.rely r) ((LowAt.rely r).1 h.lo)
/-- the stop at the send -/
def AtSend (P : Program) (Low : Nat) (Shr : Nat → Prop) (Lv : World → Prop) (C : Nat) (v : Value) (Next : Bag → Goroutine → World → Prop) (S : Bag) (g : Goroutine) (w : World) : Prop :=
  g.status = .running ∧ ∃ g₂ z, stepG P false g w = .comm g₂ #[scase C v z] true .send w #[] ∧ Next S (Go.Conc.served g₂ undef) w
theorem stepG_send {P : Program} {main : Bool} {c : Nat} {v : Value} {b : Frame} {a : Act} {k : List Item} {cs : List Frame} {ops : Array Oper} {i : Nat} {rest : List Nat} {o : Oper} {x y : Operand} {w : World} (ho : ops[i]? = some o)
    (hw : Region.wanted o (yielded ops a.tmps) = true) (hk : b.kind ≠ .early) (hop : o.op = .send x y) (hx : a.eval x = .chan (some c)) (hy : a.eval y = v) :
    stepG P main (G (b.at a (.inRegion ops (i :: rest) :: k)) cs) w = .comm (G (b.at a (.inRegion ops (i :: rest) :: k)) cs) #[scase c v (.tuple #[])] true .send w #[] := by
  rw [stepG_comm (cases := #[scase c v (.tuple #[])]) (blocking := true) (shape := .send) (w' := w) ho hw hk (by simp [execOp, hop, hx, hy, scase])]
  have he : (execOp a.eval o).events P w #[] = #[] := by
    unfold execOp
    simp only [hop]
    rfl
  unfold listed
  rw [he]
  simp [seen]
/-- behind it -/
def Sent (Wg : Nat) (g : Goroutine) : Prop := ∃ (T : Array Value) (ops : Array Oper), g = G (bL.at ⟨T, [dcall 16 #[.pointer (some ⟨Wg, 0, none⟩)]]⟩ [.inRegion ops []]) [botL]
theorem evL {S : Bag} {w : World} {a : Addr} {s : Bool} (hb : a.block < Low) (hs : ¬ Shr a.block) : EvH Low Shr S w ⟨.cell a, false, s⟩ := .inl ⟨a, rfl, .inr ⟨hb, hs, rfl⟩⟩
theorem pick {ops : Array Oper} {L : List (List Nat)} {l : List Nat} (hl : l ∈ orders ops) (hb : ((orders ops).all fun l => L.contains l) = true) : l ∈ L := List.contains_iff_mem.1 (List.all_eq_true.1 hb l hl)
set_option maxHeartbeats 4000000 in
theorem litSend : ∃ N, ∀ (Wg C bc bd bk d : Nat) (x : Int) (o : Nat → Obj) (S : Bag) (w : World), d < 10 → HL B0 Low Shr o C bc bd bk d x S w →
    Trek Tryd.prog false (RH Low Shr Lv) (DH Low Shr) (AtSend Tryd.prog Low Shr Lv C (.int .i64 (cntR x (1000 * d) 1000 : Nat)) (fun S g w => Sent Wg g ∧ HL B0 Low Shr o C bc bd bk d x S w)) N S (born Tryd.prog (callL Wg bc bd bk)) w := by
  obtain ⟨Nc, hct⟩ := countThousandT (main := false) (B0 := B0) (Low := Low) (Shr := Shr) (Lv := Lv)
  refine ⟨Nc + 20, fun Wg C bc bd bk d x o S w hd hF => ?_⟩
  refine Trek.mono (n := (Nc + 10) + 1 + 1 + 1 + 1 + 1 + 1) ?_ (by omega)
  refine Trek.still fairH rfl (fun _ => born_stepL Wg bc bd bk _) ?_
  simp only [bodyL, Tryd.f15, Option.getD_some]
  refine Trek.still fairH rfl (fun _ => stepG_seq) ?_
  refine Trek.still fairH rfl (fun _ => stepG_region) ?_
  simp only [List.size_toArray, List.length_cons, List.length_nil, Nat.reduceAdd, Nat.zero_add, List.range, List.range.loop]
  refine Trek.still fairH rfl (fun _ => stepG_defer rfl rfl (by decide) rfl) ?_
  walk_nrm
  refine Trek.still fairH rfl (fun _ => stepG_region_end) ?_
  refine Trek.draw fun w₁ h₁ l hl => ?_
  replace hF := hF.rely h₁
  clear h₁
  replace hF : HL B0 Low Shr o C bc bd bk d x S { w₁ with drawn := w₁.drawn + 1 } := ⟨⟨hF.ht.env, hF.ht.tab, hF.ht.sz⟩, hF.lo, hF.lc, hF.ld, hF.lk, hF.cc, hF.cd, hF.ck⟩
  revert hF
  generalize { w₁ with drawn := w₁.drawn + 1 } = w₂
  intro hF
  have hm := pick (L := [[0,1,2,3,4],[0,2,1,3,4],[1,0,2,3,4],[2,0,1,3,4],[1,2,0,3,4],[2,1,0,3,4],[1,2,3,0,4],[2,1,3,0,4]]) hl (by kernel_rfl)
  clear hl
  simp only [List.mem_cons, List.not_mem_nil, or_false] at hm
  rcases hm with rfl | rfl | rfl | rfl | rfl | rfl | rfl | rfl
  · (refine Trek.look_k rfl (by rfl) (by decide) ?_; intro w₂ h₂ K hK; replace hF := hF.rely h₂; clear h₂; have h1 := hF.cc; have h2 := hF.cd; have h3 := hF.ck; go_simp; refine hK _ ⟨DH.read fun e he => ?_, ?_⟩; (· (have hm := mem_listed he; simp [go_sem, *] at hm; subst hm; first | exact evL hF.lc.1 hF.lc.2 | exact evL hF.ld.1 hF.ld.2 | exact evL hF.lk.1 hF.lk.2)); clear hK K h1 h2 h3)
    try walk_nrm
    (refine Trek.look_k rfl (by rfl) (by decide) ?_; intro w₂ h₂ K hK; replace hF := hF.rely h₂; clear h₂; have h1 := hF.cc; have h2 := hF.cd; have h3 := hF.ck; go_simp; refine hK _ ⟨DH.read fun e he => ?_, ?_⟩; (· (have hm := mem_listed he; simp [go_sem, *] at hm; subst hm; first | exact evL hF.lc.1 hF.lc.2 | exact evL hF.ld.1 hF.ld.2 | exact evL hF.lk.1 hF.lk.2)); clear hK K h1 h2 h3)
    try walk_nrm
    (refine Trek.look_k rfl (by rfl) (by decide) ?_; intro w₂ h₂ K hK; replace hF := hF.rely h₂; clear h₂; have h1 := hF.cc; have h2 := hF.cd; have h3 := hF.ck; go_simp; refine hK _ ⟨DH.read fun e he => ?_, ?_⟩; (· (have hm := mem_listed he; simp [go_sem, *] at hm; subst hm; first | exact evL hF.lc.1 hF.lc.2 | exact evL hF.ld.1 hF.ld.2 | exact evL hF.lk.1 hF.lk.2)); clear hK K h1 h2 h3)
    try walk_nrm
    (refine Trek.mono (n := 3 + Nc + 3) ?_ (by omega); refine Trek.call fairH rfl (by rfl) (by decide) rfl (CallsT.low ((hct d x hd) _ _ hF.ht) hF.lo) (by simp [go_sem]) ?_; rintro S' v w' ⟨⟨hv, ht⟩, lo⟩; subst hv; replace hF := hF.turn ht lo; clear ht lo)
    try walk_nrm
    (refine Trek.stop fun w₂ h₂ => ?_; replace hF := hF.rely h₂; clear h₂; refine ⟨rfl, _, .tuple #[], stepG_send rfl (by rfl) (by decide) rfl rfl rfl, ?_⟩; exact ⟨⟨_, _, (served_G _ _ _ _ _ _ _ _).trans rfl⟩, hF⟩)
  · (refine Trek.look_k rfl (by rfl) (by decide) ?_; intro w₂ h₂ K hK; replace hF := hF.rely h₂; clear h₂; have h1 := hF.cc; have h2 := hF.cd; have h3 := hF.ck; go_simp; refine hK _ ⟨DH.read fun e he => ?_, ?_⟩; (· (have hm := mem_listed he; simp [go_sem, *] at hm; subst hm; first | exact evL hF.lc.1 hF.lc.2 | exact evL hF.ld.1 hF.ld.2 | exact evL hF.lk.1 hF.lk.2)); clear hK K h1 h2 h3)
    try walk_nrm
    (refine Trek.look_k rfl (by rfl) (by decide) ?_; intro w₂ h₂ K hK; replace hF := hF.rely h₂; clear h₂; have h1 := hF.cc; have h2 := hF.cd; have h3 := hF.ck; go_simp; refine hK _ ⟨DH.read fun e he => ?_, ?_⟩; (· (have hm := mem_listed he; simp [go_sem, *] at hm; subst hm; first | exact evL hF.lc.1 hF.lc.2 | exact evL hF.ld.1 hF.ld.2 | exact evL hF.lk.1 hF.lk.2)); clear hK K h1 h2 h3)
    try walk_nrm
    (refine Trek.look_k rfl (by rfl) (by decide) ?_; intro w₂ h₂ K hK; replace hF := hF.rely h₂; clear h₂; have h1 := hF.cc; have h2 := hF.cd; have h3 := hF.ck; go_simp; refine hK _ ⟨DH.read fun e he => ?_, ?_⟩; (· (have hm := mem_listed he; simp [go_sem, *] at hm; subst hm; first | exact evL hF.lc.1 hF.lc.2 | exact evL hF.ld.1 hF.ld.2 | exact evL hF.lk.1 hF.lk.2)); clear hK K h1 h2 h3)
    try walk_nrm
    (refine Trek.mono (n := 3 + Nc + 3) ?_ (by omega); refine Trek.call fairH rfl (by rfl) (by decide) rfl (CallsT.low ((hct d x hd) _ _ hF.ht) hF.lo) (by simp [go_sem]) ?_; rintro S' v w' ⟨⟨hv, ht⟩, lo⟩; subst hv; replace hF := hF.turn ht lo; clear ht lo)
    try walk_nrm
    (refine Trek.stop fun w₂ h₂ => ?_; replace hF := hF.rely h₂; clear h₂; refine ⟨rfl, _, .tuple #[], stepG_send rfl (by rfl) (by decide) rfl rfl rfl, ?_⟩; exact ⟨⟨_, _, (served_G _ _ _ _ _ _ _ _).trans rfl⟩, hF⟩)
  · (refine Trek.look_k rfl (by rfl) (by decide) ?_; intro w₂ h₂ K hK; replace hF := hF.rely h₂; clear h₂; have h1 := hF.cc; have h2 := hF.cd; have h3 := hF.ck; go_simp; refine hK _ ⟨DH.read fun e he => ?_, ?_⟩; (· (have hm := mem_listed he; simp [go_sem, *] at hm; subst hm; first | exact evL hF.lc.1 hF.lc.2 | exact evL hF.ld.1 hF.ld.2 | exact evL hF.lk.1 hF.lk.2)); clear hK K h1 h2 h3)
    try walk_nrm
    (refine Trek.look_k rfl (by rfl) (by decide) ?_; intro w₂ h₂ K hK; replace hF := hF.rely h₂; clear h₂; have h1 := hF.cc; have h2 := hF.cd; have h3 := hF.ck; go_simp; refine hK _ ⟨DH.read fun e he => ?_, ?_⟩; (· (have hm := mem_listed he; simp [go_sem, *] at hm; subst hm; first | exact evL hF.lc.1 hF.lc.2 | exact evL hF.ld.1 hF.ld.2 | exact evL hF.lk.1 hF.lk.2)); clear hK K h1 h2 h3)
    try walk_nrm
    (refine Trek.look_k rfl (by rfl) (by decide) ?_; intro w₂ h₂ K hK; replace hF := hF.rely h₂; clear h₂; have h1 := hF.cc; have h2 := hF.cd; have h3 := hF.ck; go_simp; refine hK _ ⟨DH.read fun e he => ?_, ?_⟩; (· (have hm := mem_listed he; simp [go_sem, *] at hm; subst hm; first | exact evL hF.lc.1 hF.lc.2 | exact evL hF.ld.1 hF.ld.2 | exact evL hF.lk.1 hF.lk.2)); clear hK K h1 h2 h3)
    try walk_nrm
    (refine Trek.mono (n := 3 + Nc + 3) ?_ (by omega); refine Trek.call fairH rfl (by rfl) (by decide) rfl (CallsT.low ((hct d x hd) _ _ hF.ht) hF.lo) (by simp [go_sem]) ?_; rintro S' v w' ⟨⟨hv, ht⟩, lo⟩; subst hv; replace hF := hF.turn ht lo; clear ht lo)
    try walk_nrm
    (refine Trek.stop fun w₂ h₂ => ?_; replace hF := hF.rely h₂; clear h₂; refine ⟨rfl, _, .tuple #[], stepG_send rfl (by rfl) (by decide) rfl rfl rfl, ?_⟩; exact ⟨⟨_, _, (served_G _ _ _ _ _ _ _ _).trans rfl⟩, hF⟩)
  · (refine Trek.look_k rfl (by rfl) (by decide) ?_; intro w₂ h₂ K hK; replace hF := hF.rely h₂; clear h₂; have h1 := hF.cc; have h2 := hF.cd; have h3 := hF.ck; go_simp; refine hK _ ⟨DH.read fun e he => ?_, ?_⟩; (· (have hm := mem_listed he; simp [go_sem, *] at hm; subst hm; first | exact evL hF.lc.1 hF.lc.2 | exact evL hF.ld.1 hF.ld.2 | exact evL hF.lk.1 hF.lk.2)); clear hK K h1 h2 h3)
    try walk_nrm
    (refine Trek.look_k rfl (by rfl) (by decide) ?_; intro w₂ h₂ K hK; replace hF := hF.rely h₂; clear h₂; have h1 := hF.cc; have h2 := hF.cd; have h3 := hF.ck; go_simp; refine hK _ ⟨DH.read fun e he => ?_, ?_⟩; (· (have hm := mem_listed he; simp [go_sem, *] at hm; subst hm; first | exact evL hF.lc.1 hF.lc.2 | exact evL hF.ld.1 hF.ld.2 | exact evL hF.lk.1 hF.lk.2)); clear hK K h1 h2 h3)
    try walk_nrm
    (refine Trek.look_k rfl (by rfl) (by decide) ?_; intro w₂ h₂ K hK; replace hF := hF.rely h₂; clear h₂; have h1 := hF.cc; have h2 := hF.cd; have h3 := hF.ck; go_simp; refine hK _ ⟨DH.read fun e he => ?_, ?_⟩; (· (have hm := mem_listed he; simp [go_sem, *] at hm; subst hm; first | exact evL hF.lc.1 hF.lc.2 | exact evL hF.ld.1 hF.ld.2 | exact evL hF.lk.1 hF.lk.2)); clear hK K h1 h2 h3)
    try walk_nrm
    (refine Trek.mono (n := 3 + Nc + 3) ?_ (by omega); refine Trek.call fairH rfl (by rfl) (by decide) rfl (CallsT.low ((hct d x hd) _ _ hF.ht) hF.lo) (by simp [go_sem]) ?_; rintro S' v w' ⟨⟨hv, ht⟩, lo⟩; subst hv; replace hF := hF.turn ht lo; clear ht lo)
    try walk_nrm
    (refine Trek.stop fun w₂ h₂ => ?_; replace hF := hF.rely h₂; clear h₂; refine ⟨rfl, _, .tuple #[], stepG_send rfl (by rfl) (by decide) rfl rfl rfl, ?_⟩; exact ⟨⟨_, _, (served_G _ _ _ _ _ _ _ _).trans rfl⟩, hF⟩)
  · (refine Trek.look_k rfl (by rfl) (by decide) ?_; intro w₂ h₂ K hK; replace hF := hF.rely h₂; clear h₂; have h1 := hF.cc; have h2 := hF.cd; have h3 := hF.ck; go_simp; refine hK _ ⟨DH.read fun e he => ?_, ?_⟩; (· (have hm := mem_listed he; simp [go_sem, *] at hm; subst hm; first | exact evL hF.lc.1 hF.lc.2 | exact evL hF.ld.1 hF.ld.2 | exact evL hF.lk.1 hF.lk.2)); clear hK K h1 h2 h3)
    try walk_nrm
    (refine Trek.look_k rfl (by rfl) (by decide) ?_; intro w₂ h₂ K hK; replace hF := hF.rely h₂; clear h₂; have h1 := hF.cc; have h2 := hF.cd; have h3 := hF.ck; go_simp; refine hK _ ⟨DH.read fun e he => ?_, ?_⟩; (· (have hm := mem_listed he; simp [go_sem, *] at hm; subst hm; first | exact evL hF.lc.1 hF.lc.2 | exact evL hF.ld.1 hF.ld.2 | exact evL hF.lk.1 hF.lk.2)); clear hK K h1 h2 h3)
    try walk_nrm
    (refine Trek.look_k rfl (by rfl) (by decide) ?_; intro w₂ h₂ K hK; replace hF := hF.rely h₂; clear h₂; have h1 := hF.cc; have h2 := hF.cd; have h3 := hF.ck; go_simp; refine hK _ ⟨DH.read fun e he => ?_, ?_⟩; (· (have hm := mem_listed he; simp [go_sem, *] at hm; subst hm; first | exact evL hF.lc.1 hF.lc.2 | exact evL hF.ld.1 hF.ld.2 | exact evL hF.lk.1 hF.lk.2)); clear hK K h1 h2 h3)
    try walk_nrm
    (refine Trek.mono (n := 3 + Nc + 3) ?_ (by omega); refine Trek.call fairH rfl (by rfl) (by decide) rfl (CallsT.low ((hct d x hd) _ _ hF.ht) hF.lo) (by simp [go_sem]) ?_; rintro S' v w' ⟨⟨hv, ht⟩, lo⟩; subst hv; replace hF := hF.turn ht lo; clear ht lo)
    try walk_nrm
    (refine Trek.stop fun w₂ h₂ => ?_; replace hF := hF.rely h₂; clear h₂; refine ⟨rfl, _, .tuple #[], stepG_send rfl (by rfl) (by decide) rfl rfl rfl, ?_⟩; exact ⟨⟨_, _, (served_G _ _ _ _ _ _ _ _).trans rfl⟩, hF⟩)
  · (refine Trek.look_k rfl (by rfl) (by decide) ?_; intro w₂ h₂ K hK; replace hF := hF.rely h₂; clear h₂; have h1 := hF.cc; have h2 := hF.cd; have h3 := hF.ck; go_simp; refine hK _ ⟨DH.read fun e he => ?_, ?_⟩; (· (have hm := mem_listed he; simp [go_sem, *] at hm; subst hm; first | exact evL hF.lc.1 hF.lc.2 | exact evL hF.ld.1 hF.ld.2 | exact evL hF.lk.1 hF.lk.2)); clear hK K h1 h2 h3)
    try walk_nrm
    (refine Trek.look_k rfl (by rfl) (by decide) ?_; intro w₂ h₂ K hK; replace hF := hF.rely h₂; clear h₂; have h1 := hF.cc; have h2 := hF.cd; have h3 := hF.ck; go_simp; refine hK _ ⟨DH.read fun e he => ?_, ?_⟩; (· (have hm := mem_listed he; simp [go_sem, *] at hm; subst hm; first | exact evL hF.lc.1 hF.lc.2 | exact evL hF.ld.1 hF.ld.2 | exact evL hF.lk.1 hF.lk.2)); clear hK K h1 h2 h3)
    try walk_nrm
    (refine Trek.look_k rfl (by rfl) (by decide) ?_; intro w₂ h₂ K hK; replace hF := hF.rely h₂; clear h₂; have h1 := hF.cc; have h2 := hF.cd; have h3 := hF.ck; go_simp; refine hK _ ⟨DH.read fun e he => ?_, ?_⟩; (· (have hm := mem_listed he; simp [go_sem, *] at hm; subst hm; first | exact evL hF.lc.1 hF.lc.2 | exact evL hF.ld.1 hF.ld.2 | exact evL hF.lk.1 hF.lk.2)); clear hK K h1 h2 h3)
    try walk_nrm
    (refine Trek.mono (n := 3 + Nc + 3) ?_ (by omega); refine Trek.call fairH rfl (by rfl) (by decide) rfl (CallsT.low ((hct d x hd) _ _ hF.ht) hF.lo) (by simp [go_sem]) ?_; rintro S' v w' ⟨⟨hv, ht⟩, lo⟩; subst hv; replace hF := hF.turn ht lo; clear ht lo)
    try walk_nrm
    (refine Trek.stop fun w₂ h₂ => ?_; replace hF := hF.rely h₂; clear h₂; refine ⟨rfl, _, .tuple #[], stepG_send rfl (by rfl) (by decide) rfl rfl rfl, ?_⟩; exact ⟨⟨_, _, (served_G _ _ _ _ _ _ _ _).trans rfl⟩, hF⟩)
  · (refine Trek.look_k rfl (by rfl) (by decide) ?_; intro w₂ h₂ K hK; replace hF := hF.rely h₂; clear h₂; have h1 := hF.cc; have h2 := hF.cd; have h3 := hF.ck; go_simp; refine hK _ ⟨DH.read fun e he => ?_, ?_⟩; (· (have hm := mem_listed he; simp [go_sem, *] at hm; subst hm; first | exact evL hF.lc.1 hF.lc.2 | exact evL hF.ld.1 hF.ld.2 | exact evL hF.lk.1 hF.lk.2)); clear hK K h1 h2 h3)
    try walk_nrm
    (refine Trek.look_k rfl (by rfl) (by decide) ?_; intro w₂ h₂ K hK; replace hF := hF.rely h₂; clear h₂; have h1 := hF.cc; have h2 := hF.cd; have h3 := hF.ck; go_simp; refine hK _ ⟨DH.read fun e he => ?_, ?_⟩; (· (have hm := mem_listed he; simp [go_sem, *] at hm; subst hm; first | exact evL hF.lc.1 hF.lc.2 | exact evL hF.ld.1 hF.ld.2 | exact evL hF.lk.1 hF.lk.2)); clear hK K h1 h2 h3)
    try walk_nrm
    (refine Trek.mono (n := 3 + Nc + 3) ?_ (by omega); refine Trek.call fairH rfl (by rfl) (by decide) rfl (CallsT.low ((hct d x hd) _ _ hF.ht) hF.lo) (by simp [go_sem]) ?_; rintro S' v w' ⟨⟨hv, ht⟩, lo⟩; subst hv; replace hF := hF.turn ht lo; clear ht lo)
    try walk_nrm
    (refine Trek.look_k rfl (by rfl) (by decide) ?_; intro w₂ h₂ K hK; replace hF := hF.rely h₂; clear h₂; have h1 := hF.cc; have h2 := hF.cd; have h3 := hF.ck; go_simp; refine hK _ ⟨DH.read fun e he => ?_, ?_⟩; (· (have hm := mem_listed he; simp [go_sem, *] at hm; subst hm; first | exact evL hF.lc.1 hF.lc.2 | exact evL hF.ld.1 hF.ld.2 | exact evL hF.lk.1 hF.lk.2)); clear hK K h1 h2 h3)
    try walk_nrm
    (refine Trek.stop fun w₂ h₂ => ?_; replace hF := hF.rely h₂; clear h₂; refine ⟨rfl, _, .tuple #[], stepG_send rfl (by rfl) (by decide) rfl rfl rfl, ?_⟩; exact ⟨⟨_, _, (served_G _ _ _ _ _ _ _ _).trans rfl⟩, hF⟩)
  · (refine Trek.look_k rfl (by rfl) (by decide) ?_; intro w₂ h₂ K hK; replace hF := hF.rely h₂; clear h₂; have h1 := hF.cc; have h2 := hF.cd; have h3 := hF.ck; go_simp; refine hK _ ⟨DH.read fun e he => ?_, ?_⟩; (· (have hm := mem_listed he; simp [go_sem, *] at hm; subst hm; first | exact evL hF.lc.1 hF.lc.2 | exact evL hF.ld.1 hF.ld.2 | exact evL hF.lk.1 hF.lk.2)); clear hK K h1 h2 h3)
    try walk_nrm
    (refine Trek.look_k rfl (by rfl) (by decide) ?_; intro w₂ h₂ K hK; replace hF := hF.rely h₂; clear h₂; have h1 := hF.cc; have h2 := hF.cd; have h3 := hF.ck; go_simp; refine hK _ ⟨DH.read fun e he => ?_, ?_⟩; (· (have hm := mem_listed he; simp [go_sem, *] at hm; subst hm; first | exact evL hF.lc.1 hF.lc.2 | exact evL hF.ld.1 hF.ld.2 | exact evL hF.lk.1 hF.lk.2)); clear hK K h1 h2 h3)
    try walk_nrm
    (refine Trek.mono (n := 3 + Nc + 3) ?_ (by omega); refine Trek.call fairH rfl (by rfl) (by decide) rfl (CallsT.low ((hct d x hd) _ _ hF.ht) hF.lo) (by simp [go_sem]) ?_; rintro S' v w' ⟨⟨hv, ht⟩, lo⟩; subst hv; replace hF := hF.turn ht lo; clear ht lo)
    try walk_nrm
    (refine Trek.look_k rfl (by rfl) (by decide) ?_; intro w₂ h₂ K hK; replace hF := hF.rely h₂; clear h₂; have h1 := hF.cc; have h2 := hF.cd; have h3 := hF.ck; go_simp; refine hK _ ⟨DH.read fun e he => ?_, ?_⟩; (· (have hm := mem_listed he; simp [go_sem, *] at hm; subst hm; first | exact evL hF.lc.1 hF.lc.2 | exact evL hF.ld.1 hF.ld.2 | exact evL hF.lk.1 hF.lk.2)); clear hK K h1 h2 h3)
    try walk_nrm
    (refine Trek.stop fun w₂ h₂ => ?_; replace hF := hF.rely h₂; clear h₂; refine ⟨rfl, _, .tuple #[], stepG_send rfl (by rfl) (by decide) rfl rfl rfl, ?_⟩; exact ⟨⟨_, _, (served_G _ _ _ _ _ _ _ _).trans rfl⟩, hF⟩)
end Go.Proofs.YtmphfdibijbjeaaDoor
