/- The program's chapter 7 in company: stems that a goroutine makes (printed by genhc.py and genh.py). -/
import Derived.Test.YtmphfdibijbjeaaDoorHB
import Derived.Test.YtmphfdibijbjeaaDoorVT
import Derived.Test.YtmphfdibijbjeaaDoorK
import Derived.Conc.AppendWalk
import Derived.Laws.OwnMore
import Derived.Conc.CompanyMem
namespace Go.Proofs.YtmphfdibijbjeaaDoor
open Go.Conc Go.RowKit
set_option linter.unusedSimpArgs false
set_option linter.unusedVariables false
set_option maxRecDepth 100000
variable {main : Bool} {B0 Low : Nat} {Shr : Nat → Prop} {Lv : World → Prop}
/-- the low blocks that nobody turns -/
structure Env (B0 Low : Nat) (Shr : Nat → Prop) : Prop where
  le : B0 ≤ Low
  free : ∀ b, b < B0 → ¬ Shr b
theorem info_stkT : (Tryd.prog.info? 82).map (fun i => (i.zero, i.size, i.bytes)) = some (some (.agg #[.int .i64 0, .int .i64 0]), 2, 16) := by kernel_rfl
abbrev stmV (g n : Nat) : Value := .slice (some ⟨g, 0, none⟩) n 12
/-- what a goroutine knows of the world while it makes a stem of n strokes in its block g -/
structure HW (B0 Low : Nat) (Shr : Nat → Prop) (g n : Nat) (S : Bag) (w : World) : Prop where
  env : Env B0 Low Shr
  tab : DKB B0 w
  mine : S g
  sz : B0 ≤ w.heap.size
  ge : B0 ≤ g
  row : ∃ xs, w.ownsRow g 82 2 (stmV g n) n xs
theorem DKB.relyT {S : Bag} {w w₁ : World} (E : Env B0 Low Shr) (h : DKB B0 w) (r : RH Low Shr Lv S w w₁) : DKB B0 w₁ := by
  refine ⟨h.1, fun d hd => ?_⟩
  obtain ⟨c, hc, a, cap, rfl, hr⟩ := h.2 d hd
  refine ⟨_, (r.cellLow (a := ⟨0, d, none⟩) (Nat.lt_of_lt_of_le h.1 E.le) (E.free _ h.1)).trans hc, a, cap, rfl, fun k hk => ?_⟩
  obtain ⟨b, off, e, hb, hcell⟩ := hr k hk
  exact ⟨b, off, e, hb, (r.cellLow (a := ⟨b, off + k, none⟩) (Nat.lt_of_lt_of_le hb E.le) (E.free _ hb)).trans hcell⟩
theorem ownsRow_block {w w₁ : World} {g : Nat} {T : TypeId} {n : Nat} {v : Value} {xs : List Value} (hv : ∀ a l c, v = .slice (some a) l c → a.block = g) (h : w.ownsRow g T 2 v n xs) (e : w₁.heap[g]? = w.heap[g]?) : w₁.ownsRow g T 2 v n xs := by
  refine ⟨h.1, h.2.imp id ?_⟩
  rintro ⟨g', cap, cur, hv', hb, hg, h1, h2, h3, h4⟩
  have hgg : g' = g := hv _ _ _ hv'
  subst hgg
  exact ⟨g', cap, cur, hv', hb, e.trans hg, h1, h2, h3, h4⟩
theorem HW.rely {g n : Nat} {S : Bag} {w w₁ : World} (h : HW B0 Low Shr g n S w) (r : RH Low Shr Lv S w w₁) : HW B0 Low Shr g n S w₁ := by
  obtain ⟨xs, hx⟩ := h.row
  exact ⟨h.env, h.tab.relyT h.env r, h.mine, Nat.le_trans h.sz r.size, h.ge, xs, ownsRow_block (fun a l c e => by cases e; rfl) hx (r.own g h.mine)⟩
/-- .. and of a digit's row -/
structure HK (B0 Low : Nat) (Shr : Nat → Prop) (d : Nat) (ks : List Nat) (ad : Option Addr) (b0 o0 : Nat) (cp g n : Nat) (S : Bag) (w : World) : Prop where
  hw : HW B0 Low Shr g n S w
  cell : w.cell? ⟨0, d, none⟩ = some (.slice ad ks.length cp)
  els : ∀ k (hk : k < ks.length), ad = some ⟨b0, o0, none⟩ ∧ b0 < B0 ∧ w.cell? ⟨b0, o0 + k, none⟩ = some (.int .i64 (ks[k] : Nat))
theorem HK.rely {d : Nat} {ks : List Nat} {ad : Option Addr} {b0 o0 : Nat} {cp g n : Nat} {S : Bag} {w w₁ : World} (h : HK B0 Low Shr d ks ad b0 o0 cp g n S w) (r : RH Low Shr Lv S w w₁) : HK B0 Low Shr d ks ad b0 o0 cp g n S w₁ := by
  have E := h.hw.env
  refine ⟨h.hw.rely r, (r.cellLow (a := ⟨0, d, none⟩) (Nat.lt_of_lt_of_le h.hw.tab.1 E.le) (E.free _ h.hw.tab.1)).trans h.cell, fun k hk => ?_⟩
  obtain ⟨e, hb, hcell⟩ := h.els k hk
  exact ⟨e, hb, (r.cellLow (a := ⟨b0, o0 + k, none⟩) (Nat.lt_of_lt_of_le hb E.le) (E.free _ hb)).trans hcell⟩
/-- a world in which only my blocks and new ones have turned -/
theorem HK.turn {d : Nat} {ks : List Nat} {ad : Option Addr} {b0 o0 : Nat} {cp g n m : Nat} {S S' : Bag} {w w' : World} (h : HK B0 Low Shr d ks ad b0 o0 cp g n S w) (hlow : ∀ b, b < B0 → w'.heap[b]? = w.heap[b]?) (hz : w.heap.size ≤ w'.heap.size) (hS : S' g)
    (hrow : ∃ xs, w'.ownsRow g 82 2 (stmV g m) m xs) : HK B0 Low Shr d ks ad b0 o0 cp g m S' w' := by
  have ce : ∀ a : Addr, a.block < B0 → w'.cell? a = w.cell? a := fun a ha => by simp [World.cell?, hlow _ ha]
  refine ⟨⟨h.hw.env, ⟨h.hw.tab.1, fun d hd => ?_⟩, hS, Nat.le_trans h.hw.sz hz, h.hw.ge, hrow⟩, (ce _ h.hw.tab.1).trans h.cell, fun k hk => ?_⟩
  · obtain ⟨c, hc, a, cap, rfl, hr⟩ := h.hw.tab.2 d hd
    refine ⟨_, (ce ⟨0, d, none⟩ h.hw.tab.1).trans hc, a, cap, rfl, fun k hk => ?_⟩
    obtain ⟨b, off, e, hb, hcell⟩ := hr k hk
    exact ⟨b, off, e, hb, (ce ⟨b, off + k, none⟩ hb).trans hcell⟩
  · obtain ⟨e, hb, hcell⟩ := h.els k hk
    exact ⟨e, hb, (ce ⟨b0, o0 + k, none⟩ hb).trans hcell⟩
/-- a read of the tables -/
theorem evH_low {S : Bag} {w : World} {e : Event} {a : Addr} (E : Env B0 Low Shr) (h1 : e.loc = .cell a) (h2 : e.write = false) (hb : a.block < B0) : EvH Low Shr S w e :=
  .inl ⟨a, h1, .inr ⟨Nat.lt_of_lt_of_le hb E.le, E.free _ hb, h2⟩⟩
set_option maxHeartbeats 4000000 in
theorem withDigitT : ∃ N, ∀ (p d n : Nat), p < 4 → d < 10 → n + (kds d).length ≤ 12 → ∀ (g : Nat) (S : Bag) (w : World), HW B0 Low Shr g n S w →
    CallsT Tryd.prog main (RH Low Shr Lv) (DH Low Shr) 43 #[stmV g n, .int .i64 (p : Nat), .int .i64 (d : Nat)] N S w fun S' v w' => v = stmV g (n + (kds d).length) ∧ HW B0 Low Shr g (n + (kds d).length) S' w' := by
  obtain ⟨i0, hi, hz0, hz1, hz2⟩ := info_parts info_stkT
  co_apply Exists.intro
  intro p d n hp hd hn
  have hl3 := kds_le d hd
  have hds : ∀ w, DKB B0 w → ∃ ad cp b0 o0, w.cell? ⟨0, d, none⟩ = some (.slice ad (kds d).length cp) ∧ ∀ k (hk : k < (kds d).length), ad = some ⟨b0, o0, none⟩ ∧ b0 < B0 ∧ w.cell? ⟨b0, o0 + k, none⟩ = some (.int .i64 ((kds d)[k] : Nat)) := fun w h => by
    obtain ⟨c, hc, ad, cp, rfl, hr⟩ := h.2 d hd
    by_cases h0 : 0 < (kds d).length
    · obtain ⟨b0, o0, e0, hb0, _⟩ := hr 0 h0
      refine ⟨ad, cp, b0, o0, hc, fun k hk => ?_⟩
      obtain ⟨b, o, e, hb, hcell⟩ := hr k hk
      rw [e0] at e
      cases e
      exact ⟨e0, hb, hcell⟩
    · exact ⟨ad, cp, 0, 0, hc, fun k hk => by omega⟩
  generalize kds d = ks at *
  have hlen : ks.length ≤ 12 := by omega
  have hdI : (d : Int) < 10 := by omega
  have heA := fun w es => events_indexAt_array (P := Tryd.prog) (w := w) (es := es) 79 _ _ ⟨0, 0, none⟩ .i64 (d : Int) Tryd.underlying79 ⟨by omega, by omega⟩
  have hrely : ∀ {ad : Option Addr} {b0 o0 cp g m : Nat} {S : Bag} {w w₁ : World}, HK B0 Low Shr d ks ad b0 o0 cp g m S w → RH Low Shr Lv S w w₁ → HK B0 Low Shr d ks ad b0 o0 cp g m S w₁ := fun h r => h.rely r
  intro g S w hF0
  obtain ⟨ad, cp, b0, o0, hc0, hr0⟩ := hds w hF0.tab
  have hF : HK B0 Low Shr d ks ad b0 o0 cp g n S w := ⟨hF0, hc0, hr0⟩
  clear hF0 hc0 hr0
  refine ⟨_, _, Tryd.func43, rfl, rfl, ?_⟩
  simp only [Tryd.ntmps43, List.size_toArray, List.length_cons, List.length_nil, Nat.reduceAdd, Nat.reduceSub, Array.replicate_succ, Array.replicate_zero, List.push_toArray, List.append_toArray, List.nil_append, List.cons_append]
  first | co_apply codeT_seq fairH | co_apply codeT_block fairH | co_apply codeT_skip fairH | co_apply codeT_label fairH | co_apply codeT_ret fairH | co_apply codeT_exit fairH | co_apply opsT_nil fairH
  co_apply codeT_region fairH
  simp only [List.size_toArray, List.length_cons, List.length_nil, Nat.reduceAdd, Nat.zero_add, List.range, List.range.loop]
  co_apply opsT_look rfl (by rfl)
  intro _ hR K hK
  replace hF := hrely hF hR
  clear hR
  go_simp
  refine hK _ ⟨?_, ?_⟩
  · rw [listed_nil (by simp [go_sem])]; exact DH.read evs_none
  clear hK K
  try walk_nrm
  co_apply opsT_nil fairH
  simp only [Exit.then, Exit.inBlock, if_true, if_false, reduceIte, Nat.reduceEqDiff]
  first | co_apply codeT_seq fairH | co_apply codeT_block fairH | co_apply codeT_skip fairH | co_apply codeT_label fairH | co_apply codeT_ret fairH | co_apply codeT_exit fairH | co_apply opsT_nil fairH
  first | co_apply codeT_seq fairH | co_apply codeT_block fairH | co_apply codeT_skip fairH | co_apply codeT_label fairH | co_apply codeT_ret fairH | co_apply codeT_exit fairH | co_apply opsT_nil fairH
  co_apply codeT_region fairH
  simp only [List.size_toArray, List.length_cons, List.length_nil, Nat.reduceAdd, Nat.zero_add, List.range, List.range.loop]
  co_apply opsT_look rfl (by rfl)
  intro _ hR K hK
  replace hF := hrely hF hR
  clear hR
  go_simp
  refine hK _ ⟨?_, ?_⟩
  · rw [listed_nil (by simp [go_sem])]; exact DH.read evs_none
  clear hK K
  try walk_nrm
  co_apply opsT_look rfl (by rfl)
  intro _ hR K hK
  replace hF := hrely hF hR
  clear hR
  go_simp
  refine hK _ ⟨?_, ?_⟩
  · rw [listed_nil (by simp [go_sem, *])]; exact DH.read evs_none
  clear hK K
  try walk_nrm
  co_apply opsT_look rfl (by rfl)
  intro _ hR K hK
  replace hF := hrely hF hR
  clear hR
  have hc := hF.cell; have hb0 := hF.hw.tab.1
  go_simp
  refine hK _ ⟨?_, ?_⟩
  · exact DH.read fun e he => by have hm := mem_listed he; simp [go_sem, *] at hm; subst hm; exact evH_low hF.hw.env rfl rfl hb0
  clear hK K
  try walk_nrm
  clear hc hb0
  co_apply opsT_look rfl (by rfl)
  intro _ hR K hK
  replace hF := hrely hF hR
  clear hR
  go_simp
  refine hK _ ⟨?_, ?_⟩
  · rw [listed_nil (by simp [go_sem])]; exact DH.read evs_none
  clear hK K
  try walk_nrm
  co_apply opsT_look rfl (by rfl)
  intro _ hR K hK
  replace hF := hrely hF hR
  clear hR
  go_simp
  refine hK _ ⟨?_, ?_⟩
  · rw [listed_nil (by simp [go_sem])]; exact DH.read evs_none
  clear hK K
  try walk_nrm
  co_apply opsT_nil fairH
  simp only [Exit.then, Exit.inBlock, if_true, if_false, reduceIte, Nat.reduceEqDiff]
  first | co_apply codeT_seq fairH | co_apply codeT_block fairH | co_apply codeT_skip fairH | co_apply codeT_label fairH | co_apply codeT_ret fairH | co_apply codeT_exit fairH | co_apply opsT_nil fairH
  co_apply codeT_loop fairH (fun S a w => ∃ (k : Nat) (x3 x4 x5 x7 x8 x9 x10 x14 x15 x16 x17 x18 x19 x20 x21 x22 x23 x24 : Value), a = ⟨#[stmV g (n + k), .int .i64 (p : Nat), .int .i64 (d : Nat), x3, x4, x5, .slice none 0 0, x7, x8, x9, x10, .slice ad ks.length cp, .int .i64 (ks.length : Nat), .int .i64 (k : Nat), x14, x15, x16, x17, x18, x19, x20, x21, x22, x23, x24], []⟩ ∧ k ≤ ks.length ∧ HK B0 Low Shr d ks ad b0 o0 cp g (n + k) S w) (fun a => ks.length - (intOf (a.tmps.getD 13 undef)).toNat) (N := 3)
  case h₀ => exact ⟨0, _, _, _, _, _, _, _, _, _, _, _, _, _, _, _, _, _, _, rfl, Nat.zero_le _, hF⟩
  case hN => exact Nat.le_trans (Nat.sub_le _ _) hl3
  clear hF
  rintro S a w ⟨k, x3, x4, x5, x7, x8, x9, x10, x14, x15, x16, x17, x18, x19, x20, x21, x22, x23, x24, rfl, hk, hF⟩
  by_cases hlt : k < ks.length
  · have hltI : (k : Int) < (ks.length : Int) := by omega
    have hwr : IntKind.i64.wrap ((k : Int) + 1) = (k : Int) + 1 := by rw [IntKind.wrap_i64]; omega
    first | co_apply codeT_seq fairH | co_apply codeT_block fairH | co_apply codeT_skip fairH | co_apply codeT_label fairH | co_apply codeT_ret fairH | co_apply codeT_exit fairH | co_apply opsT_nil fairH
    co_apply codeT_region fairH
    simp only [List.size_toArray, List.length_cons, List.length_nil, Nat.reduceAdd, Nat.zero_add, List.range, List.range.loop]
    co_apply opsT_look rfl (by rfl)
    intro _ hR K hK
    replace hF := hrely hF hR
    clear hR
    go_simp
    refine hK _ ⟨?_, ?_⟩
    · rw [listed_nil (by simp [go_sem])]; exact DH.read evs_none
    clear hK K
    try walk_nrm
    co_apply opsT_nil fairH
    simp only [Exit.then, Exit.inBlock, if_true, if_false, reduceIte, Nat.reduceEqDiff]
    first | co_apply codeT_seq fairH | co_apply codeT_block fairH | co_apply codeT_skip fairH | co_apply codeT_label fairH | co_apply codeT_ret fairH | co_apply codeT_exit fairH | co_apply opsT_nil fairH
    co_apply codeT_cond fairH
    focus exact rfl
    simp only [if_true, if_false, reduceIte, Bool.false_eq_true]
    first | co_apply codeT_seq fairH | co_apply codeT_block fairH | co_apply codeT_skip fairH | co_apply codeT_label fairH | co_apply codeT_ret fairH | co_apply codeT_exit fairH | co_apply opsT_nil fairH
    simp only [Exit.then, Exit.inBlock, if_true, if_false, reduceIte, Nat.reduceEqDiff]
    first | co_apply codeT_seq fairH | co_apply codeT_block fairH | co_apply codeT_skip fairH | co_apply codeT_label fairH | co_apply codeT_ret fairH | co_apply codeT_exit fairH | co_apply opsT_nil fairH
    first | co_apply codeT_seq fairH | co_apply codeT_block fairH | co_apply codeT_skip fairH | co_apply codeT_label fairH | co_apply codeT_ret fairH | co_apply codeT_exit fairH | co_apply opsT_nil fairH
    first | co_apply codeT_seq fairH | co_apply codeT_block fairH | co_apply codeT_skip fairH | co_apply codeT_label fairH | co_apply codeT_ret fairH | co_apply codeT_exit fairH | co_apply opsT_nil fairH
    co_apply codeT_region fairH
    simp only [List.size_toArray, List.length_cons, List.length_nil, Nat.reduceAdd, Nat.zero_add, List.range, List.range.loop]
    have had := (hF.els k hlt).1
    rw [had]
    co_apply opsT_look rfl (by rfl)
    intro _ hR K hK
    replace hF := hrely hF hR
    clear hR
    go_simp
    refine hK _ ⟨?_, ?_⟩
    · rw [listed_nil (by simp [go_sem, *])]; exact DH.read evs_none
    clear hK K
    try walk_nrm
    co_apply opsT_look rfl (by rfl)
    intro _ hR K hK
    replace hF := hrely hF hR
    clear hR
    have hc := (hF.els k hlt).2.2; have hb0 := (hF.els k hlt).2.1
    go_simp
    refine hK _ ⟨?_, ?_⟩
    · exact DH.read fun e he => by have hm := mem_listed he; simp [go_sem, *] at hm; subst hm; exact evH_low hF.hw.env rfl rfl hb0
    clear hK K
    try walk_nrm
    clear hc hb0
    co_apply opsT_look rfl (by rfl)
    intro _ hR K hK
    replace hF := hrely hF hR
    clear hR
    go_simp
    refine hK _ ⟨?_, ?_⟩
    · rw [listed_nil (by simp [go_sem])]; exact DH.read evs_none
    clear hK K
    try walk_nrm
    co_apply opsT_nil fairH
    simp only [Exit.then, Exit.inBlock, if_true, if_false, reduceIte, Nat.reduceEqDiff]
    co_apply codeT_region fairH
    simp only [List.size_toArray, List.length_cons, List.length_nil, Nat.reduceAdd, Nat.zero_add, List.range, List.range.loop]
    co_apply opsT_look rfl (by rfl)
    intro _ hR K hK
    replace hF := hrely hF hR
    clear hR
    go_simp
    refine hK _ ⟨?_, ?_⟩
    · rw [listed_nil (by simp [go_sem])]; exact DH.read evs_none
    clear hK K
    try walk_nrm
    co_apply opsT_look rfl (by rfl)
    intro _ hR K hK
    replace hF := hrely hF hR
    clear hR
    go_simp
    refine hK _ ⟨?_, ?_⟩
    · rw [listed_nil (by simp [go_sem])]; exact DH.read evs_none
    clear hK K
    try walk_nrm
    co_apply opsT_look rfl (by rfl)
    intro _ hR K hK
    replace hF := hrely hF hR
    clear hR
    go_simp
    refine hK _ ⟨?_, ?_⟩
    · rw [listed_nil (by simp [go_sem])]; exact DH.read evs_none
    clear hK K
    try walk_nrm
    co_apply opsT_look rfl (by rfl)
    intro _ hR K hK
    replace hF := hrely hF hR
    clear hR
    go_simp
    refine hK _ ⟨?_, ?_⟩
    · rw [listed_nil (by simp [go_sem])]; exact DH.read evs_none
    clear hK K
    try walk_nrm
    generalize ks[k] = q
    co_apply opsT_cons_k rfl (by rfl)
    intro w1 hR K hK
    replace hF := hrely hF hR
    clear hR
    go_simp
    refine hK _ _ ⟨?_, ?_⟩
    · rw [listed_nil (by simp [go_sem])]; exact DH.alloc _ evs_none
    clear hK K
    try walk_nrm
    have hnew := heap_alloc_new w1 (.cells #[.int .i64 (p : Nat), .int .i64 (q : Nat)] 82)
    have hsz1 := hF.hw.sz
    have hF2 := hF.turn (m := n + k) (S' := more S w1 (w1.alloc (.cells #[.int .i64 (p : Nat), .int .i64 (q : Nat)] 82))) (w' := w1.alloc (.cells #[.int .i64 (p : Nat), .int .i64 (q : Nat)] 82)) (fun b hb => Below.heap_alloc _ _ _ (by omega)) (by simp) (more_old hF.hw.mine) (let ⟨xs, hx⟩ := hF.hw.row; ⟨xs, hx.alloc _⟩)
    have hmine := more_alloc S w1 (.cells #[.int .i64 (p : Nat), .int .i64 (q : Nat)] 82)
    clear hF
    generalize (more S w1 (w1.alloc (.cells #[.int .i64 (p : Nat), .int .i64 (q : Nat)] 82))) = S2 at *
    generalize (w1.alloc (.cells #[.int .i64 (p : Nat), .int .i64 (q : Nat)] 82)) = w1' at *
    generalize w1.heap.size = nb at *
    co_apply opsT_cons_k rfl (by rfl)
    intro w2 hR K hK
    have hnew2 := (hR.own _ hmine).trans hnew
    replace hF2 := hrely hF2 hR
    clear hR hnew
    obtain ⟨xs, hx⟩ := hF2.hw.row
    have hnews : ∀ (j : Nat) u, ([.int .i64 (p : Nat), .int .i64 (q : Nat)] : List Value)[j]? = some u → w2.cell? ((⟨nb, 0, none⟩ : Addr).add j) = some u := by
      intro j u h
      match j, h with
      | 0, h => simp at h; subst h; exact cell_at hnew2 (by rfl)
      | 1, h => simp at h; subst h; exact cell_at hnew2 (by rfl)
      | j + 2, h => simp at h
    have hone : ∀ u ∈ ([.int .i64 (p : Nat), .int .i64 (q : Nat)] : List Value), u.oneCell' = true := by intro u hu; simp at hu; rcases hu with rfl | rfl <;> rfl
    obtain ⟨w3, hrun, hown, hg⟩ := run_append_fits w2 g 64 64 82 i0 2 Tryd.underlying64 hi hz1 g (n + k) 12 xs hx ⟨nb, 0, none⟩ 1 1 _ rfl hnews hone (by omega)
    have hwhere := events_append_where w2 g 64 64 82 i0 _ 2 16 Tryd.underlying64 hi hz0 hz1 hz2 (stmV g (n + k)) (n + k) xs hx ⟨nb, 0, none⟩ 1 1 _ rfl hnews hone (by unfold maxLen; omega) (by omega)
    refine uponK_append _ _ 64 rfl rfl rfl hrun (hK _ _ ⟨?_, ?_⟩)
    · refine ⟨hg.size, hg.os, hg.tape, hg.output, fun b hb hn => hg.block b hb (fun e => hn (by cases e; exact hF2.hw.mine)), fun e he => ?_⟩
      have hm := mem_listed he
      rw [events_append_op _ _ 64 rfl rfl rfl] at hm
      rcases hwhere e hm with ⟨a, h1, h2⟩ | h
      · refine .inl ⟨a, h1, .inl ?_⟩
        rcases h2 with ⟨_, h2⟩ | h2
        · rw [h2]; exact hmine
        · cases h2; exact hF2.hw.mine
      · exact .inr h
    clear hK K
    try walk_nrm
    have hge := hF2.hw.ge
    have hsz2 := hF2.hw.sz
    have hF := hF2.turn (m := n + k + 1) (S' := more S2 w2 w3) (w' := w3) (fun b hb => hg.block b (by omega) (fun e => by cases e; omega)) hg.size (more_old hF2.hw.mine) ⟨_, hown⟩
    clear hF2 hnew2 hx hnews hone hrun hown hg hwhere hmine hge hsz2
    generalize more S2 w2 w3 = S3 at *
    co_apply opsT_look rfl (by rfl)
    intro _ hR K hK
    replace hF := hrely hF hR
    clear hR
    go_simp
    refine hK _ ⟨?_, ?_⟩
    · rw [listed_nil (by simp [go_sem])]; exact DH.read evs_none
    clear hK K
    try walk_nrm
    co_apply opsT_nil fairH
    simp only [Exit.then, Exit.inBlock, if_true, if_false, reduceIte, Nat.reduceEqDiff]
    co_apply codeT_region fairH
    simp only [List.size_toArray, List.length_cons, List.length_nil, Nat.reduceAdd, Nat.zero_add, List.range, List.range.loop]
    co_apply opsT_look rfl (by rfl)
    intro _ hR K hK
    replace hF := hrely hF hR
    clear hR
    go_simp
    refine hK _ ⟨?_, ?_⟩
    · rw [listed_nil (by simp [go_sem])]; exact DH.read evs_none
    clear hK K
    try walk_nrm
    co_apply opsT_look rfl (by rfl)
    intro _ hR K hK
    replace hF := hrely hF hR
    clear hR
    go_simp
    refine hK _ ⟨?_, ?_⟩
    · rw [listed_nil (by simp [go_sem])]; exact DH.read evs_none
    clear hK K
    try walk_nrm
    co_apply opsT_nil fairH
    simp only [Exit.then, Exit.inBlock, if_true, if_false, reduceIte, Nat.reduceEqDiff]
    exact ⟨⟨k + 1, _, _, _, _, _, _, _, _, _, _, _, _, _, _, _, _, _, _, by first | rfl | (rw [hwr]; rfl), by omega, had ▸ hF⟩, by simp [intOf, hwr]; omega⟩
  · obtain rfl : k = ks.length := by omega
    co_apply codeT_more
    first | co_apply codeT_seq fairH | co_apply codeT_block fairH | co_apply codeT_skip fairH | co_apply codeT_label fairH | co_apply codeT_ret fairH | co_apply codeT_exit fairH | co_apply opsT_nil fairH
    co_apply codeT_region fairH
    simp only [List.size_toArray, List.length_cons, List.length_nil, Nat.reduceAdd, Nat.zero_add, List.range, List.range.loop]
    co_apply opsT_look rfl (by rfl)
    intro _ hR K hK
    replace hF := hrely hF hR
    clear hR
    go_simp
    refine hK _ ⟨?_, ?_⟩
    · rw [listed_nil (by simp [go_sem])]; exact DH.read evs_none
    clear hK K
    try walk_nrm
    co_apply opsT_nil fairH
    simp only [Exit.then, Exit.inBlock, if_true, if_false, reduceIte, Nat.reduceEqDiff]
    first | co_apply codeT_seq fairH | co_apply codeT_block fairH | co_apply codeT_skip fairH | co_apply codeT_label fairH | co_apply codeT_ret fairH | co_apply codeT_exit fairH | co_apply opsT_nil fairH
    co_apply codeT_cond fairH
    focus exact rfl
    simp only [if_true, if_false, reduceIte, Bool.false_eq_true]
    first | co_apply codeT_seq fairH | co_apply codeT_block fairH | co_apply codeT_skip fairH | co_apply codeT_label fairH | co_apply codeT_ret fairH | co_apply codeT_exit fairH | co_apply opsT_nil fairH
    simp only [Exit.then, Exit.inBlock, if_true, if_false, reduceIte, Nat.reduceEqDiff]
    first | co_apply codeT_seq fairH | co_apply codeT_block fairH | co_apply codeT_skip fairH | co_apply codeT_label fairH | co_apply codeT_ret fairH | co_apply codeT_exit fairH | co_apply opsT_nil fairH
    co_apply codeT_region fairH
    simp only [List.size_toArray, List.length_cons, List.length_nil, Nat.reduceAdd, Nat.zero_add, List.range, List.range.loop]
    co_apply opsT_look rfl (by rfl)
    intro _ hR K hK
    replace hF := hrely hF hR
    clear hR
    go_simp
    refine hK _ ⟨?_, ?_⟩
    · rw [listed_nil (by simp [go_sem])]; exact DH.read evs_none
    clear hK K
    try walk_nrm
    co_apply opsT_look rfl (by rfl)
    intro _ hR K hK
    replace hF := hrely hF hR
    clear hR
    go_simp
    refine hK _ ⟨?_, ?_⟩
    · rw [listed_nil (by simp [go_sem])]; exact DH.read evs_none
    clear hK K
    try walk_nrm
    co_apply opsT_nil fairH
    simp only [Exit.then, Exit.inBlock, if_true, if_false, reduceIte, Nat.reduceEqDiff]
    first | co_apply codeT_seq fairH | co_apply codeT_block fairH | co_apply codeT_skip fairH | co_apply codeT_label fairH | co_apply codeT_ret fairH | co_apply codeT_exit fairH | co_apply opsT_nil fairH
    exact ⟨rfl, _, resultsC_tmp (by rfl) _, by first | rfl | simp, hF.hw⟩
    exact Nat.le_trans (Nat.le_refl (1 + 1 + 1 + (1 + 1 + 0 + 1) + 1)) (by decide)
end Go.Proofs.YtmphfdibijbjeaaDoor

