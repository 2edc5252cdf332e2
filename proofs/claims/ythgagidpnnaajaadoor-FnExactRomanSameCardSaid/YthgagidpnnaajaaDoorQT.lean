/- The model's l1Table: rows of bools. -/
import Derived.Test.YthgagidpnnaajaaDoorQ
import Derived.Test.YthgagidpnnaajaaDoorSL
import Derived.Deep.OwnRows
namespace Go.Proofs.YthgagidpnnaajaaDoor
open Go.RowKit
set_option linter.unusedVariables false
set_option maxRecDepth 100000
theorem l1Letters_any (w : World) : Calls Tryd.prog 60 #[] w fun e w' => e = .returned (.string ⟨#[67, 68, 73, 76, 77, 86, 88]⟩) ∧ w = w' := by
  go_enter Tryd.func60, Tryd.ntmps60
  go_wp2
  go_ret
  exact ⟨rfl, rfl⟩
/-- the cells of a row of n bools -/
def boolArr (n : Nat) (P : Nat → Bool) : Array Value := ((List.range n).map fun x => Value.bool (P x)).toArray
theorem boolArr_at (n : Nat) (P : Nat → Bool) (x : Nat) (h : x < n) : (boolArr n P)[x]? = some (.bool (P x)) := by
  simp [boolArr, h]
theorem boolArr_size (n : Nat) (P : Nat → Bool) : (boolArr n P).size = n := by simp [boolArr]
theorem boolArr_set (n : Nat) (P : Nat → Bool) (y : Nat) (b : Bool) : (boolArr n P).setIfInBounds y (.bool b) = boolArr n (fun x => if x = y then b else P x) := by
  apply Array.ext
  · simp [boolArr]
  · intro i h1 h2
    have h2' : i < n := by simpa [boolArr] using h2
    simp only [boolArr]
    rw [Array.getElem_setIfInBounds (by simpa using h2')]
    by_cases e : y = i
    · subst e; simp
    · simp [e, Ne.symm e]
theorem boolArr_congr (n : Nat) (P Q : Nat → Bool) (h : ∀ x, x < n → P x = Q x) : boolArr n P = boolArr n Q := by
  unfold boolArr
  congr 1
  exact List.map_congr_left fun x hx => by rw [h x (List.mem_range.1 hx)]
theorem made_bool (n : Nat) : madeCells #[.bool false] n = boolArr n (fun _ => false) := by
  unfold madeCells boolArr
  apply Array.ext
  · simp
  · intro i h1 h2
    simp [Nat.mod_one]
theorem info_bool : (Tryd.prog.info? 4).map (fun i => (i.zero, i.size, i.bytes)) = some (some (.bool false), 1, 1) := by kernel_rfl
theorem info_row : (Tryd.prog.info? 66).map (fun i => (i.zero, i.size, i.bytes)) = some (some (.slice none 0 0), 1, 24) := by kernel_rfl
/-- make([]bool, n): the new row's block, in a world of which nothing else is told -/
theorem wpList_make_bools {P : Program} (w : World) {ops : Array Oper} {rest : List Oper} {o : Oper} {a : Act} {Q : Exit → Act → World → Prop}
    (hg : o.guard = none) (l c : Operand) (t : TypeId) (hop : o.op = Op.makeSlice t l c)
    (e : TypeId) (i : TypeInfo) (ht : P.underlying t = some (.slice e)) (hi : P.info? e = some i) (hz : i.zero = some (.bool false)) (hsize : i.size = 1) (hby : i.bytes = 1)
    (n : Nat) (hn : n ≤ 100000) (hl : a.eval l = .int .i64 (n : Int)) (hc : a.eval c = .int .i64 (n : Int))
    (hK : ∀ w', w'.heap[w.heap.size]? = some (.cells (boolArr n fun _ => false) e (0, 0)) → Below w.heap.size w w' → wpList P ops Q rest (a.put o.dst (.slice (some ⟨w.heap.size, 0, none⟩) n n)) w') :
    wpList P ops Q (o :: rest) a w := by
  refine wpList_make_row w hg l c t hop e i (.bool false) ht hi hz hsize rfl .i64 .i64 n hl hc (by rw [hby]; omega) (by omega) ?_
  rw [made_bool]
  exact hK _ (heap_alloc_new _ _) ((Below.refl _ _).alloc (Nat.le_refl _) _)
def rowVal (g : Nat) : Value := .slice (some ⟨g, 0, none⟩) 5001 5001
/-- the rows of a table in their blocks -/
def RowsOk (w : World) (B : Nat) (gs : List Nat) (T : Nat → Nat → Bool) : Prop := ∀ j (h : j < gs.length), B ≤ gs[j] ∧ w.heap[gs[j]]? = some (.cells (boolArr 5001 (T j)) 4 (0, 0))
theorem RowsOk.snoc {w : World} {B : Nat} {gs : List Nat} {T : Nat → Nat → Bool} {g : Nat} (h : RowsOk w B gs T) (hB : B ≤ g) (hg : w.heap[g]? = some (.cells (boolArr 5001 (T gs.length)) 4 (0, 0))) : RowsOk w B (gs ++ [g]) T := fun j hj => by
  by_cases e : j < gs.length
  · rw [List.getElem_append_left e]; exact h j e
  · have e2 : j = gs.length := by simp at hj; omega
    subst e2
    simp only [List.getElem_append_right (Nat.le_refl _), Nat.sub_self, List.getElem_cons_zero]
    exact ⟨hB, hg⟩
theorem RowsOk.kept {w w' : World} {B : Nat} {gs : List Nat} {T : Nat → Nat → Bool} (h : RowsOk w B gs T) (hk : ∀ j (hj : j < gs.length), w'.heap[gs[j]]? = w.heap[gs[j]]?) : RowsOk w' B gs T := fun j hj => ⟨(h j hj).1, (hk j hj).trans (h j hj).2⟩
theorem RowsOk.lt {w : World} {B : Nat} {gs : List Nat} {T : Nat → Nat → Bool} (h : RowsOk w B gs T) (j : Nat) (hj : j < gs.length) : gs[j] < w.heap.size := lt_of_block' (h j hj).2
theorem RowsOk.below {w w' : World} {B : Nat} {gs : List Nat} {T : Nat → Nat → Bool} (h : RowsOk w B gs T) (hb : Below w.heap.size w w') : RowsOk w' B gs T := h.kept fun j hj => hb.block _ (h.lt j hj)
theorem RowsOk.grown {w w' : World} {B base n : Nat} {gs : List Nat} {T : Nat → Nat → Bool} {v : Value} {xs : List Value} (h : RowsOk w B gs T) (hg : w.grownBy w' v.ownBlock) (ho : w.ownsRow base 66 1 v n xs) : RowsOk w' B gs T := fun j hj => ⟨(h j hj).1, grown_block hg ho (h j hj).2 (by decide)⟩
theorem letters_at (k : Nat) (h : k < 7) : ∀ hix, rv (((⟨#[67, 68, 73, 76, 77, 86, 88]⟩ : ByteArray)[k]'hix).toNat : Int) = lv k := by
  rcases (show k = 0 ∨ k = 1 ∨ k = 2 ∨ k = 3 ∨ k = 4 ∨ k = 5 ∨ k = 6 by omega) with rfl | rfl | rfl | rfl | rfl | rfl | rfl <;> (intro _; rfl)
theorem exT_one (i : Nat) (hi : i < 7) (y : Nat) (hy : y < 5001) : (if y = (lv i).toNat then true else false) = exT 5000 1 i (y : Int) := by
  have hv := lv_bd i
  have hp := lv_pos i hi
  have e2 : lv 2 = 1 := rfl
  rw [Bool.eq_iff_iff, exT_succ]
  constructor
  · intro h
    have hix : y = (lv i).toNat := by
      by_cases e : y = (lv i).toNat
      · exact e
      · rw [if_neg e] at h; cases h
    refine ⟨by omega, 2, by omega, ?_⟩
    show decide (2 = 2 ∧ wo i 2 (y : Int) = 0) = true
    rw [decide_eq_true_eq]
    refine ⟨rfl, ?_⟩
    unfold wo
    rw [e2, if_neg (by omega)]
    omega
  · rintro ⟨_, f, hf, h⟩
    have hix : f = 2 ∧ wo i f (y : Int) = 0 := of_decide_eq_true h
    obtain ⟨rfl, h0⟩ := hix
    unfold wo at h0
    rw [e2, if_neg (by omega)] at h0
    rw [if_pos (by omega)]
/-- the result: a table whose rows tell of texts of t letters -/
def IsTable (w : World) (v : Value) (t : Nat) : Prop := ∃ b c gs, v = .slice (some ⟨b, 0, none⟩) 7 c ∧ gs.length = 7 ∧ (∀ j (h : j < gs.length), w.cell? ⟨b, j, none⟩ = some (rowVal gs[j])) ∧ RowsOk w 0 gs (fun i x => exT 5000 t i (x : Int)) ∧ ∃ cur, w.heap[b]? = some (.cells cur 66 (0, 0))
theorem isTable_of {w : World} {B t : Nat} {v : Value} {gs : List Nat} (ho : w.ownsRow B 66 1 v 7 (gs.map rowVal)) (hl : gs.length = 7) (hr : RowsOk w B gs (fun i x => exT 5000 t i (x : Int))) : IsTable w v t := by
  rcases ho.2 with ⟨rfl, h⟩ | ⟨g, cap, cur, rfl, hB, hg, _⟩
  · omega
  · refine ⟨g, cap, gs, rfl, hl, fun j hj => ?_, fun j hj => ⟨Nat.zero_le _, (hr j hj).2⟩, cur, hg⟩
    have := ho.cells (g := g) rfl j (rowVal gs[j]) (by simp [hj])
    have e : (⟨g, 0, none⟩ : Addr).add j = ⟨g, j, none⟩ := by unfold Addr.add; split <;> simp_all
    rw [← e]
    exact this
theorem IsTable.below {w w' : World} {v : Value} {t : Nat} (h : IsTable w v t) (hb : Below w.heap.size w w') : IsTable w' v t := by
  obtain ⟨b, c, gs, hv, hl, hc, hr, cur, hcur⟩ := h
  have hlt := lt_of_block' hcur
  exact ⟨b, c, gs, hv, hl, fun j hj => (hb.cell (p := ⟨b, j, none⟩) hlt).trans (hc j hj), hr.below hb, cur, (hb.block b hlt).trans hcur⟩
theorem IsTable.grown {w w' : World} {base n : Nat} {x v : Value} {xs : List Value} {t : Nat} (h : IsTable w x t) (hg : w.grownBy w' v.ownBlock) (ho : w.ownsRow base 63 1 v n xs) : IsTable w' x t := by
  obtain ⟨b, c, gs, hv, hl, hc, hr, cur, hcur⟩ := h
  have hcur' := grown_block hg ho hcur (by decide)
  exact ⟨b, c, gs, hv, hl, fun j hj => (World.cell?_of_block (a := ⟨b, j, none⟩) (hcur'.trans hcur.symm)).trans (hc j hj), fun j hj => ⟨(hr j hj).1, grown_block hg ho (hr j hj).2 (by decide)⟩, cur, hcur'⟩
set_option maxRecDepth 100000 in
set_option maxHeartbeats 1000000 in
theorem l1Table_nil (a0 : Option Addr) (w : World) : Calls Tryd.prog 55 #[.slice a0 0 0] w fun e w' => ∃ v, e = .returned v ∧ IsTable w' v 1 ∧ Below w.heap.size w w' := by
  obtain ⟨i0, hi, hz0, hz1, hz2⟩ := info_parts info_bool
  obtain ⟨i1, hj, hy0, hy1, hy2⟩ := info_parts info_row
  go_enter Tryd.func55, Tryd.ntmps55
  go_wp2_with fail
  refine (l1Letters_any _).mono ?_
  rintro e w1 ⟨rfl, rfl⟩
  go_wp2_with fail
  go_loopw [4, 5] (fun v i wr => ∃ (k : Nat) (gs : List Nat), i = .int .i64 k ∧ k ≤ 7 ∧ gs.length = k ∧ wr.ownsRow w.heap.size 66 1 v k (gs.map rowVal) ∧ RowsOk wr w.heap.size gs (fun i x => exT 5000 1 i (x : Int)) ∧ Below w.heap.size w wr) (fun _ i _ => 7 - (intOf i).toNat)
  case atStart =>
    refine ⟨0, [], rfl, by omega, rfl, ⟨rfl, .inr ⟨w.heap.size, 0, #[], rfl, Nat.le_refl _, heap_alloc_new _ _, Nat.le_refl _, by decide, rfl, rfl⟩⟩, fun j hj => by simp at hj, (Below.refl _ _).alloc (Nat.le_refl _) _⟩
  case round =>
    obtain ⟨k, gs, rfl, hk, hgs, hown, hrows, hbel⟩ := hrel
    have Hrows := Lib.hid hrows; have Hgs := Lib.hid hgs; clear hrows hgs
    by_cases hlt : k < 7
    · have Hrv := Lib.hid (letters_at k hlt)
      have hvb := lv_bd k
      go_wp2_with (at_make; refine wpList_make_bools _ rfl _ _ 66 rfl 4 i0 Tryd.underlying66 hi hz0 hz1 hz2 5001 (by decide) rfl rfl ?_)
      intro w2 hblk g2
      have hsz := hbel.size
      have hown2 := hown.kept (row := none) ⟨g2.os, g2.tape, g2.output, g2.size, fun k hk _ => g2.block k hk⟩ (by cases hv : (u4 : Value).ownBlock <;> simp)
      have hrows2 := Hrows.out.below g2
      have hbel2 := hbel.trans (g2.mono hsz)
      have hcell : w2.cell? ⟨wr.heap.size, (lv k).toNat, none⟩ = some (.bool false) := cell_at hblk (boolArr_at _ _ _ (by omega))
      have hfree : w2.frozen? ⟨wr.heap.size, (lv k).toNat, none⟩ = false := free2 hblk
      have hset := heap_setCell_same w2 wr.heap.size (lv k).toNat _ _ (.bool true) hblk
      rw [boolArr_set] at hset
      have Hset : Hid ((w2.setCell ⟨wr.heap.size, (lv k).toNat, none⟩ (.bool true)).heap[wr.heap.size]? = some (.cells (boolArr 5001 (fun y => exT 5000 1 k (y : Int))) 4 (0, 0))) := by
        show _ = _
        rw [hset, boolArr_congr 5001 _ (fun y => exT 5000 1 k (y : Int)) (fun y hy => exT_one k hlt y hy)]
      have hgrow : w2.grownBy (w2.setCell ⟨wr.heap.size, (lv k).toNat, none⟩ (.bool true)) (some wr.heap.size) :=
        ⟨rfl, rfl, rfl, by simp [World.setCell], fun j hj hne => Below.heap_setCell _ _ _ _ (fun e => hne (by simp at e; rw [e]))⟩
      have Hown3 := Lib.hid (hown2.kept hgrow (.inr (own_ne hown2 hblk (by decide))))
      have Hrows3 := Lib.hid (hrows2.kept fun j hj => hgrow.block _ (hrows2.lt j hj) (by have := Hrows.out.lt j hj; simp; omega))
      have Hbel3 := Lib.hid (hbel2.setCell (p := ⟨wr.heap.size, (lv k).toNat, none⟩) hsz (.bool true))
      have Hsz := Lib.hid hsz
      clear hset hgrow hown hown2 hrows2 hbel hbel2 hblk g2
      go_wp2_with fail
      refine (l1Value_any _ _).mono ?_
      rw [Hrv.out]
      rintro e w3 ⟨rfl, rfl⟩
      go_wp2_with fail
      generalize w2.setCell ⟨wr.heap.size, (lv k).toNat, none⟩ (.bool true) = w4 at *
      clear hcell hfree
      go_loop [8] (fun i => i = .int .i64 0) (fun _ => 0)
      case atStart => rfl
      case round =>
        obtain rfl := hrel
        go_wp2_with (at_builtin; refine wpList_append_own _ rfl _ _ 63 rfl w.heap.size 66 i1 (.slice none 0 0) 1 24 Tryd.underlying63 hj hy0 hy1 hy2 rfl (by decide) _ _ _ rfl (Hown3.out.alloc _) ⟨w4.heap.size, 0, none⟩ 1 1 [rowVal wr.heap.size] rfl rfl ?c1 ?c2 ?c3 ?c4 ?c5 ?_)
        case c1 => intro j u h; exact h
        case c2 => rfl
        case c3 => unfold maxLen; omega
        case c4 => omega
        case c5 => have := Hbel3.out.size; simp; omega
        intro v' w5 hown5 hg5 _
        have hal := (Below.refl w4.heap.size w4).alloc (Nat.le_refl _) (.cells #[rowVal wr.heap.size] 66)
        have r1 := (Hrows3.out.below hal).grown hg5 (Hown3.out.alloc _)
        have hb5 := grown_block hg5 (Hown3.out.alloc _) ((hal.block _ (lt_of_block' Hset.out)).trans Hset.out) (by decide)
        have R1 := Lib.hid (r1.snoc Hsz.out (by rw [Hgs.out]; exact hb5))
        have R2 := Lib.hid ((Hbel3.out.alloc Hbel3.out.size (.cells #[rowVal wr.heap.size] 66)).grown hg5 (by have := Hbel3.out.size; simp; omega) (fun j hj => (Hown3.out.lt j hj).1))
        have R3 : Hid (w5.ownsRow w.heap.size 66 1 v' (k + 1) ((gs ++ [wr.heap.size]).map rowVal)) := by
          show World.ownsRow _ _ _ _ _ _ _
          rw [List.map_append]; exact hown5
        clear r1 hb5 hown5 hg5 hal
        go_wp2_with fail
        go_roundw
        case rel => exact ⟨k + 1, gs ++ [wr.heap.size], by go_num, by omega, by rw [List.length_append, Hgs.out]; rfl, R3.out, R1.out, R2.out⟩
        case measure => simp [intOf]; omega
    · obtain rfl : k = 7 := by omega
      have Hfin := Lib.hid (isTable_of hown Hgs.out Hrows.out)
      go_wp2_with fail
      go_ret
      exact ⟨_, rfl, Hfin.out, hbel⟩
end Go.Proofs.YthgagidpnnaajaaDoor
