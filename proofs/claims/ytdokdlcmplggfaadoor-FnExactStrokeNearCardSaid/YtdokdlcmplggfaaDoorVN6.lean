/- The program's chapter 7: stems turned and mirrored. -/
import Derived.Test.YtdokdlcmplggfaaDoorVN4
import Derived.StillTailTactics
namespace Go.Proofs.YtdokdlcmplggfaaDoor
open Go.RowKit
set_option linter.unusedVariables false
set_option maxRecDepth 100000
/-- a stem that is being written: its first k strokes are there -/
def MvR (w : World) (b : Nat) (f : Nat → Nat) (L : List Stk) (k : Nat) : Prop := ∃ c : Array Value, w.heap[b]? = some (.cells c 52 (0, 0)) ∧ c.size = L.length * 2 ∧ ∀ i (h : i < L.length), i < k → c[i * 2]? = some (.int .i64 (f L[i].1 : Nat)) ∧ c[i * 2 + 1]? = some (.int .i64 (L[i].2 : Nat))
theorem MvR.lt {w : World} {b : Nat} {f : Nat → Nat} {L : List Stk} {k : Nat} (h : MvR w b f L k) : b < w.heap.size := by obtain ⟨c, h, _⟩ := h; exact lt_of_block' h
theorem MvR.keep {w w' : World} {b : Nat} {f : Nat → Nat} {L : List Stk} {k : Nat} (h : MvR w b f L k) (g : w'.heap[b]? = w.heap[b]?) : MvR w' b f L k := by
  obtain ⟨c, h, hc⟩ := h; exact ⟨c, g.trans h, hc⟩
theorem MvR.free {w : World} {b : Nat} {f : Nat → Nat} {L : List Stk} {k : Nat} (h : MvR w b f L k) (j : Nat) : w.frozen? ⟨b, j, none⟩ = false := by
  obtain ⟨c, h, hc⟩ := h; simp [World.frozen?, h]
theorem MvR.there {w : World} {b : Nat} {f : Nat → Nat} {L : List Stk} {k : Nat} (h : MvR w b f L k) (hk : k < L.length) : ∃ x y, w.cell? ⟨b, k * 2, none⟩ = some x ∧ w.cell? ⟨b, k * 2 + 1, none⟩ = some y := by
  obtain ⟨c, h, hs, _⟩ := h
  exact ⟨c[k * 2], c[k * 2 + 1], cell_at h (Array.getElem?_eq_getElem (by omega)), cell_at h (Array.getElem?_eq_getElem (by omega))⟩
theorem MvR.next {w : World} {b : Nat} {f : Nat → Nat} {L : List Stk} {k : Nat} (h : MvR w b f L k) (hk : k < L.length) (x : Value) {y : Value} (hy : w.cell? ⟨b, k * 2 + 1, none⟩ = some y) :
    (w.setCell ⟨b, k * 2, none⟩ x).cell? ⟨b, k * 2 + 1, none⟩ = some y ∧ (w.setCell ⟨b, k * 2, none⟩ x).frozen? ⟨b, k * 2 + 1, none⟩ = false := by
  obtain ⟨c, h, hs, _⟩ := h
  have h1 := heap_setCell_same w b (k * 2) _ _ x h
  refine ⟨?_, by simp [World.frozen?, h1]⟩
  simp only [World.cell?, h] at hy
  simp only [World.cell?, h1]
  rw [Array.getElem?_setIfInBounds_ne (by omega)]
  exact hy
theorem MvR.set {w : World} {b : Nat} {f : Nat → Nat} {L : List Stk} {k : Nat} (h : MvR w b f L k) (hk : k < L.length) :
    MvR ((w.setCell ⟨b, k * 2, none⟩ (.int .i64 (f L[k].1 : Nat))).setCell ⟨b, k * 2 + 1, none⟩ (.int .i64 (L[k].2 : Nat))) b f L (k + 1) := by
  obtain ⟨c, h, hs, hc⟩ := h
  have h1 := heap_setCell_same w b (k * 2) _ _ (.int .i64 (f L[k].1 : Nat)) h
  have h2 := heap_setCell_same _ b (k * 2 + 1) _ _ (.int .i64 (L[k].2 : Nat)) h1
  refine ⟨_, h2, by simp [hs], fun i hi hik => ?_⟩
  by_cases e : i = k
  · subst e
    constructor
    · rw [Array.getElem?_setIfInBounds_ne (by omega), Array.getElem?_setIfInBounds_self_of_lt (by omega)]
    · rw [Array.getElem?_setIfInBounds_self_of_lt (by simp; omega)]
  · have := hc i hi (by omega)
    constructor
    · rw [Array.getElem?_setIfInBounds_ne (by omega), Array.getElem?_setIfInBounds_ne (by omega)]; exact this.1
    · rw [Array.getElem?_setIfInBounds_ne (by omega), Array.getElem?_setIfInBounds_ne (by omega)]; exact this.2
theorem MvR.done {w : World} {b : Nat} {f : Nat → Nat} {L : List Stk} (h : MvR w b f L L.length) : SkR w (.slice (some ⟨b, 0, none⟩) L.length L.length) (L.map (mvP f)) := by
  have hlt := h.lt
  obtain ⟨c, h, hs, hc⟩ := h
  refine ⟨some ⟨b, 0, none⟩, L.length, by rw [List.length_map], fun i hi => ?_⟩
  rw [List.length_map] at hi
  have := hc i hi hi
  refine ⟨b, rfl, hlt, ?_, ?_⟩
  · rw [List.getElem_map]; exact cell_at h this.1
  · rw [List.getElem_map]; exact cell_at h this.2
theorem below_two {B b i j : Nat} {w w' : World} {x y : Value} (h : Below B w w') (hb : B ≤ b) : Below B w ((w'.setCell ⟨b, i, none⟩ x).setCell ⟨b, j, none⟩ y) := Below.setCell (p := ⟨b, j, none⟩) (Below.setCell (p := ⟨b, i, none⟩) h hb x) hb y
set_option maxHeartbeats 4000000 in
theorem moved_turned (v : Value) (L : List Stk) (w : World) (hL : L.length ≤ 100) (hok : ∀ s ∈ L, StkOk s)
    (hto : ∀ p : Nat, p < 4 → ∀ w', Below w.heap.size w w' → Calls Tryd.prog 45 #[.int .i64 p] w' fun e w2 => e = .returned (.int .i64 (tpl p : Nat)) ∧ w' = w2) (h : SkR w v L) :
    Calls Tryd.prog 50 #[v, .func (.func 45) #[] #[]] w fun e w' => ∃ v', e = .returned v' ∧ SkR w' v' (L.map (mvP tpl)) ∧ Below w.heap.size w w' := by
  obtain ⟨i0, hi, hz0, hz1, hz2⟩ := info_parts info_stk
  obtain ⟨a, cap, rfl, hc⟩ := h
  have Hc := Lib.hid hc; have Hok := Lib.hid hok; have Hto := Lib.hid hto
  clear hc hok hto
  go_enter Tryd.func50, Tryd.ntmps50
  go_wp2_with (at_make; refine wpList_make_full _ rfl _ _ 33 rfl w.heap.size 52 i0 (.agg #[.int .i64 0, .int .i64 0]) 2 Tryd.underlying33 hi hz0 hz1 .i64 .i64 _ _ L.length rfl rfl rfl rfl (by rw [hz2]; omega) (by unfold maxLen; omega) (Nat.le_refl _) ?_)
  intro w1 hown1 hg1
  have HM : Hid (MvR w1 w.heap.size tpl L 0) := Lib.hid (by
    rcases hown1.2 with ⟨e, _⟩ | ⟨g, cap', cur, e, _, hh, _, _, hsz, _⟩
    · cases e
    · injection e with e1 e2 e3
      injection e1 with e1
      injection e1 with e1
      subst e1 e3
      exact ⟨cur, hh, hsz, fun i _ hi => by omega⟩)
  have HB : Hid (Below w.heap.size w w1) := Lib.hid ((Below.refl _ _).grown hg1 (Nat.le_refl _) (fun j hj => by cases hj))
  clear hown1 hg1
  go_wp2_with fail
  go_loopw [13] (fun i wr => ∃ k : Nat, i = .int .i64 k ∧ k ≤ L.length ∧ Hid (MvR wr w.heap.size tpl L k) ∧ Hid (Below w.heap.size w wr)) (fun i _ => L.length - (intOf i).toNat)
  case atStart => exact ⟨0, rfl, Nat.zero_le _, HM, HB⟩
  case round =>
    obtain ⟨k, rfl, hk, Hm, Hb⟩ := hrel
    clear HM HB
    by_cases hlt : k < L.length
    · obtain ⟨b, rfl, hbB, hc1, hc2⟩ := Hc.out k hlt
      have hd1 := (Hb.out.cell (p := ⟨b, k * 2, none⟩) hbB).trans hc1
      have hd2 := (Hb.out.cell (p := ⟨b, k * 2 + 1, none⟩) hbB).trans hc2
      have hs := Hok.out L[k] (List.getElem_mem hlt)
      have hlw := Hm.out.lt
      have hlx := Nat.lt_irrefl
      have HB1 : Hid (Below w.heap.size w ((wr.alloc (.cells #[.int .i64 (L[k].1 : Nat), .int .i64 (L[k].2 : Nat)] 52)).drew)) := Lib.hid ((Hb.out.alloc Hb.out.size _).drew)
      have hm2 := Hm.out.set hlt
      have HM2 : Hid (MvR ((((wr.setCell ⟨w.heap.size, k * 2, none⟩ (.int .i64 (tpl L[k].1 : Nat))).setCell ⟨w.heap.size, k * 2 + 1, none⟩ (.int .i64 (L[k].2 : Nat))).alloc (.cells #[.int .i64 (L[k].1 : Nat), .int .i64 (L[k].2 : Nat)] 52)).drew) w.heap.size tpl L (k + 1)) := Lib.hid (hm2.keep (Below.heap_alloc _ _ w.heap.size hm2.lt))
      have HB2 : Hid (Below w.heap.size w ((((wr.setCell ⟨w.heap.size, k * 2, none⟩ (.int .i64 (tpl L[k].1 : Nat))).setCell ⟨w.heap.size, k * 2 + 1, none⟩ (.int .i64 (L[k].2 : Nat))).alloc (.cells #[.int .i64 (L[k].1 : Nat), .int .i64 (L[k].2 : Nat)] 52)).drew)) := Lib.hid (((below_two Hb.out (Nat.le_refl _)).alloc (below_two Hb.out (Nat.le_refl _)).size _).drew)
      obtain ⟨x0, y0, hx0, hy0⟩ := Hm.out.there hlt
      have hf1 := Hm.out.free (k * 2)
      have hf2 := Hm.out.free (k * 2 + 1)
      obtain ⟨hy1, hf3⟩ := Hm.out.next hlt (.int .i64 (tpl L[k].1 : Nat)) hy0
      clear hm2 hlx
      have C := Lib.hid (Hto.out L[k].1 hs.1 _ HB1.out)
      generalize L[k].1 = p at *
      generalize L[k].2 = q at *
      clear hc1 hc2 hs Hok
      go_wp2_with fail
      refine wp_region_still_tail 10 (by kernel_rfl) (by kernel_rfl) ?_
      simp only [List.take_succ_cons, List.take_zero, List.drop_succ_cons, List.drop_zero]
      change wpStill _ _ (World.drew _) _ _ _
      repeat still_step
      still_call (C.out.mono fun _ _ q => ⟨q.1, q.2.symm⟩)
      repeat still_step
      refine wpStill_nil ?_
      change wpList _ _ _ _ _ (World.drew _)
      go_wp2_with fail
      go_roundw
      case rel => exact ⟨k + 1, by go_num, by omega, HM2, HB2⟩
      case measure => simp [intOf]; omega
    · obtain rfl : k = L.length := by omega
      have HS := Lib.hid Hm.out.done
      go_wp2_with fail
      go_ret
      exact ⟨_, rfl, HS.out, Hb.out⟩
set_option maxHeartbeats 4000000 in
theorem moved_mirrored (v : Value) (L : List Stk) (w : World) (hL : L.length ≤ 100) (hok : ∀ s ∈ L, StkOk s)
    (hto : ∀ p : Nat, p < 4 → ∀ w', Below w.heap.size w w' → Calls Tryd.prog 46 #[.int .i64 p] w' fun e w2 => e = .returned (.int .i64 (mpl p : Nat)) ∧ w' = w2) (h : SkR w v L) :
    Calls Tryd.prog 50 #[v, .func (.func 46) #[] #[]] w fun e w' => ∃ v', e = .returned v' ∧ SkR w' v' (L.map (mvP mpl)) ∧ Below w.heap.size w w' := by
  obtain ⟨i0, hi, hz0, hz1, hz2⟩ := info_parts info_stk
  obtain ⟨a, cap, rfl, hc⟩ := h
  have Hc := Lib.hid hc; have Hok := Lib.hid hok; have Hto := Lib.hid hto
  clear hc hok hto
  go_enter Tryd.func50, Tryd.ntmps50
  go_wp2_with (at_make; refine wpList_make_full _ rfl _ _ 33 rfl w.heap.size 52 i0 (.agg #[.int .i64 0, .int .i64 0]) 2 Tryd.underlying33 hi hz0 hz1 .i64 .i64 _ _ L.length rfl rfl rfl rfl (by rw [hz2]; omega) (by unfold maxLen; omega) (Nat.le_refl _) ?_)
  intro w1 hown1 hg1
  have HM : Hid (MvR w1 w.heap.size mpl L 0) := Lib.hid (by
    rcases hown1.2 with ⟨e, _⟩ | ⟨g, cap', cur, e, _, hh, _, _, hsz, _⟩
    · cases e
    · injection e with e1 e2 e3
      injection e1 with e1
      injection e1 with e1
      subst e1 e3
      exact ⟨cur, hh, hsz, fun i _ hi => by omega⟩)
  have HB : Hid (Below w.heap.size w w1) := Lib.hid ((Below.refl _ _).grown hg1 (Nat.le_refl _) (fun j hj => by cases hj))
  clear hown1 hg1
  go_wp2_with fail
  go_loopw [13] (fun i wr => ∃ k : Nat, i = .int .i64 k ∧ k ≤ L.length ∧ Hid (MvR wr w.heap.size mpl L k) ∧ Hid (Below w.heap.size w wr)) (fun i _ => L.length - (intOf i).toNat)
  case atStart => exact ⟨0, rfl, Nat.zero_le _, HM, HB⟩
  case round =>
    obtain ⟨k, rfl, hk, Hm, Hb⟩ := hrel
    clear HM HB
    by_cases hlt : k < L.length
    · obtain ⟨b, rfl, hbB, hc1, hc2⟩ := Hc.out k hlt
      have hd1 := (Hb.out.cell (p := ⟨b, k * 2, none⟩) hbB).trans hc1
      have hd2 := (Hb.out.cell (p := ⟨b, k * 2 + 1, none⟩) hbB).trans hc2
      have hs := Hok.out L[k] (List.getElem_mem hlt)
      have hlw := Hm.out.lt
      have hlx := Nat.lt_irrefl
      have HB1 : Hid (Below w.heap.size w ((wr.alloc (.cells #[.int .i64 (L[k].1 : Nat), .int .i64 (L[k].2 : Nat)] 52)).drew)) := Lib.hid ((Hb.out.alloc Hb.out.size _).drew)
      have hm2 := Hm.out.set hlt
      have HM2 : Hid (MvR ((((wr.setCell ⟨w.heap.size, k * 2, none⟩ (.int .i64 (mpl L[k].1 : Nat))).setCell ⟨w.heap.size, k * 2 + 1, none⟩ (.int .i64 (L[k].2 : Nat))).alloc (.cells #[.int .i64 (L[k].1 : Nat), .int .i64 (L[k].2 : Nat)] 52)).drew) w.heap.size mpl L (k + 1)) := Lib.hid (hm2.keep (Below.heap_alloc _ _ w.heap.size hm2.lt))
      have HB2 : Hid (Below w.heap.size w ((((wr.setCell ⟨w.heap.size, k * 2, none⟩ (.int .i64 (mpl L[k].1 : Nat))).setCell ⟨w.heap.size, k * 2 + 1, none⟩ (.int .i64 (L[k].2 : Nat))).alloc (.cells #[.int .i64 (L[k].1 : Nat), .int .i64 (L[k].2 : Nat)] 52)).drew)) := Lib.hid (((below_two Hb.out (Nat.le_refl _)).alloc (below_two Hb.out (Nat.le_refl _)).size _).drew)
      obtain ⟨x0, y0, hx0, hy0⟩ := Hm.out.there hlt
      have hf1 := Hm.out.free (k * 2)
      have hf2 := Hm.out.free (k * 2 + 1)
      obtain ⟨hy1, hf3⟩ := Hm.out.next hlt (.int .i64 (mpl L[k].1 : Nat)) hy0
      clear hm2 hlx
      have C := Lib.hid (Hto.out L[k].1 hs.1 _ HB1.out)
      generalize L[k].1 = p at *
      generalize L[k].2 = q at *
      clear hc1 hc2 hs Hok
      go_wp2_with fail
      refine wp_region_still_tail 10 (by kernel_rfl) (by kernel_rfl) ?_
      simp only [List.take_succ_cons, List.take_zero, List.drop_succ_cons, List.drop_zero]
      change wpStill _ _ (World.drew _) _ _ _
      repeat still_step
      still_call (C.out.mono fun _ _ q => ⟨q.1, q.2.symm⟩)
      repeat still_step
      refine wpStill_nil ?_
      change wpList _ _ _ _ _ (World.drew _)
      go_wp2_with fail
      go_roundw
      case rel => exact ⟨k + 1, by go_num, by omega, HM2, HB2⟩
      case measure => simp [intOf]; omega
    · obtain rfl : k = L.length := by omega
      have HS := Lib.hid Hm.out.done
      go_wp2_with fail
      go_ret
      exact ⟨_, rfl, HS.out, Hb.out⟩
end Go.Proofs.YtdokdlcmplggfaaDoor
