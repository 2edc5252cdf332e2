/- The program's orderedWords: the contract of its iterator, by the number of letters. -/
import Derived.Test.YtdognkjpiineiaaDoorAKt
import Derived.Test.YtdognkjpiineiaaDoorRO
import Derived.Test.YtdognkjpiineiaaDoorAG
import Derived.Shelf.RegionOpen
import Derived.Shelf.Abstract
import Derived.OwnWalkIn
import Derived.TacticsInMore
import Derived.LoopNIn
import Derived.LoopIn
import Derived.StillTailTactics
import Derived.Outline
namespace Go.Proofs.YtdognkjpiineiaaDoor
open Go.RowKit Go.Shelf
set_option linter.unusedVariables false
set_option maxRecDepth 100000
attribute [local go_sem] Oper.semAt_some
/-- a words' iterator's captured variables: the sum, the number of letters, the letters from place p on -/
def Words (w : World) (lb : Array Value) (c p : Nat) (s : Int) : Prop :=
  ∃ B0 B1 B2 b : Nat, lb = #[.pointer (some ⟨B2, 0, none⟩), .pointer (some ⟨B1, 0, none⟩), .pointer (some ⟨B0, 0, none⟩)] ∧ B0 < w.heap.size ∧ B1 < w.heap.size ∧ B2 < w.heap.size ∧ b < w.heap.size ∧
    w.cell? ⟨B2, 0, none⟩ = some (.int .i64 s) ∧ w.cell? ⟨B1, 0, none⟩ = some (.int .i64 (c : Nat)) ∧ w.cell? ⟨B0, 0, none⟩ = some (.slice (some ⟨b, p, none⟩) (27 - p) (27 - p)) ∧ LetRow w b
theorem Words.below {w w' : World} {lb : Array Value} {c p : Nat} {s : Int} (h : Words w lb c p s) (hb : Below w.heap.size w w') : Words w' lb c p s := by
  obtain ⟨B0, B1, B2, b, h0, h1, h2, h3, h4, h5, h6, h7, h8⟩ := h
  have hs := hb.size
  exact ⟨B0, B1, B2, b, h0, by omega, by omega, by omega, by omega, (hb.cell (p := ⟨B2, 0, none⟩) h3).trans h5, (hb.cell (p := ⟨B1, 0, none⟩) h2).trans h6, (hb.cell (p := ⟨B0, 0, none⟩) h1).trans h7, h8.below hb h4⟩
/-- what the iterator gives first -/
def resW (c p : Nat) (s : Int) : Option Value := (dfs c (L27.drop p) s).map fun v => Value.string ⟨(wtext v).toArray⟩
theorem athree_boxes (w : World) (x y z : Obj) : (((w.alloc x).alloc y).alloc z).heap[w.heap.size]? = some x ∧ (((w.alloc x).alloc y).alloc z).heap[w.heap.size + 1]? = some y ∧ (((w.alloc x).alloc y).alloc z).heap[w.heap.size + 1 + 1]? = some z := by
  have hx := heap_alloc_new w x
  have hy := heap_alloc_new (w.alloc x) y
  have hz := heap_alloc_new ((w.alloc x).alloc y) z
  simp only [World.size_alloc] at hy hz
  refine ⟨?_, ?_, hz⟩
  · rw [Below.heap_alloc _ _ _ (by simp only [World.size_alloc]; omega), Below.heap_alloc _ _ _ (by simp only [World.size_alloc]; omega)]; exact hx
  · rw [Below.heap_alloc _ _ _ (by simp only [World.size_alloc]; omega)]; exact hy
theorem orderedWords_any (b p : Nat) (c s : Int) (w : World) (hb : b < w.heap.size) (hr : LetRow w b) (hc : 0 ≤ c) :
    Calls Tryd.prog 54 #[.slice (some ⟨b, p, none⟩) (27 - p) (27 - p), .int .i64 c, .int .i64 s] w fun e w' => ∃ lb, e = .returned (.func (.func 63) #[] lb) ∧ Words w' lb c.toNat p s ∧ Below w.heap.size w w' := by
  obtain ⟨k, rfl⟩ := Int.eq_ofNat_of_zero_le hc
  have HB := Lib.hid (fun x y z => athree_boxes w x y z)
  go_enter Tryd.func54, Tryd.ntmps54
  go_wp2
  go_ret
  have hB := (((Below.refl w.heap.size w).alloc (Nat.le_refl _) (.cells #[.slice (some ⟨b, p, none⟩) (27 - p) (27 - p)] 51)).alloc (by simp) (.cells #[.int .i64 (k : Nat)] 3)).alloc (by simp; omega) (.cells #[.int .i64 s] 3)
  refine ⟨_, rfl, ⟨w.heap.size, w.heap.size + 1, w.heap.size + 1 + 1, b, rfl, by simp; omega, by simp, by simp, by simp; omega, ?_, ?_, ?_, hr.below hB hb⟩, hB⟩
  · exact cell_at (HB.out _ _ _).2.2 rfl
  · exact cell_at (HB.out _ _ _).2.1 rfl
  · exact cell_at (HB.out _ _ _).1 rfl
theorem dfs_out (c p : Nat) (s : Int) (h : s < (c : Int) ∨ (c : Int) * 900 < s) : resW c p s = none := by
  unfold resW
  cases c with
  | zero => simp only [dfs]; rw [if_pos (by omega)]; rfl
  | succ c => simp only [dfs]; rw [if_pos (by omega)]; rfl
theorem words_out (c p : Nat) (s : Int) (w : World) (lb : Array Value) (hc : c ≤ 20) (hs0 : -1000 ≤ s) (hs1 : s ≤ 2000) (hg : s < (c : Int) ∨ (c : Int) * 900 < s) (hW : Words w lb c p s) : Once Tryd.prog 63 lb (resW c p s) w := by
  intro l Jx W hbel hJx hY
  obtain ⟨B0, B1, B2, b, rfl, h1, h2, h3, h4, h5, h6, h7, h8⟩ := hW.below hbel
  have Hn := Lib.hid (dfs_out c p s hg)
  clear hW hY hJx hbel h8
  refine callsIn_of_wp_marks Tryd.func63 rfl trivial ?_ rfl
  simp only [Tryd.ntmps63, List.size_toArray, List.length_cons, List.length_nil, Nat.reduceAdd, Nat.reduceSub, Array.replicate_succ, Array.replicate_zero, List.push_toArray, List.append_toArray, List.nil_append, List.cons_append]
  by_cases ha : s < (c : Int)
  · clear hg
    gi_wp2
    exact ⟨_, results_none rfl _ _ _, ⟨_, rfl⟩, .inl ⟨Hn.out, (Below.refl _ _).alloc (Nat.le_refl _) _⟩⟩
  · have hb : (c : Int) * 900 < s := by omega
    clear hg
    gi_wp2
    exact ⟨_, results_none rfl _ _ _, ⟨_, rfl⟩, .inl ⟨Hn.out, (Below.refl _ _).alloc (Nat.le_refl _) _⟩⟩
theorem words_zero (p : Nat) (s : Int) (w : World) (lb : Array Value) (hs0 : -1000 ≤ s) (hs1 : s ≤ 2000) (hW : Words w lb 0 p s) : Once Tryd.prog 63 lb (resW 0 p s) w := by
  by_cases hz : s = 0
  case neg => exact words_out 0 p s w lb (by omega) hs0 hs1 (by omega) hW
  subst hz
  intro l Jx W hbel hJx hY
  obtain ⟨B0, B1, B2, b, rfl, h1, h2, h3, h4, h5, h6, h7, h8⟩ := hW.below hbel
  refine callsIn_of_wp_marks Tryd.func63 rfl trivial ?_ rfl
  simp only [Tryd.ntmps63, List.size_toArray, List.length_cons, List.length_nil, Nat.reduceAdd, Nat.reduceSub, Array.replicate_succ, Array.replicate_zero, List.push_toArray, List.append_toArray, List.nil_append, List.cons_append]
  · obtain ⟨fn, tmps, assign, body, hy, hR⟩ := hY _ (show resW 0 p 0 = some (.string ⟨#[]⟩) from rfl) (W.alloc (.cells #[.func (.yield l) #[] #[]] 34)) ((Below.refl _ _).alloc (Nat.le_refl _) _)
    have HR := Lib.hid hR; clear hR hY hJx hbel h8
    gi_wp2
    refine ⟨rfl, HR.out.mono ?_⟩
    rintro e W2 ⟨rfl, hx, hk⟩
    gi_wp2
    exact ⟨_, results_none rfl _ _ _, ⟨_, rfl⟩, .inr ⟨by simp [resW, dfs], hx⟩⟩
/-- a row of places read as a list again -/
theorem drop27 (q : Nat) (h : q < 27) : L27.drop q = at27 q :: L27.drop (q + 1) := by
  have hl : q < L27.length := by rw [len27]; exact h
  rw [List.drop_eq_getElem_cons hl]
  unfold at27
  rw [List.getD_eq_getElem?_getD, List.getElem?_eq_getElem hl]; rfl
theorem tryS_at (c q : Nat) (s : Int) (h : q < 27) : tryS (dfs c) (L27.drop q) s = match dfs c (L27.drop q) (s - vl (at27 q)) with | some v => some (at27 q :: v) | none => tryS (dfs c) (L27.drop (q + 1)) s := by
  rw [drop27 q h]
  rfl
/-- where a loop over the letters stands -/
structure Lp (W1 : World) (Bo : Nat) (ds : List Nat) (W' : World) : Prop where
  bel : Below W1.heap.size W1 W'
  nodup : ds.Nodup
  marks : ∀ D ∈ ds, Bo ≤ D ∧ W'.heap[D]? = some (.deferred (some []))
set_option maxHeartbeats 1000000 in
theorem words_step (c p : Nat) (s : Int) (w : World) (lb : Array Value) (hc : c + 1 ≤ 20) (hs0 : -1000 ≤ s) (hs1 : s ≤ 2000) (hp : p < 27) (hg0 : (c : Int) + 1 ≤ s) (hg1 : s ≤ ((c : Int) + 1) * 900)
    (ih : ∀ (q : Nat) (s' : Int) (w' : World) (lb' : Array Value), -1000 ≤ s' → s' ≤ 2000 → q < 27 → AT w' → Words w' lb' c q s' → Once Tryd.prog 63 lb' (resW c q s') w')
    (hT : AT w) (hW : Words w lb (c + 1) p s) : Once Tryd.prog 63 lb (resW (c + 1) p s) w := by
  intro l Jx W hbel hJx hY
  have hTW := hT.step hbel
  obtain ⟨B0, B1, B2, b, rfl, h1, h2, h3, h4, h5, h6, h7, h8⟩ := hW.below hbel
  clear hW hT hbel
  have Hres : Hid (resW (c + 1) p s = (tryS (dfs c) (L27.drop p) s).map fun v => Value.string ⟨(wtext v).toArray⟩) := by
    show _ = _
    unfold resW
    simp only [dfs]
    rw [if_neg (by omega)]
  have HY := Lib.hid hY; have HJ := Lib.hid hJx; have HT := Lib.hid hTW; have H8 := Lib.hid h8; have IH := Lib.hid ih
  clear hY hJx hTW h8 ih
  refine callsIn_of_wp_marks Tryd.func63 rfl trivial ?_ rfl
  simp only [Tryd.ntmps63, List.size_toArray, List.length_cons, List.length_nil, Nat.reduceAdd, Nat.reduceSub, Array.replicate_succ, Array.replicate_zero, List.push_toArray, List.append_toArray, List.nil_append, List.cons_append]
  gi_wp2
  refine wpIn_loop (fun a' W' => ∃ (k : Nat) (ds : List Nat) (u5 u6 u7 u8 u9 u10 u11 u12 u13 u14 u15 u16 u17 u18 u19 u20 u24 u25 u26 u27 u28 u29 u30 u31 u32 u33 u34 u35 u36 u37 u38 u39 u40 u41 u42 u43 u44 u45 u46 : Value), a' = { tmps := #[.func (.yield l) #[] #[], .pointer (some ⟨B2, 0, none⟩), .pointer (some ⟨B1, 0, none⟩), .pointer (some ⟨B0, 0, none⟩), .pointer (some ⟨W.heap.size, 0, none⟩), u5, u6, u7, u8, u9, u10, u11, u12, u13, u14, u15, u16, u17, u18, u19, u20, .slice (some ⟨b, p, none⟩) (27 - p) (27 - p), .int .i64 ((27 - p : Nat) : Int), .int .i64 (k : Nat), u24, u25, u26, u27, u28, u29, u30, u31, u32, u33, u34, u35, u36, u37, u38, u39, u40, u41, u42, u43, u44, u45, u46], defers := ds.map markOf } ∧ k ≤ 27 - p ∧ Lp (W.alloc (.cells #[.func (.yield l) #[] #[]] 34)) (W.heap.size + 1) ds W' ∧ Hid (tryS (dfs c) (L27.drop p) s = tryS (dfs c) (L27.drop (p + k)) s))
    (fun a' _ => 27 - p - (intOf (a'.tmps.getD 23 undef)).toNat) ?_ ?_
  · exact ⟨0, [], _, _, _, _, _, _, _, _, _, _, _, _, _, _, _, _, _, _, _, _, _, _, _, _, _, _, _, _, _, _, _, _, _, _, _, _, _, _, _, rfl, by omega, ⟨Below.refl _ _, List.nodup_nil, fun D hD => by simp at hD⟩, Lib.hid rfl⟩
  · rintro a' W' ⟨k, ds, u5, u6, u7, u8, u9, u10, u11, u12, u13, u14, u15, u16, u17, u18, u19, u20, u24, u25, u26, u27, u28, u29, u30, u31, u32, u33, u34, u35, u36, u37, u38, u39, u40, u41, u42, u43, u44, u45, u46, rfl, hk, hL, HT2⟩
    have hbW : Below W.heap.size W W' := ((Below.refl W.heap.size W).alloc (Nat.le_refl _) _).trans (hL.bel.mono (by simp))
    have hsW := hL.bel.size
    rw [World.size_alloc] at hsW
    have cy : W'.cell? ⟨W.heap.size, 0, none⟩ = some (.func (.yield l) #[] #[]) := (hL.bel.cell (p := ⟨W.heap.size, 0, none⟩) (by simp)).trans (cell_at (heap_alloc_new W _) rfl)
    have c5 := (hbW.cell (p := ⟨B2, 0, none⟩) h3).trans h5
    have c6 : W'.cell? ⟨B1, 0, none⟩ = some (.int .i64 ((c : Int) + 1)) := (hbW.cell (p := ⟨B1, 0, none⟩) h2).trans h6
    have c7 := (hbW.cell (p := ⟨B0, 0, none⟩) h1).trans h7
    have HL := Lib.hid hL; have HbW := Lib.hid hbW
    have HTW := Lib.hid (HT.out.step hbW)
    have H8W := Lib.hid (H8.out.below hbW h4)
    clear hL hbW
    by_cases hlt : k < 27 - p
    · have hc8 : W'.cell? ⟨b, p + k, none⟩ = some (.int .i64 (at27 (p + k) : Nat)) := H8W.out (p + k) (by omega)
      have hx27 := at27_lt (p + k) (by omega)
      generalize hx : at27 (p + k) = x at *
      have Hx := Lib.hid hx; clear hx
      have hvx := vl_bd x hx27
      obtain ⟨v, Hv⟩ : ∃ v, Hid (vl x = v) := ⟨_, Lib.hid rfl⟩
      rw [Hv.out] at hvx
      gi_wp2
      refine wpIn_wide.2 ?_
      have hbA := (Below.refl W'.heap.size W').alloc (Nat.le_refl _) (.cells #[.int .i64 (x : Nat)] 55)
      have hnew := heap_alloc_new W' (.cells #[.int .i64 (x : Nat)] 55)
      have hsz2 : (W'.alloc (.cells #[.int .i64 (x : Nat)] 55)).heap.size = W'.heap.size + 1 := World.size_alloc _ _
      generalize W'.alloc (.cells #[.int .i64 (x : Nat)] 55) = W2 at *
      have d5 := (hbA.cell (p := ⟨B2, 0, none⟩) (by show B2 < _; omega)).trans c5
      have d6 := (hbA.cell (p := ⟨B1, 0, none⟩) (by show B1 < _; omega)).trans c6
      have d7 := (hbA.cell (p := ⟨B0, 0, none⟩) (by show B0 < _; omega)).trans c7
      have dy := (hbA.cell (p := ⟨W.heap.size, 0, none⟩) (by show W.heap.size < _; omega)).trans cy
      have dx := cell_at hnew (j := 0) rfl
      have HbA := Lib.hid hbA; have Hdy := Lib.hid dy; have Hdx := Lib.hid dx
      have HT2W := Lib.hid (HTW.out.step hbA)
      have Hval : Hid (Calls Tryd.prog 57 #[.int .i64 (x : Nat)] W2.drew fun e w' => e = .returned (.int .i64 v) ∧ w' = W2.drew) := by
        have := aValue_any x W2.drew (HT2W.out.step (Below.refl _ _).drew) hx27
        rw [Hv.out] at this
        exact this.mono fun _ _ q => ⟨q.1, q.2.symm⟩
      clear hbA hnew c5 c6 c7 cy dy hc8
      have hne : ¬ (27 - p = k) := by omega
      have hw0 : IntKind.i64.wrap (c : Int) = (c : Int) := IntWalk.i64_in _ (by omega)
      have hw1 : IntKind.i64.wrap (s - v) = s - v := IntWalk.i64_in _ (by omega)
      refine wp_region_still_tail 9 (by kernel_rfl) (by kernel_rfl) ?_
      simp only [List.take_succ_cons, List.take_zero, List.drop_succ_cons, List.drop_zero]
      change wpStill _ _ (World.drew _) _ _ _
      repeat still_step
      still_call (Hval.out)
      repeat still_step
      refine wpStill_nil ?_
      change wpList _ _ _ _ _ (World.drew _)
      go_wp2_with fail
      rw [show 27 - p - k = 27 - (p + k) by omega]
      refine (orderedWords_any b (p + k) _ _ _ (by show b < W2.heap.size; omega) (H8W.out.below (HbA.out.drew) (by omega)) (by omega)).mono ?_
      rintro e W3 ⟨lb3, rfl, hW3, hb3⟩
      go_wp2_with fail
      rw [Int.toNat_natCast] at hW3
      have hb23 : Below W2.heap.size W2 W3 := ((Below.refl _ W2).drew).trans hb3
      have hsz3 := hb23.size
      have HT3 := HT2W.out.step hb23
      have hseq := IH.out (p + k) (s - v) W3 lb3 (by omega) (by omega) (by omega) HT3 hW3
      have ey := (hb23.cell (p := ⟨W.heap.size, 0, none⟩) (by show W.heap.size < _; omega)).trans Hdy.out
      have ex := (hb23.cell (p := ⟨W'.heap.size, 0, none⟩) (by show W'.heap.size < _; omega)).trans Hdx.out
      have hm3 : ∀ D ∈ ds, W.heap.size + 1 ≤ D ∧ D < W'.heap.size ∧ W3.heap[D]? = some (.deferred (some [])) := fun D hD => by
        obtain ⟨q1, q2⟩ := HL.out.marks D hD
        have q3 := lt_of_block' q2
        exact ⟨q1, q3, (hb23.block D (by omega)).trans ((HbA.out.block D q3).trans q2)⟩
      have Hm3 := Lib.hid hm3; have Hb23 := Lib.hid hb23; have Hey := Lib.hid ey; have Hex := Lib.hid ex
      have HbW3 : Hid (Below W.heap.size W W3) := (HbW.out.trans (HbA.out.mono (by omega))).trans (hb23.mono (by omega))
      clear hm3 hb23 ey ex HT3 hb3 hW3 d5 d6 d7 dx hw0 hw1
      refine wpIn_block ?_
      have eg : ∀ args w, (callFunc 63 args).run Tryd.prog w = .ok (.enter 63 args) w := enters_of Tryd.func63 (by kernel_rfl) rfl
      refine wp_range_once (gf := 63) (lb := lb3) rfl eg hseq (Below.refl _ _) rfl (fun W5 => Jx W5 ∧ ∀ D ∈ ds, W5.heap[D]? = some (.deferred (some []))) ?hang ?round ?done ?stop
      case hang =>
        rintro A B ⟨q1, q2⟩ hb
        exact ⟨HJ.out A B q1 (hb.mono (by omega)), fun D hD => (hb.block D (by have := (Hm3.out D hD).2.1; omega)).trans (q2 D hD)⟩
      case round =>
        intro xw hxw l2 W4a hW4a
        obtain ⟨v0, hv0, rfl⟩ : ∃ v0, dfs c (L27.drop (p + k)) (s - v) = some v0 ∧ Value.string ⟨(wtext v0).toArray⟩ = xw := by
          unfold resW at hxw
          rw [Option.map_eq_some_iff] at hxw
          exact hxw
        have hlen : (wtext v0).length ≤ 20 := by
          have := (dfs_some c _ _ v0 (fun i hi => (mem27 i).1 (List.mem_of_mem_drop hi)) hv0).2.2
          unfold wtext
          rw [List.length_map]
          omega
        have hfirst : resW (c + 1) p s = some (.string ((⟨#[lt x]⟩ : ByteArray) ++ ⟨(wtext v0).toArray⟩)) := by
          rw [Hres.out, HT2.out, tryS_at c (p + k) s (by omega), Hx.out, Hv.out, hv0, show (⟨#[lt x]⟩ : ByteArray) = ⟨[lt x].toArray⟩ from rfl, bytes_append]
          rfl
        have Hfirst := Lib.hid hfirst
        clear hfirst hxw hv0
        generalize wtext v0 = L at *
        gi_wp2
        refine ⟨trivial, fun W4 hb4 => ?_⟩
        have hsz4 := hb4.size
        have fy := (hb4.cell (p := ⟨W.heap.size, 0, none⟩) (by show W.heap.size < _; omega)).trans Hey.out
        have fx := (hb4.cell (p := ⟨W'.heap.size, 0, none⟩) (by show W'.heap.size < _; omega)).trans Hex.out
        obtain ⟨fn, tmps, assign, body, hy, hR⟩ := HY.out _ Hfirst.out W4.drew ((HbW3.out.trans (hb4.mono (by omega))).drew)
        have HR := Lib.hid hR
        have Hb4 := Lib.hid hb4
        have Hsg := Lib.hid (fun W6 => (callsIn_wide (n := 0)).2 (aSign_any x W6 hx27))
        have hmx : Tryd.prog.follows .mixedOrders = true := by kernel_rfl
        have hfn : Fence.wide.fn 58 := trivial
        have hdep : Fence.wide.depth = none := rfl
        clear hR hb4
        gi_wp2
        gi_region_with_o (first
          | (gi_at_call 58; refine (CallsIn.inRound l2 (Hsg.out _)).mono ?_; rintro e w' ⟨rfl, rfl⟩)
          | (refine HR.out.mono ?_; rintro e W5 ⟨rfl, hj5, hk5⟩))
        all_goals gi_wp2
        all_goals exact ⟨⟨hk5.size, fun k' o hB' hk' ho => hk5.same k' o (by omega) hk' ho⟩, hj5, fun D hD => hk5.same D _ (by have := (Hm3.out D hD).1; omega) ((Hb4.out.block D (by have := (Hm3.out D hD).2.1; omega)).trans (Hm3.out D hD).2.2) rfl⟩
      case done =>
        intro hn D W4 hD hb4 hd4
        have hdn : dfs c (L27.drop (p + k)) (s - v) = none := by
          unfold resW at hn
          cases h : dfs c (L27.drop (p + k)) (s - v) with
          | none => rfl
          | some v0 => rw [h] at hn; cases hn
        have HT3 : Hid (tryS (dfs c) (L27.drop p) s = tryS (dfs c) (L27.drop (p + (k + 1))) s) := by
          show _ = _
          rw [HT2.out, tryS_at c (p + k) s (by omega), Hx.out, Hv.out, hdn]
          rfl
        have hLp : Lp (W.alloc (.cells #[.func (.yield l) #[] #[]] 34)) (W.heap.size + 1) (D :: ds) W4 := by
          refine ⟨?_, List.nodup_cons.2 ⟨fun hD' => ?_, HL.out.nodup⟩, fun E hE => ?_⟩
          · have e1 : (W.alloc (.cells #[.func (.yield l) #[] #[]] 34)).heap.size = W.heap.size + 1 := World.size_alloc _ _
            exact ((HL.out.bel.trans (HbA.out.mono (by omega))).trans (Hb23.out.mono (by omega))).trans (hb4.mono (by omega))
          · have := (Hm3.out D hD').2.1; omega
          · rcases List.mem_cons.1 hE with rfl | hE
            · exact ⟨by omega, hd4⟩
            · have q := Hm3.out E hE
              exact ⟨q.1, (hb4.block E (by omega)).trans q.2.2⟩
        have HLp := Lib.hid hLp
        clear hLp hdn hb4 hd4
        gi_wp2
        exact ⟨⟨k + 1, D :: ds, _, _, _, _, _, _, _, _, _, _, _, _, _, _, _, _, _, _, _, _, _, _, _, _, _, _, _, _, _, _, _, _, _, _, _, _, _, _, _, rfl, by omega, HLp.out, HT3⟩, by simp [intOf]; omega⟩
      case stop =>
        rintro hn D W4 hD ⟨hj, hms⟩ hd4
        have hne2 : resW (c + 1) p s ≠ none := by
          rw [Hres.out, HT2.out, tryS_at c (p + k) s (by omega), Hx.out, Hv.out]
          unfold resW at hn
          cases h : dfs c (L27.drop (p + k)) (s - v) with
          | none => rw [h] at hn; exact absurd rfl hn
          | some v0 => simp
        have Hne2 := Lib.hid hne2; have Hms := Lib.hid hms; have Hj := Lib.hid hj
        clear hne2 hms hj
        gi_wp2
        refine leaves_marks W.heap.size (D :: ds) W4 (List.nodup_cons.2 ⟨fun hD' => ?_, HL.out.nodup⟩) (fun E hE => ?_) (fun w' hb => ⟨_, results_none rfl _ _ _, ⟨_, rfl⟩, .inr ⟨Hne2.out, HJ.out _ _ Hj.out hb⟩⟩)
        · have := (Hm3.out D hD').2.1; omega
        · rcases List.mem_cons.1 hE with rfl | hE
          · exact ⟨by omega, hd4⟩
          · exact ⟨by have := (Hm3.out E hE).1; omega, Hms.out E hE⟩
    · have hk27 : k = 27 - p := by omega
      have Hnone : Hid (resW (c + 1) p s = none) := by
        show _ = _
        rw [Hres.out, HT2.out, List.drop_of_length_le (by rw [len27]; omega)]
        rfl
      clear hk27
      gi_wp2
      refine leaves_marks W.heap.size ds W' HL.out.nodup (fun E hE => ?_) (fun w' hb => ⟨_, results_none rfl _ _ _, ⟨_, rfl⟩, .inl ⟨Hnone.out, HbW.out.trans hb⟩⟩)
      obtain ⟨q1, q2⟩ := HL.out.marks E hE
      exact ⟨by omega, q2⟩
end Go.Proofs.YtdognkjpiineiaaDoor
