/- The program's readPile. -/
import Derived.Test.YtbepcmjjgpbgaaaBI6
import Derived.StillTailTactics
namespace Go.Proofs.Ytbepcmjjgpbgaaa
open Go.RowKit
set_option linter.unusedVariables false
set_option maxRecDepth 100000
theorem results_cell2_tmp {P : Program} {fn : Func} {p p' q : Tmp} {ty ty' : TypeId} (h : fn.results = #[.cell p ty, .cell p' ty', .tmp q]) (tmps : Array Value) (w : World) (T T' : TypeId) (b b' N N' : Nat) (f f' : Nat → Int) (v : Value) (d d' : TypeDesc)
    (hp : tmps.getD p undef = .pointer (some ⟨b, 0, none⟩)) (hp2 : tmps.getD p' undef = .pointer (some ⟨b', 0, none⟩)) (hq : tmps.getD q undef = v) (hb : Blk T w b N f) (hb2 : Blk T' w b' N' f')
    (hu : P.underlying ty = some d) (hd : isRowT d = true) (hi : (P.info? ty).map (·.size) = some N) (hu' : P.underlying ty' = some d') (hd' : isRowT d' = true) (hi' : (P.info? ty').map (·.size) = some N') :
    (results fn tmps).run P w = .ok (.tuple #[.agg (intCells f N).toArray, .agg (intCells f' N').toArray, v]) w := by
  have e1 : tmps[p]?.getD undef = .pointer (some ⟨b, 0, none⟩) := by simpa using hp
  have e2 : tmps[p']?.getD undef = .pointer (some ⟨b', 0, none⟩) := by simpa using hp2
  have e3 : tmps[q]?.getD undef = v := by simpa using hq
  have hr := run_loadVar_row (P := P) w b T ty _ _ d hb hu (by cases d <;> simp_all [isRowT]) (by rw [hi]; simp [intCells])
  have hr' := run_loadVar_row (P := P) w b' T' ty' _ _ d' hb2 hu' (by cases d' <;> simp_all [isRowT]) (by rw [hi']; simp [intCells])
  simp [results, h, e1, e2, e3, asAddr, hr, hr']
theorem step_load_blk {P : Program} {ops : Array Oper} {o : Oper} {a : Act} {w : World} {K : Act → World → Prop} {Q : Exit → Act → World → Prop} {E : Prop} (hgd : o.guard = none) (ty : TypeId) (x : Operand) (ho : o.op = .load ty x)
    (T : TypeId) (b N : Nat) (f : Nat → Int) (d : TypeDesc) (hx : a.eval x = .pointer (some ⟨b, 0, none⟩)) (hb : Blk T w b N f) (hu : P.underlying ty = some d) (hd : isRowT d = true) (hi : (P.info? ty).map (·.size) = some N)
    (h : K (a.put o.dst (.agg (intCells f N).toArray)) w) : if Region.wanted o (yielded ops a.tmps) = true then Oper.wp P o a w K Q else E := by
  have hw : Region.wanted o (yielded ops a.tmps) = true := by simp [Region.wanted, hgd]
  rw [if_pos hw]
  exact wp_load_row ty x ho b hx T _ _ d hb hu (by cases d <;> simp_all [isRowT]) (by rw [hi]; simp [intCells]) h
theorem step_store_blk {P : Program} {ops : Array Oper} {o : Oper} {a : Act} {w : World} {K : Act → World → Prop} {Q : Exit → Act → World → Prop} {E : Prop} (hgd : o.guard = none) (ty : TypeId) (x y : Operand) (ho : o.op = .store ty x y)
    (T : TypeId) (b N : Nat) (f g : Nat → Int) (hx : a.eval x = .pointer (some ⟨b, 0, none⟩)) (hy : a.eval y = .agg (intCells g N).toArray) (hb : Blk T w b N f) (hi : (P.info? ty).map (·.size) = some N)
    (h : ∀ w', Blk T w' b N g → Mid b (b + 1) w w' → K (a.put o.dst undef) w') : if Region.wanted o (yielded ops a.tmps) = true then Oper.wp P o a w K Q else E := by
  have hw : Region.wanted o (yielded ops a.tmps) = true := by simp [Region.wanted, hgd]
  rw [if_pos hw]
  refine wp_store_row ty x y ho b (intCells g N).toArray hx hy T _ hb (by rw [hi]; simp [intCells]) (by simp [intCells]) ?_ ?_
  · rw [Array.all_eq_true_iff_forall_mem]
    intro v hv
    obtain ⟨j, _, rfl⟩ := List.mem_map.1 (List.mem_toArray.1 hv)
    rfl
  · exact h _ (setRow_heap w b _ _ T _ hb) ⟨rfl, rfl, rfl, by simp [World.setRow], fun j hj => setRow_other w b j _ (by omega)⟩
/-- how many numbers readPile hands out -/
def rdN (f : Nat → Int) (n : Nat) (p : Nat → Int) (m : Nat) : Nat := if pilB f n p m = true then n else 0
theorem rdN_yes {f : Nat → Int} {n : Nat} {p : Nat → Int} {m : Nat} (h : pilB f n p m = true) : rdN f n p m = n := if_pos h
theorem rdN_no {f : Nat → Int} {n : Nat} {p : Nat → Int} {m : Nat} (h : pilB f n p m = false) : rdN f n p m = 0 := by unfold rdN; rw [h]; rfl
theorem read_ret {w w' : World} {f p : Nat → Int} {n m b b' : Nat} {B : Bool} {g g' : Nat → Int} {a : Act} (hs : pilB f n p m = B) (hb : Blk 48 w' b 7 g) (hg : ∀ j, j < 7 → g j = sysF f (rdN f n p m) j) (hb2 : Blk 52 w' b' 6 g') (hg2 : ∀ j, j < 6 → g' j = pad p (rdN f n p m) j)
    (hw : Below w.heap.size w w') (h2 : a.tmps.getD 4 undef = .pointer (some ⟨b, 0, none⟩)) (h22 : a.tmps.getD 5 undef = .pointer (some ⟨b', 0, none⟩)) (h3 : a.tmps.getD 6 undef = .bool B) (hd : a.defers = []) :
    bodyPost Try.prog Try.f54 (fun e w' => e = .returned (.tuple #[.agg (arr7 f (rdN f n p m)), .agg (arr6 (pad p (rdN f n p m))), .bool (pilB f n p m)]) ∧ Below w.heap.size w w') .ret a w' := by
  refine bodyPost_ret (results_cell2_tmp Try.results54 _ _ 48 52 b b' 7 6 g g' (.bool B) _ _ h2 h22 h3 hb hb2 Try.underlying48 rfl szSys Try.underlying52 rfl szPile) hd ⟨?_, hw⟩
  unfold arr7 arr6
  rw [hs, intCells_congr hg, intCells_congr hg2]
set_option maxRecDepth 100000 in
set_option maxHeartbeats 2000000 in
theorem readPile_any (a b : Option Addr) (n m c d : Nat) (f p : Nat → Int) (w : World) (h : Ls w a n f) (h' : Ls w b m p) (hn : n ≤ 10000000) (hm : m ≤ 10000000) (hfit : ∀ j, j < n → f j ≤ 9223372036854775807) :
    Calls Try.prog 54 #[.slice a n c, .slice b m d] w fun e w' => e = .returned (.tuple #[.agg (arr7 f (rdN f n p m)), .agg (arr6 (pad p (rdN f n p m))), .bool (pilB f n p m)]) ∧ Below w.heap.size w w' := by
  have H := Lib.hid h; have H' := Lib.hid h'; clear h h'
  have HB0 : Hid (Blk 48 ((w.alloc (.cells zero7 48)).alloc (.cells zero6 52)) w.heap.size 7 (fun _ => 0)) := by show _ = _; rw [← zero7_eq]; exact (two_boxes w zero7 zero6 _ _).1
  have HB1 : Hid (Blk 52 ((w.alloc (.cells zero7 48)).alloc (.cells zero6 52)) (w.heap.size + 1) 6 (fun _ => 0)) := by show _ = _; rw [← zero6_eq]; exact (two_boxes w zero7 zero6 _ _).2
  have HW0 := Lib.hid (two_bel w (.cells zero7 48) (.cells zero6 52))
  have Hs0 : Hid (((w.alloc (.cells zero7 48)).alloc (.cells zero6 52)).heap.size = w.heap.size + 2) := by show _ = _; simp
  have C1 := Lib.hid (systemOf_any a n c f _ (H.out.below HW0.out) hn hfit)
  clear hfit
  have HC : Hid (arr7 f (sysN f n) = (intCells (sysF f (sysN f n)) 7).toArray) := rfl
  obtain ⟨C, hC⟩ : ∃ C, arr7 f (sysN f n) = C := ⟨_, rfl⟩
  rw [hC] at C1 HC
  have HCe := Lib.hid hC
  clear hC
  unfold zero7 zero6 at C1
  go_enter Try.func54, Try.ntmps54
  go_wp2_with fail
  refine C1.out.mono ?_
  rintro e w2 ⟨rfl, g2⟩
  have hg2 : Below ((w.alloc (.cells zero7 48)).alloc (.cells zero6 52)).heap.size ((w.alloc (.cells zero7 48)).alloc (.cells zero6 52)) w2 := g2
  rw [Hs0.out] at hg2
  have HB2 : Hid (Blk 48 w2 w.heap.size 7 (fun _ => 0)) := HB0.out.keep (hg2.block _ (by omega))
  have HB3 : Hid (Blk 52 w2 (w.heap.size + 1) 6 (fun _ => 0)) := HB1.out.keep (hg2.block _ (by omega))
  have HW2 : Hid (Below w.heap.size w w2) := HW0.out.trans (hg2.mono (by omega))
  have hsz2 : w.heap.size + 2 ≤ w2.heap.size := by have := hg2.size; rw [Hs0.out] at this; exact this
  clear g2 hg2
  have HZ : Hid (Blk 48 (w2.alloc (.cells zero7 48)) w2.heap.size 7 (fun _ => 0)) := zero7_blk w2 _
  have HZB : Hid (Blk 48 (w2.alloc (.cells zero7 48)) w.heap.size 7 (fun _ => 0)) := HB2.out.alloc _
  have HZC : Hid (Blk 52 (w2.alloc (.cells zero7 48)) (w.heap.size + 1) 6 (fun _ => 0)) := HB3.out.alloc _
  have HZW : Hid (Below w.heap.size w (w2.alloc (.cells zero7 48))) := HW2.out.alloc (by omega) _
  by_cases hs : sysB f n = true
  · rw [hs]
    have HN : Hid (sysF f (sysN f n) = sysF f n) := by show _ = _; rw [sysN_yes hs]
    have hn6 := (sysB_sys hs).2.1
    have C2 := Lib.hid (fun w1 (g : Below w.heap.size w w1) => pileOf_any f n b m d p w1 (H'.out.below g) hm hn6)
    rw [show arr7 f n = C by rw [← HCe.out, sysN_yes hs]] at C2
    have HD : Hid (arr6 (pad p (numN p m n)) = (intCells (pad p (numN p m n)) 6).toArray) := rfl
    obtain ⟨D, hD⟩ : ∃ D, arr6 (pad p (numN p m n)) = D := ⟨_, rfl⟩
    rw [hD] at C2 HD
    clear hD
    have HPB : Hid (pilB f n p m = numB p m n) := by show _ = _; rw [pilB_eq, hs]; rfl
    clear hs
    go_wp2_with (first
      | ((with_reducible refine here ⟨none, .store 48 (.tmp 7) (.tmp 13), _, _, _, _⟩ ?_)
         refine wpList_store_blk rfl 48 (.tmp 7) (.tmp 13) rfl 48 w2.heap.size 7 (fun _ => 0) (sysF f (sysN f n)) rfl (by rw [← HC.out]; rfl) HZ.out szSys ?_
         intro w4 hb4 hm4
         have HB4 := Lib.hid hb4
         have HB5 : Hid (Blk 48 w4 w.heap.size 7 (fun _ => 0)) := HZB.out.mid hm4 (by omega)
         have HB6 : Hid (Blk 52 w4 (w.heap.size + 1) 6 (fun _ => 0)) := HZC.out.mid hm4 (by omega)
         have HW4 : Hid (Below w.heap.size w w4) := hm4.bel HZW.out (by omega)
         clear hb4 hm4)
      | ((with_reducible refine here ⟨some 20, _, _, _, _, _⟩ ?_)
         refine wpList_load_blk rfl 48 (.tmp 7) rfl 48 w2.heap.size 7 _ _ rfl HB4.out Try.underlying48 rfl szSys ?_
         rw [← HC.out]))
    refine (C2.out _ HW4.out).mono ?_
    rintro e w5 ⟨rfl, g5⟩
    have hlt4 := HB4.out.lt
    have HB7 : Hid (Blk 48 w5 w2.heap.size 7 (sysF f (sysN f n))) := HB4.out.below g5
    have HB8 : Hid (Blk 48 w5 w.heap.size 7 (fun _ => 0)) := HB5.out.below g5
    have HB9 : Hid (Blk 52 w5 (w.heap.size + 1) 6 (fun _ => 0)) := HB6.out.below g5
    have HW5 : Hid (Below w.heap.size w w5) := HW4.out.trans (g5.mono HW4.out.size)
    clear g5 hlt4
    have hlt5 := HB7.out.lt
    have HY : Hid (Blk 52 (w5.alloc (.cells zero6 52)) w5.heap.size 6 (fun _ => 0)) := zero6_blk w5 _
    have HYA : Hid (Blk 48 (w5.alloc (.cells zero6 52)) w2.heap.size 7 (sysF f (sysN f n))) := HB7.out.alloc _
    have HYB : Hid (Blk 48 (w5.alloc (.cells zero6 52)) w.heap.size 7 (fun _ => 0)) := HB8.out.alloc _
    have HYC : Hid (Blk 52 (w5.alloc (.cells zero6 52)) (w.heap.size + 1) 6 (fun _ => 0)) := HB9.out.alloc _
    have HYW : Hid (Below w.heap.size w (w5.alloc (.cells zero6 52))) := HW5.out.alloc (by omega) _
    by_cases hb : numB p m n = true
    · rw [hb]
      have HS : Hid (pilB f n p m = true) := by show _ = _; rw [HPB.out, hb]
      have HNN : Hid (numN p m n = n) := numN_yes hb
      clear hb
      go_wp2_with (first
        | ((with_reducible refine here ⟨none, .store 52 (.tmp 9) (.tmp 23), _, _, _, _⟩ ?_)
           refine wpList_store_blk rfl 52 (.tmp 9) (.tmp 23) rfl 52 w5.heap.size 6 (fun _ => 0) (pad p (numN p m n)) rfl (by rw [← HD.out]; rfl) HY.out szPile ?_
           intro w6 hb6 hm6
           have HE0 := Lib.hid hb6
           have HE1 : Hid (Blk 48 w6 w2.heap.size 7 (sysF f (sysN f n))) := HYA.out.mid hm6 (by omega)
           have HE2 : Hid (Blk 48 w6 w.heap.size 7 (fun _ => 0)) := HYB.out.mid hm6 (by omega)
           have HE3 : Hid (Blk 52 w6 (w.heap.size + 1) 6 (fun _ => 0)) := HYC.out.mid hm6 (by omega)
           have HW6 : Hid (Below w.heap.size w w6) := hm6.bel HYW.out (by omega)
           clear hb6 hm6))
      refine wp_region_any (by kernel_rfl) ?_
      change wpAny _ _ _ _ _ _ _ (World.drew _)
      have HX0 : Hid (Blk 52 w6.drew w5.heap.size 6 (pad p (numN p m n))) := HE0.out
      have HX1 : Hid (Blk 48 w6.drew w2.heap.size 7 (sysF f (sysN f n))) := HE1.out
      have HX2 : Hid (Blk 48 w6.drew w.heap.size 7 (fun _ => 0)) := HE2.out
      have HX3 : Hid (Blk 52 w6.drew (w.heap.size + 1) 6 (fun _ => 0)) := HE3.out
      have HXW : Hid (Below w.heap.size w w6.drew) := HW6.out.drew
      generalize w6.drew = w7 at *
      refine wpAny_ready (rs := [0, 1]) (by kernel_rfl) (by simp) ?_
      refine AllReady.cons rfl (fun K hK => ?_) (AllReady.cons rfl (fun K hK => ?_) AllReady.nil)
      · refine step_load_blk rfl 48 (.tmp 7) rfl 48 w2.heap.size 7 _ _ rfl HX1.out Try.underlying48 rfl szSys ?_
        refine hK _ _ ?_
        clear hK K
        refine wpAny_ready (rs := [1, 2]) (by kernel_rfl) (by simp) ?_
        refine AllReady.cons rfl (fun K hK => ?_) (AllReady.cons rfl (fun K hK => ?_) AllReady.nil)
        · refine step_load_blk rfl 52 (.tmp 9) rfl 52 w5.heap.size 6 _ _ rfl HX0.out Try.underlying52 rfl szPile ?_
          refine hK _ _ ?_
          clear hK K
          refine wpAny_ready (rs := [2]) (by kernel_rfl) (by simp) ?_
          refine AllReady.cons rfl (fun K hK => ?_) AllReady.nil
          refine step_store_blk rfl 48 (.tmp 4) (.tmp 29) rfl 48 w.heap.size 7 (fun _ => 0) (sysF f (sysN f n)) rfl rfl HX2.out szSys ?_
          intro w8 hb8 hm8
          have HY2 := Lib.hid hb8
          have HY0 : Hid (Blk 52 w8 w5.heap.size 6 (pad p (numN p m n))) := HX0.out.mid hm8 (by omega)
          have HY3 : Hid (Blk 52 w8 (w.heap.size + 1) 6 (fun _ => 0)) := HX3.out.mid hm8 (by omega)
          have HYW8 : Hid (Below w.heap.size w w8) := hm8.bel HXW.out (by omega)
          clear hb8 hm8
          refine hK _ _ ?_
          clear hK K
          refine wpAny_ready (rs := [3]) (by kernel_rfl) (by simp) ?_
          refine AllReady.cons rfl (fun K hK => ?_) AllReady.nil
          refine step_store_blk rfl 52 (.tmp 5) (.tmp 30) rfl 52 (w.heap.size + 1) 6 (fun _ => 0) (pad p (numN p m n)) rfl rfl HY3.out szPile ?_
          intro w9 hb9 hm9
          have HZ3 := Lib.hid hb9
          have HZ2 : Hid (Blk 48 w9 w.heap.size 7 (sysF f (sysN f n))) := HY2.out.mid hm9 (by omega)
          have HZW9 : Hid (Below w.heap.size w w9) := hm9.bel HYW8.out (by omega)
          clear hb9 hm9
          refine hK _ _ ?_
          clear hK K
          refine wpAny_ready (rs := [4]) (by kernel_rfl) (by simp) ?_
          refine AllReady.cons rfl (fun K hK => ?_) AllReady.nil
          go_simp
          refine hK _ _ ?_
          clear hK K
          refine wpAny_done (by kernel_rfl) ?_ _
          go_wp2
          exact read_ret HS.out HZ2.out (fun j hj => by rw [rdN_yes HS.out, HN.out]) HZ3.out (fun j hj => by rw [rdN_yes HS.out, HNN.out]) HZW9.out rfl rfl rfl rfl
        · refine step_store_blk rfl 48 (.tmp 4) (.tmp 29) rfl 48 w.heap.size 7 (fun _ => 0) (sysF f (sysN f n)) rfl rfl HX2.out szSys ?_
          intro w8 hb8 hm8
          have HY2 := Lib.hid hb8
          have HY0 : Hid (Blk 52 w8 w5.heap.size 6 (pad p (numN p m n))) := HX0.out.mid hm8 (by omega)
          have HY3 : Hid (Blk 52 w8 (w.heap.size + 1) 6 (fun _ => 0)) := HX3.out.mid hm8 (by omega)
          have HYW8 : Hid (Below w.heap.size w w8) := hm8.bel HXW.out (by omega)
          clear hb8 hm8
          refine hK _ _ ?_
          clear hK K
          refine wpAny_ready (rs := [1]) (by kernel_rfl) (by simp) ?_
          refine AllReady.cons rfl (fun K hK => ?_) AllReady.nil
          refine step_load_blk rfl 52 (.tmp 9) rfl 52 w5.heap.size 6 _ _ rfl HY0.out Try.underlying52 rfl szPile ?_
          refine hK _ _ ?_
          clear hK K
          refine wpAny_ready (rs := [3]) (by kernel_rfl) (by simp) ?_
          refine AllReady.cons rfl (fun K hK => ?_) AllReady.nil
          refine step_store_blk rfl 52 (.tmp 5) (.tmp 30) rfl 52 (w.heap.size + 1) 6 (fun _ => 0) (pad p (numN p m n)) rfl rfl HY3.out szPile ?_
          intro w9 hb9 hm9
          have HZ3 := Lib.hid hb9
          have HZ2 : Hid (Blk 48 w9 w.heap.size 7 (sysF f (sysN f n))) := HY2.out.mid hm9 (by omega)
          have HZW9 : Hid (Below w.heap.size w w9) := hm9.bel HYW8.out (by omega)
          clear hb9 hm9
          refine hK _ _ ?_
          clear hK K
          refine wpAny_ready (rs := [4]) (by kernel_rfl) (by simp) ?_
          refine AllReady.cons rfl (fun K hK => ?_) AllReady.nil
          go_simp
          refine hK _ _ ?_
          clear hK K
          refine wpAny_done (by kernel_rfl) ?_ _
          go_wp2
          exact read_ret HS.out HZ2.out (fun j hj => by rw [rdN_yes HS.out, HN.out]) HZ3.out (fun j hj => by rw [rdN_yes HS.out, HNN.out]) HZW9.out rfl rfl rfl rfl
      · refine step_load_blk rfl 52 (.tmp 9) rfl 52 w5.heap.size 6 _ _ rfl HX0.out Try.underlying52 rfl szPile ?_
        refine hK _ _ ?_
        clear hK K
        refine wpAny_ready (rs := [0]) (by kernel_rfl) (by simp) ?_
        refine AllReady.cons rfl (fun K hK => ?_) AllReady.nil
        refine step_load_blk rfl 48 (.tmp 7) rfl 48 w2.heap.size 7 _ _ rfl HX1.out Try.underlying48 rfl szSys ?_
        refine hK _ _ ?_
        clear hK K
        refine wpAny_ready (rs := [2]) (by kernel_rfl) (by simp) ?_
        refine AllReady.cons rfl (fun K hK => ?_) AllReady.nil
        refine step_store_blk rfl 48 (.tmp 4) (.tmp 29) rfl 48 w.heap.size 7 (fun _ => 0) (sysF f (sysN f n)) rfl rfl HX2.out szSys ?_
        intro w8 hb8 hm8
        have HY2 := Lib.hid hb8
        have HY0 : Hid (Blk 52 w8 w5.heap.size 6 (pad p (numN p m n))) := HX0.out.mid hm8 (by omega)
        have HY3 : Hid (Blk 52 w8 (w.heap.size + 1) 6 (fun _ => 0)) := HX3.out.mid hm8 (by omega)
        have HYW8 : Hid (Below w.heap.size w w8) := hm8.bel HXW.out (by omega)
        clear hb8 hm8
        refine hK _ _ ?_
        clear hK K
        refine wpAny_ready (rs := [3]) (by kernel_rfl) (by simp) ?_
        refine AllReady.cons rfl (fun K hK => ?_) AllReady.nil
        refine step_store_blk rfl 52 (.tmp 5) (.tmp 30) rfl 52 (w.heap.size + 1) 6 (fun _ => 0) (pad p (numN p m n)) rfl rfl HY3.out szPile ?_
        intro w9 hb9 hm9
        have HZ3 := Lib.hid hb9
        have HZ2 : Hid (Blk 48 w9 w.heap.size 7 (sysF f (sysN f n))) := HY2.out.mid hm9 (by omega)
        have HZW9 : Hid (Below w.heap.size w w9) := hm9.bel HYW8.out (by omega)
        clear hb9 hm9
        refine hK _ _ ?_
        clear hK K
        refine wpAny_ready (rs := [4]) (by kernel_rfl) (by simp) ?_
        refine AllReady.cons rfl (fun K hK => ?_) AllReady.nil
        go_simp
        refine hK _ _ ?_
        clear hK K
        refine wpAny_done (by kernel_rfl) ?_ _
        go_wp2
        exact read_ret HS.out HZ2.out (fun j hj => by rw [rdN_yes HS.out, HN.out]) HZ3.out (fun j hj => by rw [rdN_yes HS.out, HNN.out]) HZW9.out rfl rfl rfl rfl
    · have hbf : numB p m n = false := by simpa using hb
      rw [hbf]
      have HS : Hid (pilB f n p m = false) := by show _ = _; rw [HPB.out, hbf]
      clear hb hbf
      go_wp2_with (first
        | ((with_reducible refine here ⟨none, .store 52 (.tmp 9) (.tmp 23), _, _, _, _⟩ ?_)
           refine wpList_store_blk rfl 52 (.tmp 9) (.tmp 23) rfl 52 w5.heap.size 6 (fun _ => 0) (pad p (numN p m n)) rfl (by rw [← HD.out]; rfl) HY.out szPile ?_
           intro w6 hb6 hm6
           have HE2 : Hid (Blk 48 w6 w.heap.size 7 (fun _ => 0)) := HYB.out.mid hm6 (by omega)
           have HE3 : Hid (Blk 52 w6 (w.heap.size + 1) 6 (fun _ => 0)) := HYC.out.mid hm6 (by omega)
           have HW6 : Hid (Below w.heap.size w w6) := hm6.bel HYW.out (by omega)
           clear hb6 hm6)
        | ((with_reducible refine here ⟨none, .store 48 (.tmp 4) (.tmp 27), _, _, _, _⟩ ?_)
           refine wpList_store_blk rfl 48 (.tmp 4) (.tmp 27) rfl 48 w.heap.size 7 (fun _ => 0) (fun _ => 0) rfl rfl HE2.out szSys ?_
           intro w7 hb7 hm7
           have HF7 := Lib.hid hb7
           have HF8 : Hid (Blk 52 w7 (w.heap.size + 1) 6 (fun _ => 0)) := HE3.out.mid hm7 (by omega)
           have HW7 : Hid (Below w.heap.size w w7) := hm7.bel HW6.out (by omega)
           clear hb7 hm7)
        | ((with_reducible refine here ⟨none, .store 52 (.tmp 5) (.tmp 28), _, _, _, _⟩ ?_)
           refine wpList_store_blk rfl 52 (.tmp 5) (.tmp 28) rfl 52 (w.heap.size + 1) 6 (fun _ => 0) (fun _ => 0) rfl rfl HF8.out szPile ?_
           intro w8 hb8 hm8
           have HG9 := Lib.hid hb8
           have HG10 : Hid (Blk 48 w8 w.heap.size 7 (fun _ => 0)) := HF7.out.mid hm8 (by omega)
           have HW8 : Hid (Below w.heap.size w w8) := hm8.bel HW7.out (by omega)
           clear hb8 hm8))
      exact read_ret HS.out HG10.out (fun j hj => by rw [rdN_no HS.out, sysF_none]) HG9.out (fun j hj => by rw [rdN_no HS.out, pad_none]) HW8.out rfl rfl rfl rfl
  · have hsf : sysB f n = false := by simpa using hs
    rw [hsf]
    have HS : Hid (pilB f n p m = false) := by show _ = _; unfold pilB; rw [hsf]; rfl
    clear hs hsf
    go_wp2_with (first
      | ((with_reducible refine here ⟨none, .store 48 (.tmp 7) (.tmp 13), _, _, _, _⟩ ?_)
         refine wpList_store_blk rfl 48 (.tmp 7) (.tmp 13) rfl 48 w2.heap.size 7 (fun _ => 0) (sysF f (sysN f n)) rfl (by rw [← HC.out]; rfl) HZ.out szSys ?_
         intro w4 hb4 hm4
         have HB4 := Lib.hid hb4
         have HB5 : Hid (Blk 48 w4 w.heap.size 7 (fun _ => 0)) := HZB.out.mid hm4 (by omega)
         have HB6 : Hid (Blk 52 w4 (w.heap.size + 1) 6 (fun _ => 0)) := HZC.out.mid hm4 (by omega)
         have HW4 : Hid (Below w.heap.size w w4) := hm4.bel HZW.out (by omega)
         clear hb4 hm4)
      | ((with_reducible refine here ⟨none, .store 48 (.tmp 4) (.tmp 17), _, _, _, _⟩ ?_)
         refine wpList_store_blk rfl 48 (.tmp 4) (.tmp 17) rfl 48 w.heap.size 7 (fun _ => 0) (fun _ => 0) rfl rfl HB5.out szSys ?_
         intro w5 hb5 hm5
         have HB7 := Lib.hid hb5
         have HB8 : Hid (Blk 52 w5 (w.heap.size + 1) 6 (fun _ => 0)) := HB6.out.mid hm5 (by omega)
         have HW5 : Hid (Below w.heap.size w w5) := hm5.bel HW4.out (by omega)
         clear hb5 hm5)
      | ((with_reducible refine here ⟨none, .store 52 (.tmp 5) (.tmp 18), _, _, _, _⟩ ?_)
         refine wpList_store_blk rfl 52 (.tmp 5) (.tmp 18) rfl 52 (w.heap.size + 1) 6 (fun _ => 0) (fun _ => 0) rfl rfl HB8.out szPile ?_
         intro w6 hb6 hm6
         have HB9 := Lib.hid hb6
         have HB10 : Hid (Blk 48 w6 w.heap.size 7 (fun _ => 0)) := HB7.out.mid hm6 (by omega)
         have HW6 : Hid (Below w.heap.size w w6) := hm6.bel HW5.out (by omega)
         clear hb6 hm6))
    exact read_ret HS.out HB10.out (fun j hj => by rw [rdN_no HS.out, sysF_none]) HB9.out (fun j hj => by rw [rdN_no HS.out, pad_none]) HW6.out rfl rfl rfl rfl
end Go.Proofs.Ytbepcmjjgpbgaaa
