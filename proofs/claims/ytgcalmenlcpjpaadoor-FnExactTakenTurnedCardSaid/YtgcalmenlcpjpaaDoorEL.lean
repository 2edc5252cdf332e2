/- The program's six functions of chapter 5 (printed by genf.py). -/
import Derived.Test.YtgcalmenlcpjpaaDoorEK
namespace Go.Proofs.YtgcalmenlcpjpaaDoor
open Go.RowKit
set_option linter.unusedVariables false
set_option linter.unusedSimpArgs false
set_option maxRecDepth 100000
/-- the system's block, and nothing else turned -/
def OneS (w : World) (r2 : Nat) (f : Nat → Int) (n : Nat) (w' : World) : Prop := Blk 41 w' r2 7 (sysF f n) ∧ Below w.heap.size w w'
theorem OneS.below {w w' w'' : World} {r2 : Nat} {f : Nat → Int} {n : Nat} (h : OneS w r2 f n w') (g : Below w'.heap.size w' w'') : OneS w r2 f n w'' := ⟨h.1.below g, h.2.trans (g.mono h.2.size)⟩
/-- the blocks of a system and of a signed pile behind it -/
def TwoS (w : World) (r2 : Nat) (f : Nat → Int) (n : Nat) (V : Nat → Value) (w' : World) : Prop := Blk 41 w' r2 7 (sysF f n) ∧ VRow 50 w' (r2 + 1) 12 V ∧ Below w.heap.size w w'
theorem TwoS.below {w w' w'' : World} {r2 : Nat} {f : Nat → Int} {n : Nat} {V : Nat → Value} (h : TwoS w r2 f n V w') (g : Below w'.heap.size w' w'') : TwoS w r2 f n V w'' := ⟨h.1.below g, h.2.1.below g, h.2.2.trans (g.mono h.2.2.size)⟩
theorem tk_bd {f : Nat → Int} {n : Nat} {N : Int} (h : ofB f n N = true) (j : Nat) : 0 ≤ shP (tkL f (n - 1) 0 N) 0 j ∧ shP (tkL f (n - 1) 0 N) 0 j ≤ 1000000 := by
  obtain ⟨y1, y2, y3⟩ := ofB_spec.1 h
  exact sh_bd (tkL_mem f (n - 1) 0 (sysB_rat y1) N y2 y3) (by omega) 0 j
theorem list_tk {f : Nat → Int} {n : Nat} {N : Int} (h : ofB f n N = true) (w : World) :
    Calls Tryd.prog 44 #[.agg (shA (tkL f (n - 1) 0 N) 0), .agg (arr7 f n)] w (ListR w n (tkF f n N)) := by
  have e : nmb (shP (tkL f (n - 1) 0 N) 0) (shT (tkL f (n - 1) 0 N) 0) = tkF f n N := funext fun j => nmb_sh _ j
  have h2 := slist_any (shP (tkL f (n - 1) 0 N) 0) (shT (tkL f (n - 1) 0 N) 0) f n w (sysB_sys (ofB_spec.1 h).1).2.1 (fun j _ => by have := tk_bd h j; omega)
  rw [e] at h2
  exact h2
theorem row_of {w w1 w2 : World} {r2 bb n : Nat} {f g : Nat → Int} {k : Nat} (h : OneS w r2 f k w1) (h1 : w1.heap.size ≤ bb) (h2 : bb < w2.heap.size) (ho : Own w2 bb n g) (gg : Below w1.heap.size w1 w2) :
    RowR w w2 g n true (.returned (.tuple #[.slice (some ⟨bb, 0, none⟩) n n, .bool true])) :=
  ⟨_, n, n, rfl, (if_pos rfl).symm, .inr ⟨bb, rfl, Nat.le_trans h.2.size h1, h2, ho.row⟩, h.2.trans (gg.mono h.2.size)⟩
theorem row_two {w w1 w2 : World} {r2 bb n : Nat} {f g : Nat → Int} {V : Nat → Value} {k : Nat} (h : TwoS w r2 f k V w1) (h1 : w1.heap.size ≤ bb) (h2 : bb < w2.heap.size) (ho : Own w2 bb n g) (gg : Below w1.heap.size w1 w2) :
    RowR w w2 g n true (.returned (.tuple #[.slice (some ⟨bb, 0, none⟩) n n, .bool true])) :=
  ⟨_, n, n, rfl, (if_pos rfl).symm, .inr ⟨bb, rfl, Nat.le_trans h.2.2.size h1, h2, ho.row⟩, h.2.2.trans (gg.mono h.2.2.size)⟩
theorem size_sh {f : Nat → Int} {n : Nat} {N : Int} (h : ofB f n N = true) (w : World) :
    Calls Tryd.prog 53 #[.agg (arr6 (shP (tkL f (n - 1) 0 N) 0))] w fun e w' => e = .returned (.int .i64 (szL (tkL f (n - 1) 0 N))) ∧ Below w.heap.size w w' := by
  have s := sysB_sys (ofB_spec.1 h).1
  have hl := s.1.len
  have h2 := size_any (shP (tkL f (n - 1) 0 N) 0) w (fun j _ => (tk_bd h j).1) (fun j _ => (tk_bd h j).2)
  rw [sh_size _ 0 (by rw [tkL_len]; omega)] at h2
  exact h2
theorem size_tk {f : Nat → Int} {n k : Nat} (h : sysB f n = true) (hk : k ≤ 2000) (w : World) :
    Calls Tryd.prog 53 #[.agg (arr6 (shP (tkL f (n - 1) 0 (k : Int)) 0))] w fun e w' => e = .returned (.int .i64 (sTk f n k)) ∧ Below w.heap.size w w' :=
  size_sh (ofB_spec.2 ⟨h, by omega, by omega⟩) w
theorem ret_2 {a b : Int} {x y : Bool} (h : a = b) (k : x = y) : Ending.returned (.tuple #[.int .i64 a, .bool x]) = .returned (.tuple #[.int .i64 b, .bool y]) := by rw [h, k]
theorem size_pl {f : Nat → Int} {n : Nat} {N : Int} (h : ofB f n N = true) (w : World) :
    Calls Tryd.prog 53 #[.agg (arr6 (pad (pl f n N) n))] w fun e w' => e = .returned (.int .i64 (szF (pl f n N) n)) ∧ Below w.heap.size w w' := by
  obtain ⟨y1, y2, y3⟩ := ofB_spec.1 h
  obtain ⟨s1, s2, s3⟩ := sysB_sys y1
  have hp : ∀ j, 0 ≤ pad (pl f n N) n j ∧ pad (pl f n N) n j ≤ 1000000 := fun j => by
    unfold pad
    split
    · rename_i hj
      have := pl_nonneg s1 N y2 j hj
      have := pl_le s1 N y2 j hj
      omega
    · omega
  have h2 := size_any (pad (pl f n N) n) w (fun j _ => (hp j).1) (fun j _ => (hp j).2)
  rw [pad_sum, show min 6 n = n by omega] at h2
  have e : sumF (pl f n N) n = szF (pl f n N) n := by
    unfold szF
    exact sumF_congr n fun j hj => (abz_of (pl_nonneg s1 N y2 j hj)).symm
  rw [e] at h2
  exact h2
theorem szL_bd {l : List Int} {M : Int} (h : ∀ x ∈ l, -M ≤ x ∧ x ≤ M) : 0 ≤ szL l ∧ szL l ≤ l.length * M := by
  induction l with
  | nil => simp [szL]
  | cons x l ih =>
    obtain ⟨a, b⟩ := ih (fun y hy => h y (List.mem_cons_of_mem _ hy))
    obtain ⟨c, d⟩ := h x (List.mem_cons_self ..)
    have e2 : ((l.length + 1 : Nat) : Int) * M = l.length * M + M := by rw [Int.natCast_add, Int.add_mul]; simp
    rw [List.length_cons, e2, szL]
    unfold abz
    omega
theorem szL_tk {f : Nat → Int} {n : Nat} {N : Int} (h : ofB f n N = true) : 0 ≤ szL (tkL f (n - 1) 0 N) ∧ szL (tkL f (n - 1) 0 N) ≤ 6000000 := by
  obtain ⟨y1, y2, y3⟩ := ofB_spec.1 h
  obtain ⟨s1, s2, s3⟩ := sysB_sys y1
  have hl := s1.len
  have h2 := szL_bd (tkL_mem f (n - 1) 0 (sysB_rat y1) N y2 y3)
  rw [tkL_len] at h2
  have e : ((n - 1 + 1 : Nat) : Int) ≤ 6 := by omega
  have := Int.mul_le_mul_of_nonneg_right e (show (0 : Int) ≤ 1000000 by decide)
  omega
theorem sTk_bd {f : Nat → Int} {n k : Nat} (h : sysB f n = true) (hk : k ≤ 2000) : 0 ≤ sTk f n k ∧ sTk f n k ≤ 6000000 := szL_tk (ofB_spec.2 ⟨h, by omega, by omega⟩)
theorem tkL_zero (f : Nat → Int) : ∀ k i, szL (tkL f k i 0) = 0
  | 0, _ => by simp [tkL, szL, abz]
  | k + 1, i => by
    unfold tkL
    rw [Int.zero_emod, if_pos rfl, Int.zero_ediv, szL, tkL_zero f k (i + 1)]
    rfl
theorem sTk_zero (f : Nat → Int) (n : Nat) : sTk f n 0 = 0 := tkL_zero f (n - 1) 0
set_option maxHeartbeats 2000000 in
theorem iTakenOf_any (a : Option Addr) (n c : Nat) (f : Nat → Int) (N : Int) (w : World) (h : Ls w a n f) (hn : n ≤ 10000000) (hb : Bnd f n) (hN : IntOk N) (hg : GV w) :
    Calls Tryd.prog 16 #[.slice a n c, .int .i64 N] w fun e w' => RowR w w' (tkF f n N) n (ofB f n N) e := by
  have C1 : Hid (Calls Tryd.prog 41 #[.slice a n c, .int .i64 N, .int .i64 1000000] w (SysR w (arr7 f (swN f n N 1000000)) (swB f n N 1000000))) := Lib.hid (systemWith_any a n c f N 1000000 w h hn (fun j hj => (hb j hj).2))
  have HG := Lib.hid hg
  have HX := Lib.hid (fun s w (g : GV w) => none_err s w g)
  clear h hb hg
  cases hB : ofB f n N with
  | false =>
    have C2 := Lib.hid (C1.out.mono fun _ _ h => h.no hB)
    have HR : Hid (arr7 f (swN f n N 1000000) = (intCells (sysF f (swN f n N 1000000)) 7).toArray) := Lib.hid rfl
    clear C1 hB
    generalize arr7 f (swN f n N 1000000) = R at *
    go_enter Tryd.func16, Tryd.ntmps16
    go_wp2_with fail
    refine C2.out.mono ?_
    rintro e w2 ⟨s, rfl, g2⟩
    have HW2 := Lib.hid g2
    have hlt2 := g2.size
    clear g2
    have HV : Hid (Blk 41 (w2.alloc (.cells zero7 41)) w2.heap.size 7 (fun _ => 0)) := zero7_blk w2 _
    have HVW : Hid (Below w.heap.size w (w2.alloc (.cells zero7 41))) := HW2.out.alloc hlt2 _
    have HXE := Lib.hid (HX.out s)
    clear HX
    generalize errV s = E at *
    go_wp2_with (first
      | ((with_reducible refine here ⟨none, .store 41 (.tmp 6) (.tmp 12), _, _, _, _⟩ ?_)
         refine wpList_store_blk rfl 41 (.tmp 6) (.tmp 12) rfl 41 w2.heap.size 7 (fun _ => 0) (sysF f (swN f n N 1000000)) rfl (by rw [← HR.out]; rfl) HV.out szSys ?_
         intro w4 hb4 hm4
         have HW4 : Hid (Below w.heap.size w w4) := hm4.bel HVW.out (by omega); clear hb4 hm4))
    refine (HXE.out _ (HG.out.step HW4.out)).mono ?_
    rintro e w5 ⟨rfl, g5⟩
    have HW5 : Hid (Below w.heap.size w w5) := Lib.hid (HW4.out.trans (g5.mono HW4.out.size))
    clear g5
    go_wp2_with fail
    go_ret2
    exact ⟨none, 0, 0, rfl, rfl, Rsp.none_ _ _ _ _ _, HW5.out⟩
  | true =>
    have hsN : swN f n N 1000000 = n := if_pos hB
    have C2 := Lib.hid (C1.out.mono fun _ _ h => h.yes hB)
    rw [hsN] at C2
    have HR : Hid (arr7 f n = (intCells (sysF f n) 7).toArray) := Lib.hid rfl
    have HYv : Hid ((vals (fun j => (fun k => Value.int .i64 (sysF f n k)) (0 + j)) 7).toArray = arr7 f n) := Lib.hid (by simp only [Nat.zero_add]; rfl)
    obtain ⟨y1, y2, y3⟩ := ofB_spec.1 hB
    obtain ⟨s1, s2, s3⟩ := sysB_sys y1
    have HSh := Lib.hid (fun w => shortOf_any f n N w s1 s2 s3 y2 y3)
    have HLi := Lib.hid (fun w => list_tk (f := f) (n := n) (N := N) hB w)
    clear y1 y2 y3 s1 s3
    clear C1 hB hsN HX HG
    generalize arr7 f n = R at *
    have HsA : Hid (shA (tkL f (n - 1) 0 N) 0 = sgA (shP (tkL f (n - 1) 0 N) 0) (shT (tkL f (n - 1) 0 N) 0)) := Lib.hid rfl
    generalize shA (tkL f (n - 1) 0 N) 0 = A at *
    go_enter Tryd.func16, Tryd.ntmps16
    go_wp2_with fail
    refine C2.out.mono ?_
    rintro e w2 ⟨rfl, g2⟩
    have HW2 := Lib.hid g2
    have hlt2 := g2.size
    clear g2
    have HV : Hid (Blk 41 (w2.alloc (.cells zero7 41)) w2.heap.size 7 (fun _ => 0)) := zero7_blk w2 _
    have HVW : Hid (Below w.heap.size w (w2.alloc (.cells zero7 41))) := HW2.out.alloc hlt2 _
    go_wp2_with (first
      | ((with_reducible refine here ⟨none, .store 41 (.tmp 6) (.tmp 12), _, _, _, _⟩ ?_)
         refine wpList_store_blk rfl 41 (.tmp 6) (.tmp 12) rfl 41 w2.heap.size 7 (fun _ => 0) (sysF f n) rfl (by rw [← HR.out]; rfl) HV.out szSys ?_
         intro w4 hb4 hm4
         have HB4 := Lib.hid hb4; have HW4 : Hid (Below w.heap.size w w4) := hm4.bel HVW.out (by omega); clear hb4 hm4))
    refine (none_nil _).mono ?_
    rintro e w5 ⟨rfl, g5⟩
    have HY5 : Hid (OneS w w2.heap.size f n w5) := Lib.hid ⟨HB4.out.below g5, HW4.out.trans (g5.mono HW4.out.size)⟩
    clear g5
    generalize w2.heap.size = r2 at *
    go_wp2_with fail
    have HYv0 : Hid (OneS w r2 f n (World.drew w5)) := Lib.hid (HY5.out.below ((Below.refl _ _).drew))
    refine wp_region_held_drew (S := OneS w r2 f n) (by kernel_rfl) HYv0.out (fun hH => ?_)
    generalize World.drew w5 = v0 at *
    refine wpAnyH_take (i := 0) rfl (by kernel_rfl) (by kernel_rfl) (by kernel_rfl) (fun _ _ _ h => h) (yields_load_as rfl 41 (.tmp 6) rfl 41 r2 7 0 7 (fun k => .int .i64 (sysF f n k)) _ R HYv.out rfl (fun _ h => h.1) (by omega) Tryd.underlying41 rfl szSys) hH ?_
    try simp only [Act.put, List.setIfInBounds_toArray, List.set_cons_zero, List.set_cons_succ]
    refine wpAnyH_take (i := 1) (v := ?_) rfl (by kernel_rfl) (by kernel_rfl) (by kernel_rfl) (fun _ _ _ h => h) (Or.inl ⟨by rfl, ?_⟩) hH ?_
    rotate_left
    · intro w _; go_simp; try with_reducible rfl
    try simp only [Act.put, List.setIfInBounds_toArray, List.set_cons_zero, List.set_cons_succ]
    refine wpAnyH_take (i := 3) rfl (by kernel_rfl) (by kernel_rfl) (by kernel_rfl) (fun _ _ _ h => h) (yields_load_as rfl 41 (.tmp 6) rfl 41 r2 7 0 7 (fun k => .int .i64 (sysF f n k)) _ R HYv.out rfl (fun _ h => h.1) (by omega) Tryd.underlying41 rfl szSys) hH ?_
    try simp only [Act.put, List.setIfInBounds_toArray, List.set_cons_zero, List.set_cons_succ]
    refine wpAnyH_ready (rs := [2]) (by kernel_rfl) (by simp) ?_
    refine AllReadyH.cons rfl (fun K hK => ?_) AllReadyH.nil
    go_simp
    refine (HSh.out _).mono ?_
    rintro e v1 ⟨rfl, gg⟩
    have HYv1 := Lib.hid (HYv0.out.below gg)
    clear gg
    refine hK.out _ _ HYv1.out (fun hH => ?_)
    clear hK K
    try simp only [Act.put, List.setIfInBounds_toArray, List.set_cons_zero, List.set_cons_succ]
    refine wpAnyH_ready (rs := [4]) (by kernel_rfl) (by simp) ?_
    refine AllReadyH.cons rfl (fun K hK => ?_) AllReadyH.nil
    go_simp
    refine (HLi.out _).mono ?_
    rintro e v2 ⟨bb, rfl, hb1, hb2, hown, gg⟩
    have HYv2 := Lib.hid (HYv1.out.below gg)
    have HOv2 : Hid (RowR w v2 (tkF f n N) n true (.returned (.tuple #[.slice (some ⟨bb, 0, none⟩) n n, .bool true]))) := Lib.hid (row_of HYv1.out hb1 hb2 hown gg)
    clear hb1 hb2 hown
    clear gg
    refine hK.out _ _ HYv2.out (fun hH => ?_)
    clear hK K
    try simp only [Act.put, List.setIfInBounds_toArray, List.set_cons_zero, List.set_cons_succ]
    refine wpAnyH_ready (rs := [5]) (by kernel_rfl) (by simp) ?_
    refine AllReadyH.cons rfl (fun K hK => ?_) AllReadyH.nil
    go_simp
    refine hK.out _ _ HYv2.out (fun hH => ?_)
    clear hK K
    try simp only [Act.put, List.setIfInBounds_toArray, List.set_cons_zero, List.set_cons_succ]
    refine wpAnyH_ready (rs := [6]) (by kernel_rfl) (by simp) ?_
    refine AllReadyH.cons rfl (fun K hK => ?_) AllReadyH.nil
    go_simp
    refine hK.out _ _ HYv2.out (fun hH => ?_)
    clear hK K
    try simp only [Act.put, List.setIfInBounds_toArray, List.set_cons_zero, List.set_cons_succ]
    refine wpAnyH_done (by kernel_rfl) ?_ _
    clear hH
    go_wp2
    go_ret2
    exact HOv2.out
set_option maxHeartbeats 2000000 in
theorem iTakenValue_any (a b : Option Addr) (n m c d : Nat) (f p : Nat → Int) (w : World) (h : Ls w a n f) (h' : Ls w b m p) (hn : n ≤ 10000000) (hm : m ≤ 10000000) (hb : Bnd f n) (hp : Bnd p m) (hg : GV w) :
    Calls Tryd.prog 19 #[.slice a n c, .slice b m d] w fun e w' => e = .returned (.tuple #[.int .i64 (tvR f n p m), .bool (tvB f n p m)]) ∧ Below w.heap.size w w' := by
  have C1 := Lib.hid (readSigned_any a b n m c d f p w h h' hn hm (fun j hj => (hb j hj).2) hp)
  have HG := Lib.hid hg
  have HX := Lib.hid (fun s w (g : GV w) => none_err s w g)
  clear h h' hb hp hg
  cases hB : sgnB f n p m with
  | false =>
    have C2 := Lib.hid (C1.out.mono fun _ _ h => h.no hB)
    have HR : Hid (arr7 f (rsN f n p m) = (intCells (sysF f (rsN f n p m)) 7).toArray) := Lib.hid rfl
    have HA : Hid (rsA f n p m = (vals (sgV (pad (fun j => gA (p j)) (rsN f n p m)) (mrk p (rsN f n p m))) 12).toArray) := Lib.hid rfl
    have SgO := Lib.hid (sgV_one (pad (fun j => gA (p j)) (rsN f n p m)) (mrk p (rsN f n p m)))
    have HT : Hid (tvB f n p m = false) := Lib.hid (by unfold tvB; rw [hB]; rfl)
    have HM : Hid (tvR f n p m = 0) := Lib.hid (by unfold tvR; rw [HT.out]; rfl)
    rw [HM.out, HT.out]
    clear C1 hB
    generalize sgV (pad (fun j => gA (p j)) (rsN f n p m)) (mrk p (rsN f n p m)) = V at *
    generalize arr7 f (rsN f n p m) = R at *
    generalize rsA f n p m = A at *
    go_enter Tryd.func19, Tryd.ntmps19
    go_wp2_with fail
    refine C2.out.mono ?_
    rintro e w2 ⟨s, rfl, g2⟩
    have HW2 := Lib.hid g2
    have hlt2 := g2.size
    clear g2
    obtain ⟨w3, hw3, hv3, hz3, hl3, hs3⟩ := boxes w2 zero7 zero12 41 50
    have HV3 : Hid (Blk 41 w3 w2.heap.size 7 (fun _ => 0)) := Lib.hid (by rw [zero7_eq] at hv3; exact hv3)
    have HZ3 : Hid (Sg w3 (w2.heap.size + 1) (fun _ => 0) (fun _ => false)) := Lib.hid (by rw [zero12_eq] at hz3; exact hz3)
    have HW3 : Hid (Below w.heap.size w w3) := Lib.hid (HW2.out.trans (hl3.mono hlt2))
    clear hv3 hz3 hl3 hs3
    unfold zero7 zero12 at hw3
    have Hw3 := Lib.hid hw3
    clear hw3
    have HXE := Lib.hid (HX.out s)
    clear HX
    generalize errV s = E at *
    go_wp2_with (first
      | ((with_reducible refine here ⟨none, .store 41 (.tmp 6) (.tmp 14), _, _, _, _⟩ ?_)
         rw [← Hw3.out]
         refine wpList_store_blk rfl 41 (.tmp 6) (.tmp 14) rfl 41 w2.heap.size 7 (fun _ => 0) (sysF f (rsN f n p m)) rfl (by rw [← HR.out]; rfl) HV3.out szSys ?_
         intro w4 hb4 hm4
         have HB4 := Lib.hid hb4; have HZ4 := Lib.hid (VRow.mid HZ3.out hm4 (by omega)); have HW4 : Hid (Below w.heap.size w w4) := hm4.bel HW3.out (by omega); clear hb4 hm4)
      | ((with_reducible refine here ⟨none, .store 50 (.tmp 7) (.tmp 15), _, _, _, _⟩ ?_)
         refine wpList_store_vals rfl 50 (.tmp 7) (.tmp 15) rfl 50 (w2.heap.size + 1) 12 0 12 _ V rfl (by rw [← HA.out]; rfl) HZ4.out (by omega) szSg (SgO.out 12) ?_
         intro w5 hb5 hm5
         have HX5 : Hid (VRow 50 w5 (w2.heap.size + 1) 12 V) := Lib.hid (hb5.congr (fun j hj => ovr_all _ _ 12 j hj)); have HB5 := Lib.hid (HB4.out.mid hm5 (by omega)); have HW5 : Hid (Below w.heap.size w w5) := hm5.bel HW4.out (by omega); clear hb5 hm5))
    refine (HXE.out _ (HG.out.step HW5.out)).mono ?_
    rintro e w6 ⟨rfl, g6⟩
    have HW6 : Hid (Below w.heap.size w w6) := Lib.hid (HW5.out.trans (g6.mono HW5.out.size))
    clear g6
    go_wp2_with fail
    go_ret2
    exact ⟨rfl, HW6.out⟩
  | true =>
    have C2 := Lib.hid (C1.out.mono fun _ _ h => h.yes hB)
    rw [(rs_yes hB).1, (rs_yes hB).2] at C2
    obtain ⟨q1, hmn, q2⟩ := sgnB_spec.1 hB
    subst hmn
    obtain ⟨s1, s2, s3⟩ := sysB_sys q1
    have HR : Hid (arr7 f m = (intCells (sysF f m) 7).toArray) := Lib.hid rfl
    have HA : Hid (sgA (pad (fun j => gA (p j)) m) (mrk p m) = (vals (sgV (pad (fun j => gA (p j)) m) (mrk p m)) 12).toArray) := Lib.hid rfl
    have HA2 : Hid ((vals (fun j => sgV (pad (fun j => gA (p j)) m) (mrk p m) (0 + j)) 12).toArray = sgA (pad (fun j => gA (p j)) m) (mrk p m)) := Lib.hid (sg_all _ _)
    have HA3 := Lib.hid (sg_num6 (pad (fun j => gA (p j)) m) (mrk p m))
    have HYv : Hid ((vals (fun j => (fun k => Value.int .i64 (sysF f m k)) (0 + j)) 7).toArray = arr7 f m) := Lib.hid (by simp only [Nat.zero_add]; rfl)
    have SgO := Lib.hid (sgV_one (pad (fun j => gA (p j)) m) (mrk p m))
    have HPd := Lib.hid (pad_gA q2)
    have HVl := Lib.hid (fun w => svalue_any (pad (fun j => gA (p j)) m) (mrk p m) f m w s1 s2 s3 (fun j _ => by have := HPd.out j; omega))
    have evl : val f (nmb (pad (fun j => gA (p j)) m) (mrk p m)) m = val f p m := val_congr fun j hj => nmb_sg hj (q2 j hj)
    rw [evl] at HVl
    have etv : tvB f m p m = rngB (val f p m) := by unfold tvB rngB; rw [hB]; rfl
    have HM : Hid (tvR f m p m = rngR (val f p m)) := Lib.hid (by unfold tvR rngR; rw [etv])
    have HT := Lib.hid etv
    rw [HM.out, HT.out]
    clear evl etv
    clear C1 hB q1 s1 s3 HX
    generalize sgV (pad (fun j => gA (p j)) m) (mrk p m) = V at *
    generalize sgA (pad (fun j => gA (p j)) m) (mrk p m) = A at *
    generalize arr7 f m = R at *
    generalize rngB (val f p m) = B at *
    generalize rngR (val f p m) = X at *
    go_enter Tryd.func19, Tryd.ntmps19
    go_wp2_with fail
    refine C2.out.mono ?_
    rintro e w2 ⟨rfl, g2⟩
    have HW2 := Lib.hid g2
    have hlt2 := g2.size
    clear g2
    obtain ⟨w3, hw3, hv3, hz3, hl3, hs3⟩ := boxes w2 zero7 zero12 41 50
    have HV3 : Hid (Blk 41 w3 w2.heap.size 7 (fun _ => 0)) := Lib.hid (by rw [zero7_eq] at hv3; exact hv3)
    have HZ3 : Hid (Sg w3 (w2.heap.size + 1) (fun _ => 0) (fun _ => false)) := Lib.hid (by rw [zero12_eq] at hz3; exact hz3)
    have HW3 : Hid (Below w.heap.size w w3) := Lib.hid (HW2.out.trans (hl3.mono hlt2))
    clear hv3 hz3 hl3 hs3
    unfold zero7 zero12 at hw3
    have Hw3 := Lib.hid hw3
    clear hw3
    go_wp2_with (first
      | ((with_reducible refine here ⟨none, .store 41 (.tmp 6) (.tmp 14), _, _, _, _⟩ ?_)
         rw [← Hw3.out]
         refine wpList_store_blk rfl 41 (.tmp 6) (.tmp 14) rfl 41 w2.heap.size 7 (fun _ => 0) (sysF f m) rfl (by rw [← HR.out]; rfl) HV3.out szSys ?_
         intro w4 hb4 hm4
         have HB4 := Lib.hid hb4; have HZ4 := Lib.hid (VRow.mid HZ3.out hm4 (by omega)); have HW4 : Hid (Below w.heap.size w w4) := hm4.bel HW3.out (by omega); clear hb4 hm4)
      | ((with_reducible refine here ⟨none, .store 50 (.tmp 7) (.tmp 15), _, _, _, _⟩ ?_)
         refine wpList_store_vals rfl 50 (.tmp 7) (.tmp 15) rfl 50 (w2.heap.size + 1) 12 0 12 _ V rfl (by rw [← HA.out]; rfl) HZ4.out (by omega) szSg (SgO.out 12) ?_
         intro w5 hb5 hm5
         have HX5 : Hid (VRow 50 w5 (w2.heap.size + 1) 12 V) := Lib.hid (hb5.congr (fun j hj => ovr_all _ _ 12 j hj)); have HB5 := Lib.hid (HB4.out.mid hm5 (by omega)); have HW5 : Hid (Below w.heap.size w w5) := hm5.bel HW4.out (by omega); clear hb5 hm5))
    refine (none_nil _).mono ?_
    rintro e w6 ⟨rfl, g6⟩
    have HY6 : Hid (TwoS w w2.heap.size f m V w6) := Lib.hid ⟨HB5.out.below g6, HX5.out.below g6, HW5.out.trans (g6.mono HW5.out.size)⟩
    clear g6
    generalize w2.heap.size = r2 at *
    go_wp2_with (first
      | ((with_reducible refine here ⟨some 20, _, _, _, _, _⟩ ?_)
         refine wpList_load_vals rfl 50 (.tmp 7) rfl 50 (r2 + 1) 12 0 12 _ _ rfl HY6.out.2.1 (by omega) Tryd.underlying50 rfl szSg ?_
         rw [HA2.out])
      | ((with_reducible refine here ⟨some 21, _, _, _, _, _⟩ ?_)
         refine wpList_load_blk rfl 41 (.tmp 6) rfl 41 r2 7 _ _ rfl HY6.out.1 Tryd.underlying41 rfl szSys ?_
         rw [← HR.out]))
    refine (HVl.out _).mono ?_
    rintro e w7 ⟨E, rfl, hE, g7⟩
    have HY7 := Lib.hid (HY6.out.below g7)
    have HN := Lib.hid (fun w (g : GV w) => hasNoValue_any B E w hE g)
    clear g7 hE
    go_wp2_with fail
    refine (HN.out _ (HG.out.step HY7.out.2.2)).mono ?_
    rintro e w8 ⟨rfl, g8⟩
    have HY8 := Lib.hid (HY7.out.below g8)
    clear g8
    cases B
    all_goals
      go_wp2_with fail
      go_ret2
      exact ⟨rfl, HY8.out.2.2⟩
set_option maxHeartbeats 2000000 in
theorem iTakenSize_any (a b : Option Addr) (n m c d : Nat) (f p : Nat → Int) (w : World) (h : Ls w a n f) (h' : Ls w b m p) (hn : n ≤ 10000000) (hm : m ≤ 10000000) (hb : Bnd f n) (hp : Bnd p m) (hg : GV w) :
    Calls Tryd.prog 22 #[.slice a n c, .slice b m d] w fun e w' => e = .returned (.tuple #[.int .i64 (tzR f n p m), .bool (sgnB f n p m)]) ∧ Below w.heap.size w w' := by
  have C1 := Lib.hid (readSigned_any a b n m c d f p w h h' hn hm (fun j hj => (hb j hj).2) hp)
  have HG := Lib.hid hg
  have HX := Lib.hid (fun s w (g : GV w) => none_err s w g)
  clear h h' hb hp hg
  cases hB : sgnB f n p m with
  | false =>
    have C2 := Lib.hid (C1.out.mono fun _ _ h => h.no hB)
    have HR : Hid (arr7 f (rsN f n p m) = (intCells (sysF f (rsN f n p m)) 7).toArray) := Lib.hid rfl
    have HA : Hid (rsA f n p m = (vals (sgV (pad (fun j => gA (p j)) (rsN f n p m)) (mrk p (rsN f n p m))) 12).toArray) := Lib.hid rfl
    have SgO := Lib.hid (sgV_one (pad (fun j => gA (p j)) (rsN f n p m)) (mrk p (rsN f n p m)))
    have HM : Hid (tzR f n p m = 0) := Lib.hid (by unfold tzR; rw [hB]; rfl)
    rw [HM.out]
    clear C1 hB
    generalize sgV (pad (fun j => gA (p j)) (rsN f n p m)) (mrk p (rsN f n p m)) = V at *
    generalize arr7 f (rsN f n p m) = R at *
    generalize rsA f n p m = A at *
    go_enter Tryd.func22, Tryd.ntmps22
    go_wp2_with fail
    refine C2.out.mono ?_
    rintro e w2 ⟨s, rfl, g2⟩
    have HW2 := Lib.hid g2
    have hlt2 := g2.size
    clear g2
    obtain ⟨w3, hw3, hv3, hz3, hl3, hs3⟩ := boxes w2 zero7 zero12 41 50
    have HV3 : Hid (Blk 41 w3 w2.heap.size 7 (fun _ => 0)) := Lib.hid (by rw [zero7_eq] at hv3; exact hv3)
    have HZ3 : Hid (Sg w3 (w2.heap.size + 1) (fun _ => 0) (fun _ => false)) := Lib.hid (by rw [zero12_eq] at hz3; exact hz3)
    have HW3 : Hid (Below w.heap.size w w3) := Lib.hid (HW2.out.trans (hl3.mono hlt2))
    clear hv3 hz3 hl3 hs3
    unfold zero7 zero12 at hw3
    have Hw3 := Lib.hid hw3
    clear hw3
    have HXE := Lib.hid (HX.out s)
    clear HX
    generalize errV s = E at *
    go_wp2_with (first
      | ((with_reducible refine here ⟨none, .store 41 (.tmp 6) (.tmp 13), _, _, _, _⟩ ?_)
         rw [← Hw3.out]
         refine wpList_store_blk rfl 41 (.tmp 6) (.tmp 13) rfl 41 w2.heap.size 7 (fun _ => 0) (sysF f (rsN f n p m)) rfl (by rw [← HR.out]; rfl) HV3.out szSys ?_
         intro w4 hb4 hm4
         have HB4 := Lib.hid hb4; have HZ4 := Lib.hid (VRow.mid HZ3.out hm4 (by omega)); have HW4 : Hid (Below w.heap.size w w4) := hm4.bel HW3.out (by omega); clear hb4 hm4)
      | ((with_reducible refine here ⟨none, .store 50 (.tmp 7) (.tmp 14), _, _, _, _⟩ ?_)
         refine wpList_store_vals rfl 50 (.tmp 7) (.tmp 14) rfl 50 (w2.heap.size + 1) 12 0 12 _ V rfl (by rw [← HA.out]; rfl) HZ4.out (by omega) szSg (SgO.out 12) ?_
         intro w5 hb5 hm5
         have HX5 : Hid (VRow 50 w5 (w2.heap.size + 1) 12 V) := Lib.hid (hb5.congr (fun j hj => ovr_all _ _ 12 j hj)); have HB5 := Lib.hid (HB4.out.mid hm5 (by omega)); have HW5 : Hid (Below w.heap.size w w5) := hm5.bel HW4.out (by omega); clear hb5 hm5))
    refine (HXE.out _ (HG.out.step HW5.out)).mono ?_
    rintro e w6 ⟨rfl, g6⟩
    have HW6 : Hid (Below w.heap.size w w6) := Lib.hid (HW5.out.trans (g6.mono HW5.out.size))
    clear g6
    go_wp2_with fail
    go_ret2
    exact ⟨rfl, HW6.out⟩
  | true =>
    have C2 := Lib.hid (C1.out.mono fun _ _ h => h.yes hB)
    rw [(rs_yes hB).1, (rs_yes hB).2] at C2
    obtain ⟨q1, hmn, q2⟩ := sgnB_spec.1 hB
    subst hmn
    obtain ⟨s1, s2, s3⟩ := sysB_sys q1
    have HR : Hid (arr7 f m = (intCells (sysF f m) 7).toArray) := Lib.hid rfl
    have HA : Hid (sgA (pad (fun j => gA (p j)) m) (mrk p m) = (vals (sgV (pad (fun j => gA (p j)) m) (mrk p m)) 12).toArray) := Lib.hid rfl
    have HA2 : Hid ((vals (fun j => sgV (pad (fun j => gA (p j)) m) (mrk p m) (0 + j)) 12).toArray = sgA (pad (fun j => gA (p j)) m) (mrk p m)) := Lib.hid (sg_all _ _)
    have HA3 := Lib.hid (sg_num6 (pad (fun j => gA (p j)) m) (mrk p m))
    have HYv : Hid ((vals (fun j => (fun k => Value.int .i64 (sysF f m k)) (0 + j)) 7).toArray = arr7 f m) := Lib.hid (by simp only [Nat.zero_add]; rfl)
    have SgO := Lib.hid (sgV_one (pad (fun j => gA (p j)) m) (mrk p m))
    have HPd := Lib.hid (pad_gA q2)
    have HZ := Lib.hid (fun w => size_any (pad (fun j => gA (p j)) m) w (fun j _ => (HPd.out j).1) (fun j _ => (HPd.out j).2))
    rw [sum_gA s2 q2] at HZ
    have HM : Hid (tzR f m p m = szF p m) := Lib.hid (by unfold tzR; rw [hB]; rfl)
    rw [HM.out]
    clear C1 hB q1 s1 s3 HX
    generalize sgV (pad (fun j => gA (p j)) m) (mrk p m) = V at *
    generalize sgA (pad (fun j => gA (p j)) m) (mrk p m) = A at *
    generalize arr7 f m = R at *
    generalize arr6 (pad (fun j => gA (p j)) m) = NA at *
    go_enter Tryd.func22, Tryd.ntmps22
    go_wp2_with fail
    refine C2.out.mono ?_
    rintro e w2 ⟨rfl, g2⟩
    have HW2 := Lib.hid g2
    have hlt2 := g2.size
    clear g2
    obtain ⟨w3, hw3, hv3, hz3, hl3, hs3⟩ := boxes w2 zero7 zero12 41 50
    have HV3 : Hid (Blk 41 w3 w2.heap.size 7 (fun _ => 0)) := Lib.hid (by rw [zero7_eq] at hv3; exact hv3)
    have HZ3 : Hid (Sg w3 (w2.heap.size + 1) (fun _ => 0) (fun _ => false)) := Lib.hid (by rw [zero12_eq] at hz3; exact hz3)
    have HW3 : Hid (Below w.heap.size w w3) := Lib.hid (HW2.out.trans (hl3.mono hlt2))
    clear hv3 hz3 hl3 hs3
    unfold zero7 zero12 at hw3
    have Hw3 := Lib.hid hw3
    clear hw3
    go_wp2_with (first
      | ((with_reducible refine here ⟨none, .store 41 (.tmp 6) (.tmp 13), _, _, _, _⟩ ?_)
         rw [← Hw3.out]
         refine wpList_store_blk rfl 41 (.tmp 6) (.tmp 13) rfl 41 w2.heap.size 7 (fun _ => 0) (sysF f m) rfl (by rw [← HR.out]; rfl) HV3.out szSys ?_
         intro w4 hb4 hm4
         have HB4 := Lib.hid hb4; have HZ4 := Lib.hid (VRow.mid HZ3.out hm4 (by omega)); have HW4 : Hid (Below w.heap.size w w4) := hm4.bel HW3.out (by omega); clear hb4 hm4)
      | ((with_reducible refine here ⟨none, .store 50 (.tmp 7) (.tmp 14), _, _, _, _⟩ ?_)
         refine wpList_store_vals rfl 50 (.tmp 7) (.tmp 14) rfl 50 (w2.heap.size + 1) 12 0 12 _ V rfl (by rw [← HA.out]; rfl) HZ4.out (by omega) szSg (SgO.out 12) ?_
         intro w5 hb5 hm5
         have HX5 : Hid (VRow 50 w5 (w2.heap.size + 1) 12 V) := Lib.hid (hb5.congr (fun j hj => ovr_all _ _ 12 j hj)); have HB5 := Lib.hid (HB4.out.mid hm5 (by omega)); have HW5 : Hid (Below w.heap.size w w5) := hm5.bel HW4.out (by omega); clear hb5 hm5))
    refine (none_nil _).mono ?_
    rintro e w6 ⟨rfl, g6⟩
    have HY6 : Hid (TwoS w w2.heap.size f m V w6) := Lib.hid ⟨HB5.out.below g6, HX5.out.below g6, HW5.out.trans (g6.mono HW5.out.size)⟩
    clear g6
    generalize w2.heap.size = r2 at *
    go_wp2_with (first
      | ((with_reducible refine here ⟨some 19, _, _, _, _, _⟩ ?_)
         refine wpList_load_vals rfl 47 (.tmp 18) rfl 50 (r2 + 1) 12 0 6 _ _ rfl HY6.out.2.1 (by omega) Tryd.underlying47 rfl szPile ?_
         rw [HA3.out]))
    refine (HZ.out _).mono ?_
    rintro e w7 ⟨rfl, g7⟩
    have HY7 := Lib.hid (HY6.out.below g7)
    clear g7
    go_wp2_with fail
    go_ret2
    exact ⟨rfl, HY7.out.2.2⟩
set_option maxHeartbeats 2000000 in
theorem iTakenSaved_any (a : Option Addr) (n c : Nat) (f : Nat → Int) (N : Int) (w : World) (h : Ls w a n f) (hn : n ≤ 10000000) (hb : Bnd f n) (hN : IntOk N) (hg : GV w) :
    Calls Tryd.prog 27 #[.slice a n c, .int .i64 N] w fun e w' => e = .returned (.tuple #[.int .i64 (svR f n N), .bool (ofB f n N)]) ∧ Below w.heap.size w w' := by
  have C1 : Hid (Calls Tryd.prog 41 #[.slice a n c, .int .i64 N, .int .i64 1000000] w (SysR w (arr7 f (swN f n N 1000000)) (swB f n N 1000000))) := Lib.hid (systemWith_any a n c f N 1000000 w h hn (fun j hj => (hb j hj).2))
  have HG := Lib.hid hg
  have HX := Lib.hid (fun s w (g : GV w) => none_err s w g)
  clear h hb hg
  cases hB : ofB f n N with
  | false =>
    have C2 := Lib.hid (C1.out.mono fun _ _ h => h.no hB)
    have HR : Hid (arr7 f (swN f n N 1000000) = (intCells (sysF f (swN f n N 1000000)) 7).toArray) := Lib.hid rfl
    have HM : Hid (svR f n N = 0) := Lib.hid (by unfold svR; rw [hB]; rfl)
    rw [HM.out]
    clear C1 hB
    generalize arr7 f (swN f n N 1000000) = R at *
    go_enter Tryd.func27, Tryd.ntmps27
    go_wp2_with fail
    refine C2.out.mono ?_
    rintro e w2 ⟨s, rfl, g2⟩
    have HW2 := Lib.hid g2
    have hlt2 := g2.size
    clear g2
    have HV : Hid (Blk 41 (w2.alloc (.cells zero7 41)) w2.heap.size 7 (fun _ => 0)) := zero7_blk w2 _
    have HVW : Hid (Below w.heap.size w (w2.alloc (.cells zero7 41))) := HW2.out.alloc hlt2 _
    have HXE := Lib.hid (HX.out s)
    clear HX
    generalize errV s = E at *
    go_wp2_with (first
      | ((with_reducible refine here ⟨none, .store 41 (.tmp 6) (.tmp 12), _, _, _, _⟩ ?_)
         refine wpList_store_blk rfl 41 (.tmp 6) (.tmp 12) rfl 41 w2.heap.size 7 (fun _ => 0) (sysF f (swN f n N 1000000)) rfl (by rw [← HR.out]; rfl) HV.out szSys ?_
         intro w4 hb4 hm4
         have HW4 : Hid (Below w.heap.size w w4) := hm4.bel HVW.out (by omega); clear hb4 hm4))
    refine (HXE.out _ (HG.out.step HW4.out)).mono ?_
    rintro e w5 ⟨rfl, g5⟩
    have HW5 : Hid (Below w.heap.size w w5) := Lib.hid (HW4.out.trans (g5.mono HW4.out.size))
    clear g5
    go_wp2_with fail
    go_ret2
    exact ⟨rfl, HW5.out⟩
  | true =>
    have hsN : swN f n N 1000000 = n := if_pos hB
    have C2 := Lib.hid (C1.out.mono fun _ _ h => h.yes hB)
    rw [hsN] at C2
    have HR : Hid (arr7 f n = (intCells (sysF f n) 7).toArray) := Lib.hid rfl
    have HYv : Hid ((vals (fun j => (fun k => Value.int .i64 (sysF f n k)) (0 + j)) 7).toArray = arr7 f n) := Lib.hid (by simp only [Nat.zero_add]; rfl)
    obtain ⟨y1, y2, y3⟩ := ofB_spec.1 hB
    obtain ⟨s1, s2, s3⟩ := sysB_sys y1
    have HSh := Lib.hid (fun w => shortOf_any f n N w s1 s2 s3 y2 y3)
    have HPl := Lib.hid (fun w => plainOf_any f n N w s1 s2 s3 y2 y3)
    have HZ1 := Lib.hid (fun w => size_pl hB w)
    have HZ2 := Lib.hid (fun w => size_sh hB w)
    have HF := Lib.hid (fun w => field_sg (shP (tkL f (n - 1) 0 N) 0) (shT (tkL f (n - 1) 0 N) 0) w)
    obtain ⟨z1, z2⟩ := szL_tk hB
    have b1 := szF_bd (p := pl f n N) (n := n) (M := 1000000) (fun j hj => ⟨by have := pl_nonneg s1 N y2 j hj; omega, by have := pl_le s1 N y2 j hj; omega⟩) n (Nat.le_refl _)
    obtain ⟨z3, z4⟩ := b1
    have HSv : Hid (svR f n N = szF (pl f n N) n - szL (tkL f (n - 1) 0 N)) := Lib.hid (by unfold svR; rw [if_pos hB, tkF_sz s1.len])
    have hws : IntKind.i64.wrap (szF (pl f n N) n - szL (tkL f (n - 1) 0 N)) = szF (pl f n N) n - szL (tkL f (n - 1) 0 N) := IntWalk.i64_in _ (by omega)
    clear y1 y2 y3 s1 s3
    clear C1 hB hsN HX HG
    generalize arr7 f n = R at *
    have HsA : Hid (shA (tkL f (n - 1) 0 N) 0 = sgA (shP (tkL f (n - 1) 0 N) 0) (shT (tkL f (n - 1) 0 N) 0)) := Lib.hid rfl
    rw [HsA.out] at HSh
    generalize sgA (shP (tkL f (n - 1) 0 N) 0) (shT (tkL f (n - 1) 0 N) 0) = A at *
    generalize arr6 (shP (tkL f (n - 1) 0 N) 0) = NA at *
    generalize arr6 (pad (pl f n N) n) = D at *
    generalize szF (pl f n N) n = za at *
    generalize szL (tkL f (n - 1) 0 N) = zb at *
    clear HsA
    go_enter Tryd.func27, Tryd.ntmps27
    go_wp2_with fail
    refine C2.out.mono ?_
    rintro e w2 ⟨rfl, g2⟩
    have HW2 := Lib.hid g2
    have hlt2 := g2.size
    clear g2
    have HV : Hid (Blk 41 (w2.alloc (.cells zero7 41)) w2.heap.size 7 (fun _ => 0)) := zero7_blk w2 _
    have HVW : Hid (Below w.heap.size w (w2.alloc (.cells zero7 41))) := HW2.out.alloc hlt2 _
    go_wp2_with (first
      | ((with_reducible refine here ⟨none, .store 41 (.tmp 6) (.tmp 12), _, _, _, _⟩ ?_)
         refine wpList_store_blk rfl 41 (.tmp 6) (.tmp 12) rfl 41 w2.heap.size 7 (fun _ => 0) (sysF f n) rfl (by rw [← HR.out]; rfl) HV.out szSys ?_
         intro w4 hb4 hm4
         have HB4 := Lib.hid hb4; have HW4 : Hid (Below w.heap.size w w4) := hm4.bel HVW.out (by omega); clear hb4 hm4))
    refine (none_nil _).mono ?_
    rintro e w5 ⟨rfl, g5⟩
    have HY5 : Hid (OneS w w2.heap.size f n w5) := Lib.hid ⟨HB4.out.below g5, HW4.out.trans (g5.mono HW4.out.size)⟩
    clear g5
    generalize w2.heap.size = r2 at *
    go_wp2_with fail
    have HYv0 : Hid (OneS w r2 f n (World.drew w5)) := Lib.hid (HY5.out.below ((Below.refl _ _).drew))
    refine wp_region_held_drew (S := OneS w r2 f n) (by kernel_rfl) HYv0.out (fun hH => ?_)
    generalize World.drew w5 = v0 at *
    refine wpAnyH_take (i := 0) rfl (by kernel_rfl) (by kernel_rfl) (by kernel_rfl) (fun _ _ _ h => h) (yields_load_as rfl 41 (.tmp 6) rfl 41 r2 7 0 7 (fun k => .int .i64 (sysF f n k)) _ R HYv.out rfl (fun _ h => h.1) (by omega) Tryd.underlying41 rfl szSys) hH ?_
    try simp only [Act.put, List.setIfInBounds_toArray, List.set_cons_zero, List.set_cons_succ]
    refine wpAnyH_take (i := 1) (v := ?_) rfl (by kernel_rfl) (by kernel_rfl) (by kernel_rfl) (fun _ _ _ h => h) (Or.inl ⟨by rfl, ?_⟩) hH ?_
    rotate_left
    · intro w _; go_simp; try with_reducible rfl
    try simp only [Act.put, List.setIfInBounds_toArray, List.set_cons_zero, List.set_cons_succ]
    refine wpAnyH_take (i := 4) rfl (by kernel_rfl) (by kernel_rfl) (by kernel_rfl) (fun _ _ _ h => h) (yields_load_as rfl 41 (.tmp 6) rfl 41 r2 7 0 7 (fun k => .int .i64 (sysF f n k)) _ R HYv.out rfl (fun _ h => h.1) (by omega) Tryd.underlying41 rfl szSys) hH ?_
    try simp only [Act.put, List.setIfInBounds_toArray, List.set_cons_zero, List.set_cons_succ]
    refine wpAnyH_take (i := 5) (v := ?_) rfl (by kernel_rfl) (by kernel_rfl) (by kernel_rfl) (fun _ _ _ h => h) (Or.inl ⟨by rfl, ?_⟩) hH ?_
    rotate_left
    · intro w _; go_simp; try with_reducible rfl
    try simp only [Act.put, List.setIfInBounds_toArray, List.set_cons_zero, List.set_cons_succ]
    refine wpAnyH_ready (rs := [2]) (by kernel_rfl) (by simp) ?_
    refine AllReadyH.cons rfl (fun K hK => ?_) AllReadyH.nil
    go_simp
    refine (HPl.out _).mono ?_
    rintro e v1 ⟨rfl, gg⟩
    have HYv1 := Lib.hid (HYv0.out.below gg)
    clear gg
    refine hK.out _ _ HYv1.out (fun hH => ?_)
    clear hK K
    try simp only [Act.put, List.setIfInBounds_toArray, List.set_cons_zero, List.set_cons_succ]
    refine wpAnyH_ready (rs := [3]) (by kernel_rfl) (by simp) ?_
    refine AllReadyH.cons rfl (fun K hK => ?_) AllReadyH.nil
    go_simp
    refine (HZ1.out _).mono ?_
    rintro e v2 ⟨rfl, gg⟩
    have HYv2 := Lib.hid (HYv1.out.below gg)
    clear gg
    refine hK.out _ _ HYv2.out (fun hH => ?_)
    clear hK K
    try simp only [Act.put, List.setIfInBounds_toArray, List.set_cons_zero, List.set_cons_succ]
    refine wpAnyH_ready (rs := [6]) (by kernel_rfl) (by simp) ?_
    refine AllReadyH.cons rfl (fun K hK => ?_) AllReadyH.nil
    go_simp
    refine (HSh.out _).mono ?_
    rintro e v3 ⟨rfl, gg⟩
    have HYv3 := Lib.hid (HYv2.out.below gg)
    clear gg
    refine hK.out _ _ HYv3.out (fun hH => ?_)
    clear hK K
    try simp only [Act.put, List.setIfInBounds_toArray, List.set_cons_zero, List.set_cons_succ]
    refine wpAnyH_ready (rs := [7]) (by kernel_rfl) (by simp) ?_
    refine AllReadyH.cons rfl (fun K hK => ?_) AllReadyH.nil
    refine step_yields rfl (.agg NA) (exec_field 50 (.tmp 22) 0 rfl _ (HF.out _)) ?_
    refine hK.out _ _ HYv3.out (fun hH => ?_)
    clear hK K
    try simp only [Act.put, List.setIfInBounds_toArray, List.set_cons_zero, List.set_cons_succ]
    refine wpAnyH_ready (rs := [8]) (by kernel_rfl) (by simp) ?_
    refine AllReadyH.cons rfl (fun K hK => ?_) AllReadyH.nil
    go_simp
    refine (HZ2.out _).mono ?_
    rintro e v4 ⟨rfl, gg⟩
    have HYv4 := Lib.hid (HYv3.out.below gg)
    clear gg
    refine hK.out _ _ HYv4.out (fun hH => ?_)
    clear hK K
    try simp only [Act.put, List.setIfInBounds_toArray, List.set_cons_zero, List.set_cons_succ]
    refine wpAnyH_ready (rs := [9]) (by kernel_rfl) (by simp) ?_
    refine AllReadyH.cons rfl (fun K hK => ?_) AllReadyH.nil
    go_simp
    refine hK.out _ _ HYv4.out (fun hH => ?_)
    clear hK K
    try simp only [Act.put, List.setIfInBounds_toArray, List.set_cons_zero, List.set_cons_succ]
    refine wpAnyH_ready (rs := [10]) (by kernel_rfl) (by simp) ?_
    refine AllReadyH.cons rfl (fun K hK => ?_) AllReadyH.nil
    go_simp
    refine hK.out _ _ HYv4.out (fun hH => ?_)
    clear hK K
    try simp only [Act.put, List.setIfInBounds_toArray, List.set_cons_zero, List.set_cons_succ]
    refine wpAnyH_ready (rs := [11]) (by kernel_rfl) (by simp) ?_
    refine AllReadyH.cons rfl (fun K hK => ?_) AllReadyH.nil
    go_simp
    refine hK.out _ _ HYv4.out (fun hH => ?_)
    clear hK K
    try simp only [Act.put, List.setIfInBounds_toArray, List.set_cons_zero, List.set_cons_succ]
    refine wpAnyH_done (by kernel_rfl) ?_ _
    clear hH
    go_wp2
    go_ret2
    exact ⟨ret_2 HSv.out.symm rfl, HYv4.out.2⟩
set_option maxHeartbeats 2000000 in
theorem iTakenMost_any (a : Option Addr) (n c : Nat) (f : Nat → Int) (N : Int) (w : World) (h : Ls w a n f) (hn : n ≤ 10000000) (hb : Bnd f n) (hN : IntOk N) (hg : GV w) :
    Calls Tryd.prog 32 #[.slice a n c, .int .i64 N] w fun e w' => e = .returned (.tuple #[.int .i64 (mstR f n N), .bool (mstB f n N)]) ∧ Below w.heap.size w w' := by
  have C1 : Hid (Calls Tryd.prog 41 #[.slice a n c, .int .i64 N, .int .i64 2000] w (SysR w (arr7 f (swN f n N 2000)) (swB f n N 2000))) := Lib.hid (systemWith_any a n c f N 2000 w h hn (fun j hj => (hb j hj).2))
  have HG := Lib.hid hg
  have HX := Lib.hid (fun s w (g : GV w) => none_err s w g)
  clear h hb hg
  cases hB : mstB f n N with
  | false =>
    have C2 := Lib.hid (C1.out.mono fun _ _ h => h.no hB)
    have HR : Hid (arr7 f (swN f n N 2000) = (intCells (sysF f (swN f n N 2000)) 7).toArray) := Lib.hid rfl
    have HM : Hid (mstR f n N = 0) := Lib.hid (by unfold mstR; rw [hB]; rfl)
    rw [HM.out]
    clear C1 hB
    generalize arr7 f (swN f n N 2000) = R at *
    go_enter Tryd.func32, Tryd.ntmps32
    go_wp2_with fail
    refine C2.out.mono ?_
    rintro e w2 ⟨s, rfl, g2⟩
    have HW2 := Lib.hid g2
    have hlt2 := g2.size
    clear g2
    have HV : Hid (Blk 41 (w2.alloc (.cells zero7 41)) w2.heap.size 7 (fun _ => 0)) := zero7_blk w2 _
    have HVW : Hid (Below w.heap.size w (w2.alloc (.cells zero7 41))) := HW2.out.alloc hlt2 _
    have HXE := Lib.hid (HX.out s)
    clear HX
    generalize errV s = E at *
    go_wp2_with (first
      | ((with_reducible refine here ⟨none, .store 41 (.tmp 6) (.tmp 16), _, _, _, _⟩ ?_)
         refine wpList_store_blk rfl 41 (.tmp 6) (.tmp 16) rfl 41 w2.heap.size 7 (fun _ => 0) (sysF f (swN f n N 2000)) rfl (by rw [← HR.out]; rfl) HV.out szSys ?_
         intro w4 hb4 hm4
         have HW4 : Hid (Below w.heap.size w w4) := hm4.bel HVW.out (by omega); clear hb4 hm4))
    refine (HXE.out _ (HG.out.step HW4.out)).mono ?_
    rintro e w5 ⟨rfl, g5⟩
    have HW5 : Hid (Below w.heap.size w w5) := Lib.hid (HW4.out.trans (g5.mono HW4.out.size))
    clear g5
    go_wp2_with fail
    go_ret2
    exact ⟨rfl, HW5.out⟩
  | true =>
    have hsN : swN f n N 2000 = n := if_pos hB
    have C2 := Lib.hid (C1.out.mono fun _ _ h => h.yes hB)
    rw [hsN] at C2
    have HR : Hid (arr7 f n = (intCells (sysF f n) 7).toArray) := Lib.hid rfl
    have HYv : Hid ((vals (fun j => (fun k => Value.int .i64 (sysF f n k)) (0 + j)) 7).toArray = arr7 f n) := Lib.hid (by simp only [Nat.zero_add]; rfl)
    obtain ⟨y1, y2, y3⟩ := mstB_spec.1 hB
    obtain ⟨s1, s2, s3⟩ := sysB_sys y1
    obtain ⟨K, rfl⟩ := Int.eq_ofNat_of_zero_le y2
    have hmr : mstR f n (K : Int) = (bst (sTk f n) K : Nat) := by unfold mstR; rw [if_pos hB, Int.toNat_natCast]
    have HM := Lib.hid hmr
    have HK := Lib.hid (fun (k : Nat) (hk : k ≤ K) w => shortOf_any f n (k : Int) w s1 s2 s3 (by omega) (by omega))
    have HZ := Lib.hid (fun (k : Nat) (hk : k ≤ K) w => size_tk (f := f) (n := n) (k := k) y1 (by omega) w)
    have HF := Lib.hid (fun (k : Nat) w => field_sg (shP (tkL f (n - 1) 0 (k : Int)) 0) (shT (tkL f (n - 1) 0 (k : Int)) 0) w)
    have HT := Lib.hid (fun (k : Nat) (hk : k ≤ K) => sTk_bd (f := f) (n := n) (k := k) y1 (by omega))
    clear hmr y1 s1 s2 s3
    clear C1 hB hsN HX HG
    generalize arr7 f n = R at *
    go_enter Tryd.func32, Tryd.ntmps32
    go_wp2_with fail
    refine C2.out.mono ?_
    rintro e w2 ⟨rfl, g2⟩
    have HW2 := Lib.hid g2
    have hlt2 := g2.size
    clear g2
    have HV : Hid (Blk 41 (w2.alloc (.cells zero7 41)) w2.heap.size 7 (fun _ => 0)) := zero7_blk w2 _
    have HVW : Hid (Below w.heap.size w (w2.alloc (.cells zero7 41))) := HW2.out.alloc hlt2 _
    go_wp2_with (first
      | ((with_reducible refine here ⟨none, .store 41 (.tmp 6) (.tmp 16), _, _, _, _⟩ ?_)
         refine wpList_store_blk rfl 41 (.tmp 6) (.tmp 16) rfl 41 w2.heap.size 7 (fun _ => 0) (sysF f n) rfl (by rw [← HR.out]; rfl) HV.out szSys ?_
         intro w4 hb4 hm4
         have HB4 := Lib.hid hb4; have HW4 : Hid (Below w.heap.size w w4) := hm4.bel HVW.out (by omega); clear hb4 hm4))
    refine (none_nil _).mono ?_
    rintro e w5 ⟨rfl, g5⟩
    have HY5 : Hid (OneS w w2.heap.size f n w5) := Lib.hid ⟨HB4.out.below g5, HW4.out.trans (g5.mono HW4.out.size)⟩
    clear g5
    generalize w2.heap.size = r2 at *
    go_wp2_with fail
    go_loopw [8, 9, 10] (fun x y i wr => ∃ k : Nat, i = .int .i64 ((k : Int) + 1) ∧ k ≤ K ∧ x = .int .i64 (bst (sTk f n) k : Nat) ∧ y = .int .i64 (sTk f n (bst (sTk f n) k)) ∧ OneS w r2 f n wr) (fun _ _ i _ => K + 1 - (intOf i).toNat)
    case atStart => exact ⟨0, rfl, by omega, rfl, by { have e : sTk f n (bst (sTk f n) 0) = 0 := sTk_zero f n; rw [e] }, HY5.out⟩
    case round =>
      obtain ⟨k, rfl, hk, rfl, rfl, hys⟩ := hrel
      have HYr := Lib.hid hys
      clear hys
      by_cases hlt : k < K
      · have hst : bst (sTk f n) (k + 1) = if sTk f n (bst (sTk f n) k) < sTk f n (k + 1) then k + 1 else bst (sTk f n) k := rfl
        have Hst := Lib.hid hst
        have C3 := Lib.hid (HK.out (k + 1) (by omega)); have C4 := Lib.hid (HZ.out (k + 1) (by omega)); have C5 := Lib.hid (HF.out (k + 1))
        obtain ⟨t1, t2⟩ := HT.out (k + 1) (by omega)
        obtain ⟨t3, t4⟩ := HT.out (bst (sTk f n) k) (Nat.le_trans (bst_le _ k) (by omega))
        have hbl := bst_le (sTk f n) k
        clear hst HK HZ HF HT
        rw [show ((k + 1 : Nat) : Int) = (k : Int) + 1 by omega] at C3 C4 C5
        generalize hs1 : sTk f n (k + 1) = z at *
        have Hs1 := Lib.hid hs1
        generalize hs0 : sTk f n (bst (sTk f n) k) = y at *
        have Hs0 := Lib.hid hs0
        clear hs1 hs0
        have HsA : Hid (shA (tkL f (n - 1) 0 ((k : Int) + 1)) 0 = sgA (shP (tkL f (n - 1) 0 ((k : Int) + 1)) 0) (shT (tkL f (n - 1) 0 ((k : Int) + 1)) 0)) := Lib.hid rfl
        rw [HsA.out] at C3
        generalize sgA (shP (tkL f (n - 1) 0 ((k : Int) + 1)) 0) (shT (tkL f (n - 1) 0 ((k : Int) + 1)) 0) = A at *
        generalize arr6 (shP (tkL f (n - 1) 0 ((k : Int) + 1)) 0) = NA at *
        clear HsA
        go_wp2_with (first
          | ((with_reducible refine here ⟨some 25, _, _, _, _, _⟩ ?_)
             refine wpList_load_blk rfl 41 (.tmp 6) rfl 41 r2 7 _ _ rfl HYr.out.1 Tryd.underlying41 rfl szSys ?_
             rw [← HR.out]))
        refine (C3.out _).mono ?_
        rintro e w6 ⟨rfl, g6⟩
        have HY6 := Lib.hid (HYr.out.below g6)
        clear g6
        have hfd := C5.out
        go_wp2_with fail
        refine (C4.out _).mono ?_
        rintro e w7 ⟨rfl, g7⟩
        have HY7 := Lib.hid (HY6.out.below g7)
        clear g7 hfd
        rcases (show y < z ∨ ¬ y < z by omega) with hyz | hyz
        · have Hbs : Hid (bst (sTk f n) (k + 1) = k + 1) := Lib.hid (by rw [Hst.out, if_pos hyz])
          go_wp2_with fail
          go_roundw
          case rel => exact ⟨k + 1, by go_num, by omega, by rw [Hbs.out]; go_num, by rw [Hbs.out, Hs1.out], HY7.out⟩
          case measure => simp [intOf]; omega
        · have Hbs : Hid (bst (sTk f n) (k + 1) = bst (sTk f n) k) := Lib.hid (by rw [Hst.out, if_neg hyz])
          have hyz' : z ≤ y := by omega
          go_wp2_with fail
          go_roundw
          case rel => exact ⟨k + 1, by go_num, by omega, by rw [Hbs.out], by rw [Hbs.out, Hs0.out], HY7.out⟩
          case measure => simp [intOf]; omega
      · obtain rfl : k = K := by omega
        have hK' : ¬ (k : Int) + 1 ≤ (k : Int) := by omega
        go_wp2_with fail
        go_ret2
        rw [HM.out]
        exact ⟨rfl, HYr.out.2⟩
set_option maxHeartbeats 2000000 in
theorem iTakenTurned_any (a b : Option Addr) (n m c d : Nat) (f p : Nat → Int) (w : World) (h : Ls w a n f) (h' : Ls w b m p) (hn : n ≤ 10000000) (hm : m ≤ 10000000) (hb : Bnd f n) (hp : Bnd p m) (hg : GV w) :
    Calls Tryd.prog 25 #[.slice a n c, .slice b m d] w fun e w' => RowR w w' (fun j => -p j) n (sgnB f n p m) e := by
  have C1 := Lib.hid (readSigned_any a b n m c d f p w h h' hn hm (fun j hj => (hb j hj).2) hp)
  have HG := Lib.hid hg
  have HX := Lib.hid (fun s w (g : GV w) => none_err s w g)
  clear h h' hb hp hg
  cases hB : sgnB f n p m with
  | false =>
    have C2 := Lib.hid (C1.out.mono fun _ _ h => h.no hB)
    have HR : Hid (arr7 f (rsN f n p m) = (intCells (sysF f (rsN f n p m)) 7).toArray) := Lib.hid rfl
    have HA : Hid (rsA f n p m = (vals (sgV (pad (fun j => gA (p j)) (rsN f n p m)) (mrk p (rsN f n p m))) 12).toArray) := Lib.hid rfl
    have SgO := Lib.hid (sgV_one (pad (fun j => gA (p j)) (rsN f n p m)) (mrk p (rsN f n p m)))
    clear C1 hB
    generalize sgV (pad (fun j => gA (p j)) (rsN f n p m)) (mrk p (rsN f n p m)) = V at *
    generalize arr7 f (rsN f n p m) = R at *
    generalize rsA f n p m = A at *
    go_enter Tryd.func25, Tryd.ntmps25
    go_wp2_with fail
    refine C2.out.mono ?_
    rintro e w2 ⟨s, rfl, g2⟩
    have HW2 := Lib.hid g2
    have hlt2 := g2.size
    clear g2
    obtain ⟨w3, hw3, hv3, hz3, hl3, hs3⟩ := boxes w2 zero7 zero12 41 50
    have HV3 : Hid (Blk 41 w3 w2.heap.size 7 (fun _ => 0)) := Lib.hid (by rw [zero7_eq] at hv3; exact hv3)
    have HZ3 : Hid (Sg w3 (w2.heap.size + 1) (fun _ => 0) (fun _ => false)) := Lib.hid (by rw [zero12_eq] at hz3; exact hz3)
    have HW3 : Hid (Below w.heap.size w w3) := Lib.hid (HW2.out.trans (hl3.mono hlt2))
    clear hv3 hz3 hl3 hs3
    unfold zero7 zero12 at hw3
    have Hw3 := Lib.hid hw3
    clear hw3
    have HXE := Lib.hid (HX.out s)
    clear HX
    generalize errV s = E at *
    go_wp2_with (first
      | ((with_reducible refine here ⟨none, .store 41 (.tmp 6) (.tmp 13), _, _, _, _⟩ ?_)
         rw [← Hw3.out]
         refine wpList_store_blk rfl 41 (.tmp 6) (.tmp 13) rfl 41 w2.heap.size 7 (fun _ => 0) (sysF f (rsN f n p m)) rfl (by rw [← HR.out]; rfl) HV3.out szSys ?_
         intro w4 hb4 hm4
         have HB4 := Lib.hid hb4; have HZ4 := Lib.hid (VRow.mid HZ3.out hm4 (by omega)); have HW4 : Hid (Below w.heap.size w w4) := hm4.bel HW3.out (by omega); clear hb4 hm4)
      | ((with_reducible refine here ⟨none, .store 50 (.tmp 7) (.tmp 14), _, _, _, _⟩ ?_)
         refine wpList_store_vals rfl 50 (.tmp 7) (.tmp 14) rfl 50 (w2.heap.size + 1) 12 0 12 _ V rfl (by rw [← HA.out]; rfl) HZ4.out (by omega) szSg (SgO.out 12) ?_
         intro w5 hb5 hm5
         have HX5 : Hid (VRow 50 w5 (w2.heap.size + 1) 12 V) := Lib.hid (hb5.congr (fun j hj => ovr_all _ _ 12 j hj)); have HB5 := Lib.hid (HB4.out.mid hm5 (by omega)); have HW5 : Hid (Below w.heap.size w w5) := hm5.bel HW4.out (by omega); clear hb5 hm5))
    refine (HXE.out _ (HG.out.step HW5.out)).mono ?_
    rintro e w6 ⟨rfl, g6⟩
    have HW6 : Hid (Below w.heap.size w w6) := Lib.hid (HW5.out.trans (g6.mono HW5.out.size))
    clear g6
    go_wp2_with fail
    go_ret2
    exact ⟨none, 0, 0, rfl, rfl, Rsp.none_ _ _ _ _ _, HW6.out⟩
  | true =>
    have C2 := Lib.hid (C1.out.mono fun _ _ h => h.yes hB)
    rw [(rs_yes hB).1, (rs_yes hB).2] at C2
    obtain ⟨q1, hmn, q2⟩ := sgnB_spec.1 hB
    subst hmn
    obtain ⟨s1, s2, s3⟩ := sysB_sys q1
    have HR : Hid (arr7 f m = (intCells (sysF f m) 7).toArray) := Lib.hid rfl
    have HA : Hid (sgA (pad (fun j => gA (p j)) m) (mrk p m) = (vals (sgV (pad (fun j => gA (p j)) m) (mrk p m)) 12).toArray) := Lib.hid rfl
    have HA2 : Hid ((vals (fun j => sgV (pad (fun j => gA (p j)) m) (mrk p m) (0 + j)) 12).toArray = sgA (pad (fun j => gA (p j)) m) (mrk p m)) := Lib.hid (sg_all _ _)
    have HA3 := Lib.hid (sg_num6 (pad (fun j => gA (p j)) m) (mrk p m))
    have HYv : Hid ((vals (fun j => (fun k => Value.int .i64 (sysF f m k)) (0 + j)) 7).toArray = arr7 f m) := Lib.hid (by simp only [Nat.zero_add]; rfl)
    have SgO := Lib.hid (sgV_one (pad (fun j => gA (p j)) m) (mrk p m))
    have HPd := Lib.hid (pad_gA q2)
    have HTu := Lib.hid (fun w => turned_any (pad (fun j => gA (p j)) m) (mrk p m) w)
    have HLi := Lib.hid (fun w => slist_any (pad (fun j => gA (p j)) m) (notB (mrk p m)) f m w s2 (fun j _ => by have := HPd.out j; omega))
    clear C1 hB q1 s1 s3 HX
    generalize sgV (pad (fun j => gA (p j)) m) (mrk p m) = V at *
    generalize sgA (pad (fun j => gA (p j)) m) (mrk p m) = A at *
    generalize arr7 f m = R at *
    generalize sgA (pad (fun j => gA (p j)) m) (notB (mrk p m)) = TA at *
    go_enter Tryd.func25, Tryd.ntmps25
    go_wp2_with fail
    refine C2.out.mono ?_
    rintro e w2 ⟨rfl, g2⟩
    have HW2 := Lib.hid g2
    have hlt2 := g2.size
    clear g2
    obtain ⟨w3, hw3, hv3, hz3, hl3, hs3⟩ := boxes w2 zero7 zero12 41 50
    have HV3 : Hid (Blk 41 w3 w2.heap.size 7 (fun _ => 0)) := Lib.hid (by rw [zero7_eq] at hv3; exact hv3)
    have HZ3 : Hid (Sg w3 (w2.heap.size + 1) (fun _ => 0) (fun _ => false)) := Lib.hid (by rw [zero12_eq] at hz3; exact hz3)
    have HW3 : Hid (Below w.heap.size w w3) := Lib.hid (HW2.out.trans (hl3.mono hlt2))
    clear hv3 hz3 hl3 hs3
    unfold zero7 zero12 at hw3
    have Hw3 := Lib.hid hw3
    clear hw3
    go_wp2_with (first
      | ((with_reducible refine here ⟨none, .store 41 (.tmp 6) (.tmp 13), _, _, _, _⟩ ?_)
         rw [← Hw3.out]
         refine wpList_store_blk rfl 41 (.tmp 6) (.tmp 13) rfl 41 w2.heap.size 7 (fun _ => 0) (sysF f m) rfl (by rw [← HR.out]; rfl) HV3.out szSys ?_
         intro w4 hb4 hm4
         have HB4 := Lib.hid hb4; have HZ4 := Lib.hid (VRow.mid HZ3.out hm4 (by omega)); have HW4 : Hid (Below w.heap.size w w4) := hm4.bel HW3.out (by omega); clear hb4 hm4)
      | ((with_reducible refine here ⟨none, .store 50 (.tmp 7) (.tmp 14), _, _, _, _⟩ ?_)
         refine wpList_store_vals rfl 50 (.tmp 7) (.tmp 14) rfl 50 (w2.heap.size + 1) 12 0 12 _ V rfl (by rw [← HA.out]; rfl) HZ4.out (by omega) szSg (SgO.out 12) ?_
         intro w5 hb5 hm5
         have HX5 : Hid (VRow 50 w5 (w2.heap.size + 1) 12 V) := Lib.hid (hb5.congr (fun j hj => ovr_all _ _ 12 j hj)); have HB5 := Lib.hid (HB4.out.mid hm5 (by omega)); have HW5 : Hid (Below w.heap.size w w5) := hm5.bel HW4.out (by omega); clear hb5 hm5))
    refine (none_nil _).mono ?_
    rintro e w6 ⟨rfl, g6⟩
    have HY6 : Hid (TwoS w w2.heap.size f m V w6) := Lib.hid ⟨HB5.out.below g6, HX5.out.below g6, HW5.out.trans (g6.mono HW5.out.size)⟩
    clear g6
    generalize w2.heap.size = r2 at *
    go_wp2_with fail
    have HYv0 : Hid (TwoS w r2 f m V (World.drew w6)) := Lib.hid (HY6.out.below ((Below.refl _ _).drew))
    refine wp_region_held_drew (S := TwoS w r2 f m V) (by kernel_rfl) HYv0.out (fun hH => ?_)
    generalize World.drew w6 = v0 at *
    refine wpAnyH_take (i := 0) rfl (by kernel_rfl) (by kernel_rfl) (by kernel_rfl) (fun _ _ _ h => h) (yields_load_as rfl 50 (.tmp 7) rfl 50 (r2 + 1) 12 0 12 V _ A HA2.out rfl (fun _ h => h.2.1) (by omega) Tryd.underlying50 rfl szSg) hH ?_
    try simp only [Act.put, List.setIfInBounds_toArray, List.set_cons_zero, List.set_cons_succ]
    refine wpAnyH_take (i := 2) rfl (by kernel_rfl) (by kernel_rfl) (by kernel_rfl) (fun _ _ _ h => h) (yields_load_as rfl 41 (.tmp 6) rfl 41 r2 7 0 7 (fun k => .int .i64 (sysF f m k)) _ R HYv.out rfl (fun _ h => h.1) (by omega) Tryd.underlying41 rfl szSys) hH ?_
    try simp only [Act.put, List.setIfInBounds_toArray, List.set_cons_zero, List.set_cons_succ]
    refine wpAnyH_ready (rs := [1]) (by kernel_rfl) (by simp) ?_
    refine AllReadyH.cons rfl (fun K hK => ?_) AllReadyH.nil
    go_simp
    refine (HTu.out _).mono ?_
    rintro e v1 ⟨rfl, gg⟩
    have HYv1 := Lib.hid (HYv0.out.below gg)
    clear gg
    refine hK.out _ _ HYv1.out (fun hH => ?_)
    clear hK K
    try simp only [Act.put, List.setIfInBounds_toArray, List.set_cons_zero, List.set_cons_succ]
    refine wpAnyH_ready (rs := [3]) (by kernel_rfl) (by simp) ?_
    refine AllReadyH.cons rfl (fun K hK => ?_) AllReadyH.nil
    go_simp
    refine (HLi.out _).mono ?_
    rintro e v2 ⟨bb, rfl, hb1, hb2, hown, gg⟩
    have HYv2 := Lib.hid (HYv1.out.below gg)
    have HOv2 : Hid (RowR w v2 (fun j => -p j) m true (.returned (.tuple #[.slice (some ⟨bb, 0, none⟩) m m, .bool true]))) := Lib.hid (row_two HYv1.out hb1 hb2 (hown.congr fun j hj => nmb_not hj (q2 j hj)) gg)
    clear hb1 hb2 hown
    clear gg
    refine hK.out _ _ HYv2.out (fun hH => ?_)
    clear hK K
    try simp only [Act.put, List.setIfInBounds_toArray, List.set_cons_zero, List.set_cons_succ]
    refine wpAnyH_ready (rs := [4]) (by kernel_rfl) (by simp) ?_
    refine AllReadyH.cons rfl (fun K hK => ?_) AllReadyH.nil
    go_simp
    refine hK.out _ _ HYv2.out (fun hH => ?_)
    clear hK K
    try simp only [Act.put, List.setIfInBounds_toArray, List.set_cons_zero, List.set_cons_succ]
    refine wpAnyH_ready (rs := [5]) (by kernel_rfl) (by simp) ?_
    refine AllReadyH.cons rfl (fun K hK => ?_) AllReadyH.nil
    go_simp
    refine hK.out _ _ HYv2.out (fun hH => ?_)
    clear hK K
    try simp only [Act.put, List.setIfInBounds_toArray, List.set_cons_zero, List.set_cons_succ]
    refine wpAnyH_done (by kernel_rfl) ?_ _
    clear hH
    go_wp2
    go_ret2
    exact HOv2.out
end Go.Proofs.YtgcalmenlcpjpaaDoor
