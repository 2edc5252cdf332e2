/- The program's readSystem, systemWith. -/
import Derived.Test.YtgcalmenlcpjpaaDoorEE
namespace Go.Proofs.YtgcalmenlcpjpaaDoor
open Go.RowKit
set_option linter.unusedVariables false
set_option maxRecDepth 100000
/-- a system, or the error that there is none -/
def SysR (w : World) (C : Array Value) (B : Bool) (e : Ending) (w' : World) : Prop := ∃ E, e = .returned (.tuple #[.agg C, E]) ∧ ErrOf B E ∧ Below w.heap.size w w'
def SysY (w : World) (C : Array Value) (e : Ending) (w' : World) : Prop := e = .returned (.tuple #[.agg C, .nilIface]) ∧ Below w.heap.size w w'
def SysN (w : World) (C : Array Value) (e : Ending) (w' : World) : Prop := ∃ s, e = .returned (.tuple #[.agg C, errV s]) ∧ Below w.heap.size w w'
theorem SysR.yes {w w' : World} {C : Array Value} {B : Bool} {e : Ending} (h : SysR w C B e w') (hB : B = true) : SysY w C e w' := by
  obtain ⟨E, he, h1 | h1, hw⟩ := h
  · obtain ⟨_, rfl⟩ := h1; exact ⟨he, hw⟩
  · exact absurd (h1.1.symm.trans hB) (by decide)
theorem SysR.no {w w' : World} {C : Array Value} {B : Bool} {e : Ending} (h : SysR w C B e w') (hB : B = false) : SysN w C e w' := by
  obtain ⟨E, he, h1 | h1, hw⟩ := h
  · exact absurd (h1.1.symm.trans hB) (by decide)
  · obtain ⟨_, s, rfl⟩ := h1; exact ⟨s, he, hw⟩
theorem SysR.mkN {w w' : World} {C : Array Value} {B : Bool} {E : Value} (h : ∃ s, E = errV s) (hB : B = false) (hw : Below w.heap.size w w') : SysR w C B (.returned (.tuple #[.agg C, E])) w' := ⟨_, rfl, .inr ⟨hB, h⟩, hw⟩
theorem SysR.mkY {w w' : World} {C : Array Value} {B : Bool} (hB : B = true) (hw : Below w.heap.size w w') : SysR w C B (.returned (.tuple #[.agg C, .nilIface])) w' := ⟨_, rfl, .inl ⟨hB, rfl⟩, hw⟩
theorem results_cell_val {P : Program} {fn : Func} {p q : Tmp} {ty : TypeId} (h : fn.results = #[.cell p ty, .tmp q]) (tmps : Array Value) (w : World) (T : TypeId) (b N : Nat) (v : Nat → Value) (x : Value) (d : TypeDesc)
    (hp : tmps.getD p undef = .pointer (some ⟨b, 0, none⟩)) (hq : tmps.getD q undef = x) (hb : VRow T w b N v) (hu : P.underlying ty = some d) (hd : d.isRow = true) (hi : (P.info? ty).map (·.size) = some N) :
    (results fn tmps).run P w = .ok (.tuple #[.agg (vals v N).toArray, x]) w := by
  have hp' : tmps[p]?.getD undef = .pointer (some ⟨b, 0, none⟩) := by simpa using hp
  have hq' : tmps[q]?.getD undef = x := by simpa using hq
  have hr := run_loadVar_row (P := P) w b T ty _ _ d hb hu (by cases d <;> simp_all [TypeDesc.isRow]) (by rw [hi]; simp [vals])
  simp [results, h, hp', hq', asAddr, hr]
theorem arr7_none (f : Nat → Int) : arr7 f 0 = zero7 := by
  unfold arr7
  rw [zero7_eq, intCells_congr fun k _ => sysF_none f k]
set_option maxHeartbeats 1000000 in
theorem readSystem_any (a : Option Addr) (n c : Nat) (f : Nat → Int) (w : World) (h : Ls w a n f) (hn : n ≤ 10000000) (hfit : Fit f n) :
    Calls Tryd.prog 64 #[.slice a n c] w (SysR w (arr7 f (sysN f n)) (sysB f n)) := by
  have HB0 : Hid (Blk 41 (w.alloc (.cells zero7 41)) w.heap.size 7 (fun _ => 0)) := zero7_blk w _
  have HW0 : Hid (Below w.heap.size w (w.alloc (.cells zero7 41))) := (Below.refl _ _).alloc (Nat.le_refl _) _
  have Hs0 : Hid ((w.alloc (.cells zero7 41)).heap.size = w.heap.size + 1) := by show _ = _; simp
  have C1 := Lib.hid (systemOf_any a n c f _ (h.below HW0.out) hn hfit)
  clear h hfit
  have HC : Hid (arr7 f (sysN f n) = (intCells (sysF f (sysN f n)) 7).toArray) := rfl
  have HNo : Hid (sysB f n = false → arr7 f (sysN f n) = zero7) := Lib.hid (fun h => by rw [sysN_no h, arr7_none])
  obtain ⟨C, hC⟩ : ∃ C, arr7 f (sysN f n) = C := ⟨_, rfl⟩
  rw [hC] at C1 HC HNo ⊢
  clear hC
  unfold zero7 at C1
  obtain ⟨B, hB⟩ : ∃ B, sysB f n = B := ⟨_, rfl⟩
  rw [hB] at C1 HNo ⊢
  clear hB
  go_enter Tryd.func64, Tryd.ntmps64
  go_wp2_with fail
  refine C1.out.mono ?_
  rintro e w2 ⟨rfl, g2⟩
  have hg2 : Below (w.alloc (.cells zero7 41)).heap.size (w.alloc (.cells zero7 41)) w2 := g2
  rw [Hs0.out] at hg2
  have HB2 : Hid (Blk 41 w2 w.heap.size 7 (fun _ => 0)) := HB0.out.keep (hg2.block _ (by omega))
  have HW2 : Hid (Below w.heap.size w w2) := HW0.out.trans (hg2.mono (by omega))
  have hlt : w.heap.size < w2.heap.size := HB2.out.lt
  clear g2 hg2
  have HZ : Hid (Blk 41 (w2.alloc (.cells zero7 41)) w2.heap.size 7 (fun _ => 0)) := zero7_blk w2 _
  have HZB : Hid (Blk 41 (w2.alloc (.cells zero7 41)) w.heap.size 7 (fun _ => 0)) := HB2.out.alloc _
  have HZW : Hid (Below w.heap.size w (w2.alloc (.cells zero7 41))) := HW2.out.alloc (by omega) _
  cases B with
  | false =>
    have HE := Lib.hid (HNo.out rfl)
    go_wp2_with (first
      | ((with_reducible refine here ⟨none, .store 41 (.tmp 4) (.tmp 9), _, _, _, _⟩ ?_)
         refine wpList_store_blk rfl 41 (.tmp 4) (.tmp 9) rfl 41 w2.heap.size 7 (fun _ => 0) (sysF f (sysN f n)) rfl (by rw [← HC.out]; rfl) HZ.out szSys ?_
         intro w4 hb4 hm4
         have HB4 := Lib.hid (HZB.out.mid hm4 (by omega)); have HW4 : Hid (Below w.heap.size w w4) := hm4.bel HZW.out (by omega); clear hb4 hm4)
      | ((with_reducible refine here ⟨none, .store 41 (.tmp 2) (.tmp 13), _, _, _, _⟩ ?_)
         refine wpList_store_blk rfl 41 (.tmp 2) (.tmp 13) rfl 41 w.heap.size 7 (fun _ => 0) (fun _ => 0) rfl rfl HB4.out szSys ?_
         intro w5 hb5 hm5
         have HB5 := Lib.hid hb5; have HW5 : Hid (Below w.heap.size w w5) := hm5.bel HW4.out (by omega); clear hb5 hm5))
    refine bodyPost_ret (results_cell_val Tryd.results64 _ _ 41 w.heap.size 7 _ _ _ rfl rfl HB5.out Tryd.underlying41 rfl szSys) rfl ?_
    rw [HE.out]
    exact SysR.mkN ⟨_, rfl⟩ rfl HW5.out
  | true =>
    go_wp2_with (first
      | ((with_reducible refine here ⟨none, .store 41 (.tmp 4) (.tmp 9), _, _, _, _⟩ ?_)
         refine wpList_store_blk rfl 41 (.tmp 4) (.tmp 9) rfl 41 w2.heap.size 7 (fun _ => 0) (sysF f (sysN f n)) rfl (by rw [← HC.out]; rfl) HZ.out szSys ?_
         intro w4 hb4 hm4
         have HX4 := Lib.hid hb4; have HB4 := Lib.hid (HZB.out.mid hm4 (by omega)); have HW4 : Hid (Below w.heap.size w w4) := hm4.bel HZW.out (by omega); clear hb4 hm4)
      | ((with_reducible refine here ⟨some 16, _, _, _, _, _⟩ ?_)
         refine wpList_load_blk rfl 41 (.tmp 4) rfl 41 w2.heap.size 7 _ _ rfl HX4.out Tryd.underlying41 rfl szSys ?_)
      | ((with_reducible refine here ⟨none, .store 41 (.tmp 2) (.tmp 16), _, _, _, _⟩ ?_)
         refine wpList_store_blk rfl 41 (.tmp 2) (.tmp 16) rfl 41 w.heap.size 7 (fun _ => 0) (sysF f (sysN f n)) rfl rfl HB4.out szSys ?_
         intro w5 hb5 hm5
         have HB5 := Lib.hid hb5; have HW5 : Hid (Below w.heap.size w w5) := hm5.bel HW4.out (by omega); clear hb5 hm5))
    refine bodyPost_ret (results_cell_val Tryd.results64 _ _ 41 w.heap.size 7 _ _ _ rfl rfl HB5.out Tryd.underlying41 rfl szSys) rfl ?_
    rw [HC.out]
    exact SysR.mkY rfl HW5.out
/-- a system, and a number within its bounds? -/
def swB (f : Nat → Int) (n : Nat) (N g : Int) : Bool := sysB f n && decide (0 ≤ N ∧ N ≤ g)
def swN (f : Nat → Int) (n : Nat) (N g : Int) : Nat := if swB f n N g = true then n else 0
set_option maxHeartbeats 1000000 in
theorem systemWith_any (a : Option Addr) (n c : Nat) (f : Nat → Int) (N g : Int) (w : World) (h : Ls w a n f) (hn : n ≤ 10000000) (hfit : Fit f n) :
    Calls Tryd.prog 41 #[.slice a n c, .int .i64 N, .int .i64 g] w (SysR w (arr7 f (swN f n N g)) (swB f n N g)) := by
  have HB0 : Hid (Blk 41 (w.alloc (.cells zero7 41)) w.heap.size 7 (fun _ => 0)) := zero7_blk w _
  have HW0 : Hid (Below w.heap.size w (w.alloc (.cells zero7 41))) := (Below.refl _ _).alloc (Nat.le_refl _) _
  have Hs0 : Hid ((w.alloc (.cells zero7 41)).heap.size = w.heap.size + 1) := by show _ = _; simp
  have C1 := Lib.hid (readSystem_any a n c f _ (h.below HW0.out) hn hfit)
  clear h hfit
  have HC : Hid (arr7 f (sysN f n) = (intCells (sysF f (sysN f n)) 7).toArray) := rfl
  have HNo : Hid (swB f n N g = false → arr7 f (swN f n N g) = zero7) := Lib.hid (fun h => by unfold swN; rw [h, if_neg (by decide), arr7_none])
  have HYes : Hid (swB f n N g = true → arr7 f (swN f n N g) = arr7 f (sysN f n)) := Lib.hid (fun h => by
    have hs : sysB f n = true := by unfold swB at h; rw [Bool.and_eq_true] at h; exact h.1
    unfold swN; rw [h, if_pos rfl, sysN_yes hs])
  have HD : Hid (swB f n N g = (sysB f n && decide (0 ≤ N ∧ N ≤ g))) := rfl
  obtain ⟨C, hC⟩ : ∃ C, arr7 f (sysN f n) = C := ⟨_, rfl⟩
  rw [hC] at C1 HC HYes
  clear hC
  generalize arr7 f (swN f n N g) = R at *
  generalize swB f n N g = W at *
  obtain ⟨B, hB⟩ : ∃ B, sysB f n = B := ⟨_, rfl⟩
  rw [hB] at C1 HD
  clear hB
  unfold zero7 at C1
  cases B with
  | false =>
    have HW : Hid (W = false) := Lib.hid (by rw [HD.out]; rfl)
    have HE := Lib.hid (HNo.out HW.out)
    have C2 := Lib.hid (C1.out.mono fun _ _ h => h.no rfl)
    clear C1 HD
    go_enter Tryd.func41, Tryd.ntmps41
    go_wp2_with fail
    refine C2.out.mono ?_
    rintro e w2 ⟨s, rfl, g2⟩
    have hg2 : Below (w.alloc (.cells zero7 41)).heap.size (w.alloc (.cells zero7 41)) w2 := g2
    rw [Hs0.out] at hg2
    have HB2 : Hid (Blk 41 w2 w.heap.size 7 (fun _ => 0)) := HB0.out.keep (hg2.block _ (by omega))
    have HW2 : Hid (Below w.heap.size w w2) := HW0.out.trans (hg2.mono (by omega))
    have hlt : w.heap.size < w2.heap.size := HB2.out.lt
    clear g2 hg2
    have HZ : Hid (Blk 41 (w2.alloc (.cells zero7 41)) w2.heap.size 7 (fun _ => 0)) := zero7_blk w2 _
    have HZB : Hid (Blk 41 (w2.alloc (.cells zero7 41)) w.heap.size 7 (fun _ => 0)) := HB2.out.alloc _
    have HZW : Hid (Below w.heap.size w (w2.alloc (.cells zero7 41))) := HW2.out.alloc (by omega) _
    unfold errV
    go_wp2_with (first
      | ((with_reducible refine here ⟨none, .store 41 (.tmp 8) (.tmp 13), _, _, _, _⟩ ?_)
         refine wpList_store_blk rfl 41 (.tmp 8) (.tmp 13) rfl 41 w2.heap.size 7 (fun _ => 0) (sysF f (sysN f n)) rfl (by rw [← HC.out]; rfl) HZ.out szSys ?_
         intro w4 hb4 hm4
         have HB4 := Lib.hid (HZB.out.mid hm4 (by omega)); have HW4 : Hid (Below w.heap.size w w4) := hm4.bel HZW.out (by omega); clear hb4 hm4)
      | ((with_reducible refine here ⟨none, .store 41 (.tmp 6) (.tmp 17), _, _, _, _⟩ ?_)
         refine wpList_store_blk rfl 41 (.tmp 6) (.tmp 17) rfl 41 w.heap.size 7 (fun _ => 0) (fun _ => 0) rfl rfl HB4.out szSys ?_
         intro w5 hb5 hm5
         have HB5 := Lib.hid hb5; have HW5 : Hid (Below w.heap.size w w5) := hm5.bel HW4.out (by omega); clear hb5 hm5))
    refine bodyPost_ret (results_cell_val Tryd.results41 _ _ 41 w.heap.size 7 _ _ _ rfl rfl HB5.out Tryd.underlying41 rfl szSys) rfl ?_
    rw [HE.out]
    exact SysR.mkN ⟨_, rfl⟩ HW.out HW5.out
  | true =>
    have C2 := Lib.hid (C1.out.mono fun _ _ h => h.yes rfl)
    clear C1
    by_cases hr : 0 ≤ N ∧ N ≤ g
    · have HW : Hid (W = true) := Lib.hid (by rw [HD.out, decide_eq_true hr]; rfl)
      have HE := Lib.hid (HYes.out HW.out)
      obtain ⟨hr1, hr2⟩ := hr
      have d1 : decide (N < 0) = false := decide_eq_false (by omega)
      have d2 : decide (g < N) = false := decide_eq_false (by omega)
      clear HD
      go_enter Tryd.func41, Tryd.ntmps41
      go_wp2_with fail
      refine C2.out.mono ?_
      rintro e w2 ⟨rfl, g2⟩
      have hg2 : Below (w.alloc (.cells zero7 41)).heap.size (w.alloc (.cells zero7 41)) w2 := g2
      rw [Hs0.out] at hg2
      have HB2 : Hid (Blk 41 w2 w.heap.size 7 (fun _ => 0)) := HB0.out.keep (hg2.block _ (by omega))
      have HW2 : Hid (Below w.heap.size w w2) := HW0.out.trans (hg2.mono (by omega))
      have hlt : w.heap.size < w2.heap.size := HB2.out.lt
      clear g2 hg2
      have HZ : Hid (Blk 41 (w2.alloc (.cells zero7 41)) w2.heap.size 7 (fun _ => 0)) := zero7_blk w2 _
      have HZB : Hid (Blk 41 (w2.alloc (.cells zero7 41)) w.heap.size 7 (fun _ => 0)) := HB2.out.alloc _
      have HZW : Hid (Below w.heap.size w (w2.alloc (.cells zero7 41))) := HW2.out.alloc (by omega) _
      go_wp2_with (first
        | ((with_reducible refine here ⟨none, .store 41 (.tmp 8) (.tmp 13), _, _, _, _⟩ ?_)
           refine wpList_store_blk rfl 41 (.tmp 8) (.tmp 13) rfl 41 w2.heap.size 7 (fun _ => 0) (sysF f (sysN f n)) rfl (by rw [← HC.out]; rfl) HZ.out szSys ?_
           intro w4 hb4 hm4
           have HX4 := Lib.hid hb4; have HB4 := Lib.hid (HZB.out.mid hm4 (by omega)); have HW4 : Hid (Below w.heap.size w w4) := hm4.bel HZW.out (by omega); clear hb4 hm4)
        | ((with_reducible refine here ⟨some 29, _, _, _, _, _⟩ ?_)
           refine wpList_load_blk rfl 41 (.tmp 8) rfl 41 w2.heap.size 7 _ _ rfl HX4.out Tryd.underlying41 rfl szSys ?_)
        | ((with_reducible refine here ⟨none, .store 41 (.tmp 6) (.tmp 29), _, _, _, _⟩ ?_)
           refine wpList_store_blk rfl 41 (.tmp 6) (.tmp 29) rfl 41 w.heap.size 7 (fun _ => 0) (sysF f (sysN f n)) rfl rfl HB4.out szSys ?_
           intro w5 hb5 hm5
           have HB5 := Lib.hid hb5; have HW5 : Hid (Below w.heap.size w w5) := hm5.bel HW4.out (by omega); clear hb5 hm5))
      refine bodyPost_ret (results_cell_val Tryd.results41 _ _ 41 w.heap.size 7 _ _ _ rfl rfl HB5.out Tryd.underlying41 rfl szSys) rfl ?_
      rw [HE.out, HC.out]
      exact SysR.mkY HW.out HW5.out
    · have HW : Hid (W = false) := Lib.hid (by rw [HD.out, decide_eq_false hr]; rfl)
      have HE := Lib.hid (HNo.out HW.out)
      clear HD
      rcases (show (N < 0) ∨ (0 ≤ N ∧ g < N) by omega) with h1 | ⟨h1, h2⟩
      all_goals
        clear hr
        have d1 : decide (N < 0) = decide (N < 0) := rfl
        clear d1
        go_enter Tryd.func41, Tryd.ntmps41
        go_wp2_with fail
        refine C2.out.mono ?_
        rintro e w2 ⟨rfl, g2⟩
        have hg2 : Below (w.alloc (.cells zero7 41)).heap.size (w.alloc (.cells zero7 41)) w2 := g2
        rw [Hs0.out] at hg2
        have HB2 : Hid (Blk 41 w2 w.heap.size 7 (fun _ => 0)) := HB0.out.keep (hg2.block _ (by omega))
        have HW2 : Hid (Below w.heap.size w w2) := HW0.out.trans (hg2.mono (by omega))
        have hlt : w.heap.size < w2.heap.size := HB2.out.lt
        clear g2 hg2
        have HZ : Hid (Blk 41 (w2.alloc (.cells zero7 41)) w2.heap.size 7 (fun _ => 0)) := zero7_blk w2 _
        have HZB : Hid (Blk 41 (w2.alloc (.cells zero7 41)) w.heap.size 7 (fun _ => 0)) := HB2.out.alloc _
        have HZW : Hid (Below w.heap.size w (w2.alloc (.cells zero7 41))) := HW2.out.alloc (by omega) _
        go_wp2_with (first
          | ((with_reducible refine here ⟨none, .store 41 (.tmp 8) (.tmp 13), _, _, _, _⟩ ?_)
             refine wpList_store_blk rfl 41 (.tmp 8) (.tmp 13) rfl 41 w2.heap.size 7 (fun _ => 0) (sysF f (sysN f n)) rfl (by rw [← HC.out]; rfl) HZ.out szSys ?_
             intro w4 hb4 hm4
             have HB4 := Lib.hid (HZB.out.mid hm4 (by omega)); have HW4 : Hid (Below w.heap.size w w4) := hm4.bel HZW.out (by omega); clear hb4 hm4)
          | ((with_reducible refine here ⟨none, .store 41 (.tmp 6) (.tmp 26), _, _, _, _⟩ ?_)
             refine wpList_store_blk rfl 41 (.tmp 6) (.tmp 26) rfl 41 w.heap.size 7 (fun _ => 0) (fun _ => 0) rfl rfl HB4.out szSys ?_
             intro w5 hb5 hm5
             have HB5 := Lib.hid hb5; have HW5 : Hid (Below w.heap.size w w5) := hm5.bel HW4.out (by omega); clear hb5 hm5))
        refine bodyPost_ret (results_cell_val Tryd.results41 _ _ 41 w.heap.size 7 _ _ _ rfl rfl HB5.out Tryd.underlying41 rfl szSys) rfl ?_
        rw [HE.out]
        exact SysR.mkN ⟨_, rfl⟩ HW.out HW5.out
end Go.Proofs.YtgcalmenlcpjpaaDoor
