/- The program's systemOf. -/
import Derived.Test.YtbepcmjjgpbgaaaBI2
namespace Go.Proofs.Ytbepcmjjgpbgaaa
open Go.RowKit
set_option linter.unusedVariables false
set_option maxRecDepth 100000
theorem szSys : (Try.prog.info? 48).map (·.size) = some 7 := by kernel_rfl
theorem szPile : (Try.prog.info? 52).map (·.size) = some 6 := by kernel_rfl
/-- what systemOf has looked at when it comes to number k -/
def Chn (f : Nat → Int) (k : Nat) : Prop := f 0 = 1 ∧ ∀ j, j + 1 < k → f j < f (j + 1) ∧ f (j + 1) % f j = 0
theorem Chn.pos {f : Nat → Int} {k : Nat} (h : Chn f k) : ∀ j, j < k → 1 ≤ f j
  | 0, _ => by rw [h.1]; omega
  | j + 1, hj => by have := h.pos j (by omega); have := (h.2 j hj).1; omega
theorem Chn.le {f : Nat → Int} {k : Nat} (h : Chn f k) : ∀ d j, j + d < k → f j ≤ f (j + d)
  | 0, _, _ => Int.le_refl _
  | d + 1, j, hj => by have := h.le d j (by omega); have := (h.2 (j + d) hj).1; rw [← Nat.add_assoc]; omega
theorem Chn.sys {f : Nat → Int} {n : Nat} (h : Chn f n) (h1 : 1 ≤ n) (h2 : n ≤ 6) : sysB f n = true ↔ f (n - 1) ≤ 1000000 := by
  rw [sysB_chk]
  constructor
  · rintro ⟨c, _⟩; exact (c.2.1 (n - 1) (by omega)).2
  · intro hl
    refine ⟨⟨fun _ => h.1, fun j hj => ⟨h.pos j hj, ?_⟩, h.2⟩, h1, h2⟩
    have := h.le (n - 1 - j) j (by omega)
    rw [show j + (n - 1 - j) = n - 1 by omega] at this
    omega
theorem Chn.of {f : Nat → Int} {n : Nat} (h : sysB f n = true) : Chn f n := by
  obtain ⟨c, h1, h2⟩ := (sysB_chk f n).1 h
  exact ⟨c.1 (by omega), c.2.2⟩
/-- how many values a system has: 0 if it is none -/
def sysN (f : Nat → Int) (n : Nat) : Nat := if sysB f n = true then n else 0
theorem sysN_yes {f : Nat → Int} {n : Nat} (h : sysB f n = true) : sysN f n = n := if_pos h
theorem sysN_no {f : Nat → Int} {n : Nat} (h : sysB f n = false) : sysN f n = 0 := by unfold sysN; rw [h]; rfl
def zero7 : Array Value := #[.int .i64 0, .int .i64 0, .int .i64 0, .int .i64 0, .int .i64 0, .int .i64 0, .int .i64 0]
def zero6 : Array Value := #[.int .i64 0, .int .i64 0, .int .i64 0, .int .i64 0, .int .i64 0, .int .i64 0]
theorem zero7_eq : zero7 = (intCells (fun _ => 0) 7).toArray := rfl
theorem zero6_eq : zero6 = (intCells (fun _ => 0) 6).toArray := rfl
theorem zero7_blk (w : World) (T : TypeId) : Blk T (w.alloc (.cells zero7 T)) w.heap.size 7 (fun _ => 0) := by rw [zero7_eq]; exact Blk.new w T 7 _
theorem zero6_blk (w : World) (T : TypeId) : Blk T (w.alloc (.cells zero6 T)) w.heap.size 6 (fun _ => 0) := by rw [zero6_eq]; exact Blk.new w T 6 _
theorem sysF_none (f : Nat → Int) (j : Nat) : sysF f 0 j = 0 := by unfold sysF; rw [if_neg (by omega)]; split <;> rfl
/-- the answer of systemOf when its result's block is told -/
theorem sys_ret {w w' : World} {f : Nat → Int} {n : Nat} {B : Bool} {b : Nat} {g : Nat → Int} {a : Act} (hs : sysB f n = B) (hb : Blk 48 w' b 7 g) (hg : ∀ j, j < 7 → g j = sysF f (sysN f n) j) (hw : Below w.heap.size w w')
    (h2 : a.tmps.getD 2 undef = .pointer (some ⟨b, 0, none⟩)) (h3 : a.tmps.getD 3 undef = .bool B) (hd : a.defers = []) :
    bodyPost Try.prog Try.f50 (fun e w' => e = .returned (.tuple #[.agg (arr7 f (sysN f n)), .bool (sysB f n)]) ∧ Below w.heap.size w w') .ret a w' := by
  refine bodyPost_ret (results_cell_tmp Try.results50 _ _ 48 b 7 g (.bool B) _ h2 h3 hb Try.underlying48 rfl szSys) hd ⟨?_, hw⟩
  unfold arr7
  rw [hs, intCells_congr hg]
set_option maxHeartbeats 600000 in
theorem systemOf_any (a : Option Addr) (n c : Nat) (f : Nat → Int) (w : World) (h : Ls w a n f) (hn : n ≤ 10000000) (hfit : ∀ j, j < n → f j ≤ 9223372036854775807) :
    Calls Try.prog 50 #[.slice a n c] w fun e w' => e = .returned (.tuple #[.agg (arr7 f (sysN f n)), .bool (sysB f n)]) ∧ Below w.heap.size w w' := by
  have H := Lib.hid h; have HF := Lib.hid hfit; clear h hfit
  have HB0 : Hid (Blk 48 (w.alloc (.cells zero7 48)) w.heap.size 7 (fun _ => 0)) := zero7_blk w _
  have HW0 : Hid (Below w.heap.size w (w.alloc (.cells zero7 48))) := (Below.refl _ _).alloc (Nat.le_refl _) _
  by_cases hn0 : n < 1 ∨ 6 < n
  · have HS : Hid (sysB f n = false) := by
      show _ = _
      rw [Bool.eq_false_iff]
      intro h
      have := ((sysB_chk f n).1 h).2
      omega
    rcases hn0 with hn0 | hn0
    · obtain rfl : n = 0 := by omega
      go_enter Try.func50, Try.ntmps50
      go_wp2_with ((with_reducible refine here ⟨none, .store 48 (.tmp 2) (.tmp 21), _, _, _, _⟩ ?_); refine wpList_store_blk rfl 48 (.tmp 2) (.tmp 21) rfl 48 w.heap.size 7 (fun _ => 0) (fun _ => 0) rfl rfl HB0.out szSys ?_; intro w2 hb2 hm2; have HB2 := Lib.hid hb2; have HM2 := Lib.hid hm2; clear hb2 hm2)
      exact sys_ret HS.out HB2.out (fun j hj => by rw [sysN_no HS.out, sysF_none]) (HM2.out.bel HW0.out (Nat.le_refl _)) rfl rfl rfl
    · go_enter Try.func50, Try.ntmps50
      go_wp2_with ((with_reducible refine here ⟨none, .store 48 (.tmp 2) (.tmp 21), _, _, _, _⟩ ?_); refine wpList_store_blk rfl 48 (.tmp 2) (.tmp 21) rfl 48 w.heap.size 7 (fun _ => 0) (fun _ => 0) rfl rfl HB0.out szSys ?_; intro w2 hb2 hm2; have HB2 := Lib.hid hb2; have HM2 := Lib.hid hm2; clear hb2 hm2)
      exact sys_ret HS.out HB2.out (fun j hj => by rw [sysN_no HS.out, sysF_none]) (HM2.out.bel HW0.out (Nat.le_refl _)) rfl rfl rfl
  · have hn1 : 1 ≤ n := by omega
    have hn6 : n ≤ 6 := by omega
    clear hn0
    have d1 : decide ((n : Int) < 1) = false := decide_eq_false (by omega)
    have d2 : decide (6 < (n : Int)) = false := decide_eq_false (by omega)
    by_cases hf0 : f 0 = 1
    · have H0 := Lib.hid hf0
      obtain ⟨b, off, rfl, hb, hc⟩ := H.out.pos hn1
      have Hc := Lib.hid hc
      have HBx := Lib.hid hb
      have hc0 : w.cell? ⟨b, off, none⟩ = some (.int .i64 1) := by (have := hc 0 hn1; rw [hf0] at this; exact this)
      have hcx : (w.alloc (.cells zero7 48)).cell? ⟨b, off, none⟩ = some (.int .i64 1) := (HW0.out.cell (p := ⟨b, off, none⟩) hb).trans hc0
      clear hf0 hc hc0
      unfold zero7 at hcx
      go_enter Try.func50, Try.ntmps50
      go_wp2_with fail
      have HWc := HW0
      obtain ⟨w1, hw1⟩ : ∃ w1, w1 = w.alloc (.cells zero7 48) := ⟨_, rfl⟩
      rw [← hw1] at HB0 HW0
      have Hw1 := Lib.hid hw1
      clear hw1
      go_loopw [5] (fun i wr => ∃ k q : Nat, i = .int .i64 k ∧ 1 ≤ k ∧ k ≤ n ∧ wr = w1.drewN q ∧ Chn f k) (fun i _ => n - (intOf i).toNat)
      case atStart => exact ⟨1, 0, rfl, by omega, hn1, Hw1.out.symm, H0.out, fun j hj => by omega⟩
      case round =>
        obtain ⟨k, q, rfl, hk1, hk, rfl, hchn⟩ := hrel
        have Hch := Lib.hid hchn; clear hchn
        have HBX : Hid (Blk 48 (w1.drewN q) w.heap.size 7 (fun _ => 0)) := HB0.out
        have HWX : Hid (Below w.heap.size w (w1.drewN q)) := bel_drewN HW0.out q
        have HCX : Hid (∀ j, j < n → (w1.drewN q).cell? ⟨b, off + j, none⟩ = some (.int .i64 (f j))) := fun j hj => (HWX.out.cell (p := ⟨b, off + j, none⟩) HBx.out).trans (Hc.out j hj)
        by_cases hlt : k < n
        · obtain ⟨j, rfl⟩ : ∃ j, k = j + 1 := ⟨k - 1, by omega⟩
          have hck : w1.cell? ⟨b, off + (j + 1), none⟩ = some (.int .i64 (f (j + 1))) := HCX.out (j + 1) hlt
          have hcj : w1.cell? ⟨b, off + j, none⟩ = some (.int .i64 (f j)) := HCX.out j (by omega)
          have hx1 := Hch.out.pos j (by omega)
          have hx2 := HF.out j (by omega)
          have hy2 := HF.out (j + 1) hlt
          have hno : ¬ (f j < f (j + 1) ∧ f (j + 1) % f j = 0) → sysB f n = false := fun e => by
            rw [Bool.eq_false_iff]
            exact fun h => e ((Chn.of h).2 j hlt)
          have hyes : f j < f (j + 1) → f (j + 1) % f j = 0 → Chn f (j + 2) := fun e1 e2 => ⟨Hch.out.1, fun i hi => by
            by_cases e : i = j
            · subst e; exact ⟨e1, e2⟩
            · exact Hch.out.2 i (by omega)⟩
          have Hno := Lib.hid hno; have Hyes := Lib.hid hyes
          clear hno hyes
          generalize f (j + 1) = y at *
          generalize f j = x at *
          by_cases h1 : x < y
          · have h1' : decide (y ≤ x) = false := decide_eq_false (by omega)
            have htm : y.tmod x = y % x := Int.tmod_eq_emod_of_nonneg (by omega)
            have hm0 : 0 ≤ y % x := Int.emod_nonneg _ (by omega)
            have hm1 : y % x < x := Int.emod_lt_of_pos _ (by omega)
            by_cases h2 : y % x = 0
            · have HC := Lib.hid (Hyes.out h1 h2)
              go_wp2_with fail
              go_quiet (fail)
              go_wp2_with fail
              go_roundw
              case rel => exact ⟨j + 2, _, by go_num, by omega, by omega, rfl, HC.out⟩
              case measure => simp [intOf]; omega
            · have HS := Lib.hid (Hno.out (fun e => h2 e.2))
              go_wp2_with fail
              go_quiet (fail)
              have HBY : Hid (Blk 48 (w1.drewN (q + nq)) w.heap.size 7 (fun _ => 0)) := HB0.out
              have HWY : Hid (Below w.heap.size w (w1.drewN (q + nq))) := bel_drewN HW0.out (q + nq)
              go_wp2_with ((with_reducible refine here ⟨none, .store 48 (.tmp 2) (.tmp 50), _, _, _, _⟩ ?_); refine wpList_store_blk rfl 48 (.tmp 2) (.tmp 50) rfl 48 w.heap.size 7 (fun _ => 0) (fun _ => 0) rfl rfl HBY.out szSys ?_; intro w2 hb2 hm2; have HB2 := Lib.hid hb2; have HM2 := Lib.hid hm2; clear hb2 hm2)
              exact sys_ret HS.out HB2.out (fun j hj => by rw [sysN_no HS.out, sysF_none]) (HM2.out.bel HWY.out (Nat.le_refl _)) rfl rfl rfl
          · have HS := Lib.hid (Hno.out (fun e => h1 e.1))
            have h1' : y ≤ x := by omega
            go_wp2_with fail
            go_quiet (fail)
            have HBY : Hid (Blk 48 (w1.drewN (q + nq)) w.heap.size 7 (fun _ => 0)) := HB0.out
            have HWY : Hid (Below w.heap.size w (w1.drewN (q + nq))) := bel_drewN HW0.out (q + nq)
            go_wp2_with ((with_reducible refine here ⟨none, .store 48 (.tmp 2) (.tmp 50), _, _, _, _⟩ ?_); refine wpList_store_blk rfl 48 (.tmp 2) (.tmp 50) rfl 48 w.heap.size 7 (fun _ => 0) (fun _ => 0) rfl rfl HBY.out szSys ?_; intro w2 hb2 hm2; have HB2 := Lib.hid hb2; have HM2 := Lib.hid hm2; clear hb2 hm2)
            exact sys_ret HS.out HB2.out (fun j hj => by rw [sysN_no HS.out, sysF_none]) (HM2.out.bel HWY.out (Nat.le_refl _)) rfl rfl rfl
        · obtain rfl : k = n := by omega
          obtain ⟨j, rfl⟩ : ∃ j, k = j + 1 := ⟨k - 1, by omega⟩
          have hsys := Hch.out.sys hk1 hn6
          rw [Nat.add_sub_cancel] at hsys
          have hcj : w1.cell? ⟨b, off + j, none⟩ = some (.int .i64 (f j)) := HCX.out j (by omega)
          by_cases hbig : f j ≤ 1000000
          · have HS := Lib.hid (hsys.2 hbig)
            clear hsys
            have hsz1 : w1.heap.size = w.heap.size + 1 := by rw [Hw1.out]; simp
            have Hsz := Lib.hid hsz1; clear hsz1
            have HA : Hid (Blk 48 ((w1.drewN q).alloc (.cells zero7 48)) w1.heap.size 7 (fun _ => 0)) := zero7_blk (w1.drewN q) _
            have HAW : Hid (Below (w.heap.size + 1) w1 ((w1.drewN q).alloc (.cells zero7 48))) := (bel_drewN (Below.refl _ _) q).alloc (by rw [← Hsz.out]; exact Nat.le_refl _) _
            go_wp2_with (first
              | (with_reducible refine here ⟨none, .store 48 (.tmp 6) (.tmp 59), _, _, _, _⟩ ?_
                 refine wpList_store_blk rfl 48 (.tmp 6) (.tmp 59) rfl 48 w1.heap.size 7 (fun _ => 0) (fun i => if i = 6 then (j : Int) + 1 else 0) rfl rfl HA.out szSys ?_
                 intro w2 hb2 hm2
                 have HB2 := Lib.hid hb2; have HM2 : Hid (Below (w.heap.size + 1) w1 w2) := hm2.bel HAW.out (by rw [← Hsz.out]; exact Nat.le_refl _)
                 have HL2 : Hid (Ls w2 (some ⟨b, off, none⟩) (j + 1) f) := H.out.below (HW0.out.trans (HM2.out.mono (by omega)))
                 clear hb2 hm2)
              | (with_reducible refine here ⟨some 63, _, _, _, _, _⟩ ?_
                 refine wpList_copy_ints rfl (.tmp 61) (.tmp 62) rfl 48 w1.heap.size 7 6 _ (j + 1) _ (j + 1) _ f _ rfl rfl HB2.out HL2.out (by omega) (by omega) ?_
                 intro w3 hb3 hm3
                 have HB3 := Lib.hid hb3; have HM3 : Hid (Below (w.heap.size + 1) w1 w3) := hm3.bel HM2.out (by rw [← Hsz.out]; exact Nat.le_refl _)
                 have HT3 : Hid (Blk 48 w3 w.heap.size 7 (fun _ => 0)) := HB0.out.keep (HM3.out.block _ (by omega))
                 clear hb3 hm3)
              | (with_reducible refine here ⟨some 64, _, _, _, _, _⟩ ?_
                 refine wpList_load_blk rfl 48 (.tmp 6) rfl 48 w1.heap.size 7 _ _ rfl HB3.out Try.underlying48 rfl szSys ?_)
              | (with_reducible refine here ⟨none, .store 48 (.tmp 2) (.tmp 64), _, _, _, _⟩ ?_
                 refine wpList_store_blk rfl 48 (.tmp 2) (.tmp 64) rfl 48 w.heap.size 7 (fun _ => 0) _ rfl rfl HT3.out szSys ?_
                 intro w4 hb4 hm4
                 have HB4 := Lib.hid hb4; have HM4 := Lib.hid hm4; clear hb4 hm4))
            exact sys_ret HS.out HB4.out (fun i hi => by
              rw [sysN_yes HS.out]
              unfold sysF
              by_cases e : i < j + 1
              · rw [if_pos e, if_pos e]
              · rw [if_neg e, if_neg e]; split <;> simp) (HM4.out.bel (HW0.out.trans (HM3.out.mono (by omega))) (Nat.le_refl _)) rfl rfl rfl
          · have HS : Hid (sysB f (j + 1) = false) := by show _ = _; rw [Bool.eq_false_iff]; exact fun h => hbig (hsys.1 h)
            clear hsys
            go_wp2_with ((with_reducible refine here ⟨none, .store 48 (.tmp 2) (.tmp 57), _, _, _, _⟩ ?_); refine wpList_store_blk rfl 48 (.tmp 2) (.tmp 57) rfl 48 w.heap.size 7 (fun _ => 0) (fun _ => 0) rfl rfl HBX.out szSys ?_; intro w2 hb2 hm2; have HB2 := Lib.hid hb2; have HM2 := Lib.hid hm2; clear hb2 hm2)
            exact sys_ret HS.out HB2.out (fun j hj => by rw [sysN_no HS.out, sysF_none]) (HM2.out.bel HWX.out (Nat.le_refl _)) rfl rfl rfl
    · have HS : Hid (sysB f n = false) := by show _ = _; rw [Bool.eq_false_iff]; exact fun h => hf0 (Chn.of h).1
      obtain ⟨b, off, rfl, hb, hc⟩ := H.out.pos hn1
      have hcx : (w.alloc (.cells zero7 48)).cell? ⟨b, off, none⟩ = some (.int .i64 (f 0)) := (HW0.out.cell (p := ⟨b, off, none⟩) hb).trans (hc 0 hn1)
      clear hc
      unfold zero7 at hcx
      go_enter Try.func50, Try.ntmps50
      go_wp2_with ((with_reducible refine here ⟨none, .store 48 (.tmp 2) (.tmp 21), _, _, _, _⟩ ?_); refine wpList_store_blk rfl 48 (.tmp 2) (.tmp 21) rfl 48 w.heap.size 7 (fun _ => 0) (fun _ => 0) rfl rfl HB0.out szSys ?_; intro w2 hb2 hm2; have HB2 := Lib.hid hb2; have HM2 := Lib.hid hm2; clear hb2 hm2)
      exact sys_ret HS.out HB2.out (fun j hj => by rw [sysN_no HS.out, sysF_none]) (HM2.out.bel HW0.out (Nat.le_refl _)) rfl rfl rfl
end Go.Proofs.Ytbepcmjjgpbgaaa
