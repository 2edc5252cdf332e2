/- The program's pileOf, plainOf. -/
import Derived.Test.YtbepcmjjgpbgaaaBI3
namespace Go.Proofs.Ytbepcmjjgpbgaaa
open Go.RowKit
set_option linter.unusedVariables false
set_option maxRecDepth 100000
/-- a pile with 0 behind its numbers -/
def pad (p : Nat → Int) (n j : Nat) : Int := if j < n then p j else 0
theorem pad_none (p : Nat → Int) (j : Nat) : pad p 0 j = 0 := if_neg (by omega)
theorem pad_in (p : Nat → Int) (n j : Nat) (h : j < n) : pad p n j = p j := if_pos h
/-- are these the numbers of a pile of n values? -/
def numB (p : Nat → Int) (m n : Nat) : Bool := decide (m = n ∧ ∀ j, j < m → 0 ≤ p j ∧ p j ≤ 1000000)
theorem pilB_eq (f : Nat → Int) (n : Nat) (p : Nat → Int) (m : Nat) : pilB f n p m = (sysB f n && numB p m n) := rfl
theorem numB_spec {p : Nat → Int} {m n : Nat} : numB p m n = true ↔ m = n ∧ ∀ j, j < m → 0 ≤ p j ∧ p j ≤ 1000000 := by unfold numB; rw [decide_eq_true_eq]
def numN (p : Nat → Int) (m n : Nat) : Nat := if numB p m n = true then n else 0
theorem numN_yes {p : Nat → Int} {m n : Nat} (h : numB p m n = true) : numN p m n = n := if_pos h
theorem numN_no {p : Nat → Int} {m n : Nat} (h : numB p m n = false) : numN p m n = 0 := by unfold numN; rw [h]; rfl
theorem pile_ret {w w' : World} {p : Nat → Int} {m n : Nat} {B : Bool} {b : Nat} {g : Nat → Int} {a : Act} (hs : numB p m n = B) (hb : Blk 52 w' b 6 g) (hg : ∀ j, j < 6 → g j = pad p (numN p m n) j) (hw : Below w.heap.size w w')
    (h2 : a.tmps.getD 4 undef = .pointer (some ⟨b, 0, none⟩)) (h3 : a.tmps.getD 5 undef = .bool B) (hd : a.defers = []) :
    bodyPost Try.prog Try.f67 (fun e w' => e = .returned (.tuple #[.agg (arr6 (pad p (numN p m n))), .bool (numB p m n)]) ∧ Below w.heap.size w w') .ret a w' := by
  refine bodyPost_ret (results_cell_tmp Try.results67 _ _ 52 b 6 g (.bool B) _ h2 h3 hb Try.underlying52 rfl szPile) hd ⟨?_, hw⟩
  unfold arr6
  rw [hs, intCells_congr hg]
set_option maxHeartbeats 1000000 in
theorem pileOf_any (f : Nat → Int) (n : Nat) (a : Option Addr) (m c : Nat) (p : Nat → Int) (w : World) (h : Ls w a m p) (hm : m ≤ 10000000) (hn : n ≤ 6) :
    Calls Try.prog 67 #[.agg (arr7 f n), .slice a m c] w fun e w' => e = .returned (.tuple #[.agg (arr6 (pad p (numN p m n))), .bool (numB p m n)]) ∧ Below w.heap.size w w' := by
  have H := Lib.hid h; clear h
  have h6 := arr7_count f n hn
  generalize arr7 f n = A at *
  have HW0 := Lib.hid (two_bel w (.cells A 48) (.cells zero6 52))
  have HB0 : Hid (Blk 52 ((w.alloc (.cells A 48)).alloc (.cells zero6 52)) (w.heap.size + 1) 6 (fun _ => 0)) := by
    have := zero6_blk (w.alloc (.cells A 48)) 52
    simp only [World.alloc, Array.size_push] at this ⊢
    exact this
  by_cases hmn : m = n
  · subst hmn
    go_enter Try.func67, Try.ntmps67
    go_wp2_with fail
    obtain ⟨w1, hw1⟩ : ∃ w1, w1 = (w.alloc (.cells A 48)).alloc (.cells zero6 52) := ⟨_, rfl⟩
    rw [← hw1] at HB0 HW0
    have Hw1 := Lib.hid hw1
    clear hw1
    go_loopw [17] (fun i wr => ∃ k : Nat, i = .int .i64 k ∧ k ≤ m ∧ wr = w1 ∧ ∀ j, j < k → 0 ≤ p j ∧ p j ≤ 1000000) (fun i _ => m - (intOf i).toNat)
    case atStart => exact ⟨0, rfl, by omega, Hw1.out.symm, fun j hj => by omega⟩
    case round =>
      obtain ⟨k, rfl, hk, rfl, hall⟩ := hrel
      have Ha := Lib.hid hall; clear hall
      by_cases hlt : k < m
      · obtain ⟨b1, o1, rfl, hb1, hc1⟩ := (H.out.below HW0.out) k hlt
        by_cases hin : 0 ≤ p k ∧ p k ≤ 1000000
        · have Ha' : Hid (∀ j, j < k + 1 → 0 ≤ p j ∧ p j ≤ 1000000) := fun j hj => by
            by_cases e : j = k
            · subst e; exact hin
            · exact Ha.out j (by omega)
          obtain ⟨hin1, hin2⟩ := hin
          go_wp2_with fail
          go_roundw
          case rel => exact ⟨k + 1, by go_num, by omega, (by first | rfl | trivial), Ha'.out⟩
          case measure => simp [intOf]; omega
        · have HS : Hid (numB p m m = false) := by
            show _ = _
            rw [Bool.eq_false_iff]
            exact fun h => hin ((numB_spec.1 h).2 k hlt)
          by_cases hneg : p k < 0
          · go_wp2_with ((with_reducible refine here ⟨none, .store 52 (.tmp 4) (.tmp 27), _, _, _, _⟩ ?_); refine wpList_store_blk rfl 52 (.tmp 4) (.tmp 27) rfl 52 (w.heap.size + 1) 6 (fun _ => 0) (fun _ => 0) rfl rfl HB0.out szPile ?_; intro w2 hb2 hm2; have HB2 := Lib.hid hb2; have HM2 := Lib.hid hm2; clear hb2 hm2)
            exact pile_ret HS.out HB2.out (fun j hj => by rw [numN_no HS.out, pad_none]) (HM2.out.bel HW0.out (by omega)) rfl rfl rfl
          · have hbig : 1000000 < p k := by omega
            have hneg' : 0 ≤ p k := by omega
            clear hin hneg
            go_wp2_with ((with_reducible refine here ⟨none, .store 52 (.tmp 4) (.tmp 27), _, _, _, _⟩ ?_); refine wpList_store_blk rfl 52 (.tmp 4) (.tmp 27) rfl 52 (w.heap.size + 1) 6 (fun _ => 0) (fun _ => 0) rfl rfl HB0.out szPile ?_; intro w2 hb2 hm2; have HB2 := Lib.hid hb2; have HM2 := Lib.hid hm2; clear hb2 hm2)
            exact pile_ret HS.out HB2.out (fun j hj => by rw [numN_no HS.out, pad_none]) (HM2.out.bel HW0.out (by omega)) rfl rfl rfl
      · obtain rfl : k = m := by omega
        have HS : Hid (numB p k k = true) := numB_spec.2 ⟨rfl, Ha.out⟩
        have hsz1 : wr.heap.size = w.heap.size + 1 + 1 := by rw [Hw1.out]; simp
        have Hsz := Lib.hid hsz1; clear hsz1
        have HA : Hid (Blk 52 (wr.alloc (.cells zero6 52)) wr.heap.size 6 (fun _ => 0)) := zero6_blk wr _
        have HAW : Hid (Below (w.heap.size + 2) wr (wr.alloc (.cells zero6 52))) := (Below.refl _ _).alloc (by rw [Hsz.out]; exact Nat.le_refl _) _
        have HL : Hid (Ls (wr.alloc (.cells zero6 52)) a k p) := (H.out.below HW0.out).below ((Below.refl _ _).alloc (Nat.le_refl _) _)
        go_wp2_with (first
          | ((with_reducible refine here ⟨some 31, _, _, _, _, _⟩ ?_)
             refine wpList_copy_ints rfl (.tmp 29) (.tmp 30) rfl 52 wr.heap.size 6 6 _ k _ k _ p _ rfl rfl HA.out HL.out (by omega) (by omega) ?_
             intro w3 hb3 hm3
             have HB3 := Lib.hid hb3; have HM3 : Hid (Below (w.heap.size + 2) wr w3) := hm3.bel HAW.out (by rw [Hsz.out]; exact Nat.le_refl _)
             have HT3 : Hid (Blk 52 w3 (w.heap.size + 1) 6 (fun _ => 0)) := HB0.out.keep (HM3.out.block _ (by omega))
             clear hb3 hm3)
          | ((with_reducible refine here ⟨some 32, _, _, _, _, _⟩ ?_)
             refine wpList_load_blk rfl 52 (.tmp 8) rfl 52 wr.heap.size 6 _ _ rfl HB3.out Try.underlying52 rfl szPile ?_)
          | ((with_reducible refine here ⟨none, .store 52 (.tmp 4) (.tmp 32), _, _, _, _⟩ ?_)
             refine wpList_store_blk rfl 52 (.tmp 4) (.tmp 32) rfl 52 (w.heap.size + 1) 6 (fun _ => 0) _ rfl rfl HT3.out szPile ?_
             intro w4 hb4 hm4
             have HB4 := Lib.hid hb4; have HM4 := Lib.hid hm4; clear hb4 hm4))
        exact pile_ret HS.out HB4.out (fun i hi => by rw [numN_yes HS.out]; rfl) (HM4.out.bel (HW0.out.trans (HM3.out.mono (by omega))) (by omega)) rfl rfl rfl
  · have HS : Hid (numB p m n = false) := by
      show _ = _
      rw [Bool.eq_false_iff]
      exact fun h => hmn (numB_spec.1 h).1
    go_enter Try.func67, Try.ntmps67
    go_wp2_with ((with_reducible refine here ⟨none, .store 52 (.tmp 4) (.tmp 14), _, _, _, _⟩ ?_); refine wpList_store_blk rfl 52 (.tmp 4) (.tmp 14) rfl 52 (w.heap.size + 1) 6 (fun _ => 0) (fun _ => 0) rfl rfl HB0.out szPile ?_; intro w2 hb2 hm2; have HB2 := Lib.hid hb2; have HM2 := Lib.hid hm2; clear hb2 hm2)
    exact pile_ret HS.out HB2.out (fun j hj => by rw [numN_no HS.out, pad_none]) (HM2.out.bel HW0.out (by omega)) rfl rfl rfl
theorem results_cell1 {P : Program} {fn : Func} {p : Tmp} {ty : TypeId} (h : fn.results = #[.cell p ty]) (tmps : Array Value) (w : World) (T : TypeId) (b N : Nat) (f : Nat → Int) (d : TypeDesc)
    (hp : tmps.getD p undef = .pointer (some ⟨b, 0, none⟩)) (hb : Blk T w b N f) (hu : P.underlying ty = some d) (hd : isRowT d = true) (hi : (P.info? ty).map (·.size) = some N) :
    (results fn tmps).run P w = .ok (.agg (intCells f N).toArray) w :=
  results_cell_row h tmps w b T _ _ d hp hb hu (by cases d <;> simp_all [isRowT]) (by rw [hi]; simp [intCells])
theorem three_boxes (w : World) (A B C : Array Value) (T U V : TypeId) :
    (((w.alloc (.cells A T)).alloc (.cells B U)).alloc (.cells C V)).heap[w.heap.size]? = some (.cells A T (0, 0)) ∧
    (((w.alloc (.cells A T)).alloc (.cells B U)).alloc (.cells C V)).heap[w.heap.size + 1]? = some (.cells B U (0, 0)) ∧
    (((w.alloc (.cells A T)).alloc (.cells B U)).alloc (.cells C V)).heap[w.heap.size + 2]? = some (.cells C V (0, 0)) ∧
    (((w.alloc (.cells A T)).alloc (.cells B U)).alloc (.cells C V)).heap.size = w.heap.size + 3 ∧
    Below w.heap.size w (((w.alloc (.cells A T)).alloc (.cells B U)).alloc (.cells C V)) := by
  obtain ⟨h1, h2⟩ := two_boxes w A B T U
  refine ⟨(Below.heap_alloc _ _ _ (by simp; omega)).trans h1, (Below.heap_alloc _ _ _ (by simp)).trans h2, ?_, by simp, (two_bel w _ _).alloc (by simp; omega) _⟩
  have := heap_alloc_new ((w.alloc (.cells A T)).alloc (.cells B U)) (.cells C V)
  simpa using this
theorem Blk.down {T : TypeId} {w : World} {b N n k : Nat} {f : Nat → Int} (h : Blk T w b N (fun j => if k + 1 ≤ j ∧ j < n then f j else 0)) (hk : k < n) : Blk T (w.setCell ⟨b, k, none⟩ (.int .i64 (f k))) b N (fun j => if k ≤ j ∧ j < n then f j else 0) :=
  (h.set_ k (f k)).congr fun j hj => by
    by_cases e : j = k
    · subst e; simp [hk]
    · rw [if_neg e]
      by_cases h2 : k + 1 ≤ j ∧ j < n
      · rw [if_pos h2, if_pos (by omega)]
      · rw [if_neg h2, if_neg (by omega)]
set_option maxHeartbeats 1000000 in
theorem plainOf_any (f : Nat → Int) (n : Nat) (N : Int) (w : World) (hs : SysF f n) (hn : n ≤ 6) (hf : ∀ j, j < n → f j ≤ 1000000) (h0 : 0 ≤ N) (h1 : N ≤ 1000000) :
    Calls Try.prog 52 #[.agg (arr7 f n), .int .i64 N] w fun e w' => e = .returned (.agg (arr6 (pad (pl f n N) n))) ∧ Below w.heap.size w w' := by
  have HS := Lib.hid hs; have HF := Lib.hid hf; clear hs hf
  have h6 := arr7_count f n hn
  have HA : Hid (arr7 f n = (intCells (sysF f n) 7).toArray) := rfl
  have HX := Lib.hid (three_boxes w (arr7 f n) zero6 zero6 48 52 52)
  have Hrest : Hid (rest f n N n = N) := by show _ = _; unfold rest; rw [if_neg (by omega)]
  generalize arr7 f n = A at *
  go_enter Try.func52, Try.ntmps52
  go_wp2_with fail
  obtain ⟨w1, hw1⟩ : ∃ w1, w1 = ((w.alloc (.cells A 48)).alloc (.cells zero6 52)).alloc (.cells zero6 52) := ⟨_, rfl⟩
  rw [← hw1] at HX
  have Hw1 := Lib.hid hw1
  clear hw1
  have HB1 : Hid (Blk 48 w1 w.heap.size 7 (sysF f n)) := by show _ = _; rw [← HA.out]; exact HX.out.1
  have HB2 : Hid (Blk 52 w1 (w.heap.size + 1) 6 (fun _ => 0)) := by show _ = _; rw [← zero6_eq]; exact HX.out.2.1
  have HB3 : Hid (Blk 52 w1 (w.heap.size + 2) 6 (fun _ => 0)) := by show _ = _; rw [← zero6_eq]; exact HX.out.2.2.1
  have HBw := Lib.hid HX.out.2.2.2.2
  go_loopw [1, 6] (fun x i wr => ∃ k : Nat, DownIx k i ∧ k ≤ n ∧ x = .int .i64 (rest f n N k) ∧ Blk 52 wr (w.heap.size + 2) 6 (fun j => if k ≤ j ∧ j < n then pl f n N j else 0) ∧ Mid (w.heap.size + 2) (w.heap.size + 3) w1 wr) (fun _ i _ => (intOf i + 1).toNat)
  case atStart => exact ⟨n, downIx_mk n, by omega, by rw [Hrest.out], by { have e := Hw1.out; unfold zero6 at e; rw [← e]; exact HB3.out.congr fun j hj => by rw [if_neg (by omega)] }, by { have e := Hw1.out; unfold zero6 at e; rw [← e]; exact Mid.refl _ _ _ }⟩
  case round =>
    obtain ⟨k, hik, hk, rfl, hblk, hmid⟩ := hrel
    have Hb := Lib.hid hblk; have Hm := Lib.hid hmid
    rcases hik with ⟨rfl, rfl⟩ | ⟨k, rfl, rfl⟩
    · have HT : Hid (Blk 52 wr (w.heap.size + 1) 6 (fun _ => 0)) := HB2.out.mid Hm.out (by omega)
      clear hblk hmid
      go_wp2_with (first
        | ((with_reducible refine here ⟨some 28, _, _, _, _, _⟩ ?_)
           refine wpList_load_blk rfl 52 (.tmp 5) rfl 52 (w.heap.size + 2) 6 _ _ rfl Hb.out Try.underlying52 rfl szPile ?_)
        | ((with_reducible refine here ⟨none, .store 52 (.tmp 4) (.tmp 28), _, _, _, _⟩ ?_)
           refine wpList_store_blk rfl 52 (.tmp 4) (.tmp 28) rfl 52 (w.heap.size + 1) 6 (fun _ => 0) _ rfl rfl HT.out szPile ?_
           intro w4 hb4 hm4
           have HB4 := Lib.hid hb4; have HM4 := Lib.hid hm4; clear hb4 hm4))
      refine bodyPost_ret (results_cell1 Try.results52 _ _ 52 (w.heap.size + 1) 6 _ _ rfl HB4.out Try.underlying52 rfl szPile) rfl ⟨?_, HM4.out.bel (Hm.out.bel HBw.out (by omega)) (by omega)⟩
      unfold arr6
      rw [intCells_congr (g := pad (pl f n N) n)]
      intro j hj
      unfold pad
      by_cases e : j < n
      · rw [if_pos e, if_pos (by omega)]
      · rw [if_neg e, if_neg (by omega)]
    · have hc1 : wr.cell? ⟨w.heap.size, k, none⟩ = some (.int .i64 (f k)) := by
        have := (HB1.out.mid Hm.out (by omega)).cell k (by omega)
        rw [sysF_at f n k (by omega)] at this
        exact this
      obtain ⟨v0, hv0⟩ : ∃ v0, wr.cell? ⟨w.heap.size + 2, k, none⟩ = some v0 := ⟨_, hblk.cell k (by omega)⟩
      have hfr := hblk.frozen k
      have hfp := HS.out.pos k (by omega)
      have hf6 := HF.out k (by omega)
      have hr0 := rest_nonneg HS.out N h0 (k + 1)
      have hr1 := Int.le_trans (rest_le HS.out N h0 (k + 1)) h1
      have Hst := Lib.hid (rest_step HS.out N k (by omega))
      have Hpl : Hid (pl f n N k = rest f n N (k + 1) / f k) := rfl
      have HO : Hid (Blk 52 (wr.setCell ⟨w.heap.size + 2, k, none⟩ (.int .i64 (rest f n N (k + 1) / f k))) (w.heap.size + 2) 6 (fun j => if k ≤ j ∧ j < n then pl f n N j else 0)) := by
        rw [← Hpl.out]; exact Hb.out.down (by omega)
      have HM : Hid (Mid (w.heap.size + 2) (w.heap.size + 3) w1 (wr.setCell ⟨w.heap.size + 2, k, none⟩ (.int .i64 (rest f n N (k + 1) / f k)))) := Hm.out.setCell (by omega) (by omega) _ _
      have hc2 : (wr.setCell ⟨w.heap.size + 2, k, none⟩ (.int .i64 (rest f n N (k + 1) / f k))).cell? ⟨w.heap.size, k, none⟩ = some (.int .i64 (f k)) := by
        have := (HB1.out.mid HM.out (by omega)).cell k (by omega)
        rw [sysF_at f n k (by omega)] at this
        exact this
      clear hblk hmid
      generalize rest f n N (k + 1) = r at *
      generalize f k = v at *
      go_wp2_with fail
      go_roundw
      case rel => exact ⟨k, downIx_mk k, by omega, by rw [Hst.out], HO.out, HM.out⟩
      case measure => simp [intOf]
end Go.Proofs.Ytbepcmjjgpbgaaa
