/- The program's small functions on signed piles: with, turned. -/
import Derived.Test.YtgcalmenlcpjpaaDoorEC
namespace Go.Proofs.YtgcalmenlcpjpaaDoor
open Go.RowKit
set_option linter.unusedVariables false
set_option maxRecDepth 100000
theorem boxes (w : World) (A B : Array Value) (T U : TypeId) : ∃ w1, w1 = (w.alloc (.cells A T)).alloc (.cells B U) ∧ w1.heap[w.heap.size]? = some (.cells A T (0, 0)) ∧ w1.heap[w.heap.size + 1]? = some (.cells B U (0, 0)) ∧ Below w.heap.size w w1 ∧ w1.heap.size = w.heap.size + 2 :=
  ⟨_, rfl, (two_boxes w A B T U).1, (two_boxes w A B T U).2, two_bel w _ _, by simp⟩
def putN (p : Nat → Int) (k : Nat) (x : Int) (j : Nat) : Int := if j = k then x else p j
def putB (t : Nat → Bool) (k : Nat) (x : Bool) (j : Nat) : Bool := if j = k then x else t j
set_option maxHeartbeats 1000000 in
theorem with_any (p : Nat → Int) (t : Nat → Bool) (k : Nat) (hk : k < 6) (x : Int) (b : Bool) (w : World) :
    Calls Tryd.prog 74 #[.agg (sgA p t), .int .i64 k, .int .i64 x, .bool b] w fun e w' => e = .returned (.agg (sgA (putN p k x) (putB t k b))) ∧ Below w.heap.size w w' := by
  obtain ⟨w1, hw1, hb1, hb2, hbel, hsz⟩ := boxes w (sgA p t) zero12 50 50
  have HS1 : Hid (Sg w1 w.heap.size p t) := Lib.hid hb1
  have HZ1 : Hid (Sg w1 (w.heap.size + 1) (fun _ => 0) (fun _ => false)) := Lib.hid (by rw [zero12_eq] at hb2; exact hb2)
  have HB := Lib.hid hbel
  have hc1 : w1.cell? ⟨w.heap.size, k, none⟩ = some (.int .i64 (p k)) := by rw [← sgV_num p t k hk]; exact HS1.out.cell k (by omega)
  have hf1 := HS1.out.frozen k
  have HS2 := Lib.hid (set_num HS1.out k hk x)
  have hc2 : (w1.setCell ⟨w.heap.size, k, none⟩ (.int .i64 x)).cell? ⟨w.heap.size, 6 + k, none⟩ = some (.bool (t k)) := by rw [← sgV_mark (putN p k x) t k]; exact HS2.out.cell (6 + k) (by omega)
  have hf2 := HS2.out.frozen (6 + k)
  have HS3 := Lib.hid (set_mark HS2.out k b)
  have HM : Hid (Mid w.heap.size (w.heap.size + 1) w1 ((w1.setCell ⟨w.heap.size, k, none⟩ (.int .i64 x)).setCell ⟨w.heap.size, 6 + k, none⟩ (.bool b))) := Lib.hid (((Mid.refl _ _ _).setCell (Nat.le_refl _) (by omega) _ _).setCell (Nat.le_refl _) (by omega) _ _)
  have HZ3 := Lib.hid (VRow.mid HZ1.out HM.out (by omega))
  clear hb1 hb2 hbel hsz
  have HE : Hid (sgA p t = (vals (sgV p t) 12).toArray) := Lib.hid rfl
  generalize sgA p t = A at *
  unfold zero12 at hw1
  have Hw1 := Lib.hid hw1
  clear hw1
  go_enter Tryd.func74, Tryd.ntmps74
  go_wp2_with (first
    | ((with_reducible refine here ⟨none, .store 3 (.tmp 12) (.tmp 10), _, _, _, _⟩ ?_)
       rw [← Hw1.out])
    | ((with_reducible refine here ⟨some 17, _, _, _, _, _⟩ ?_)
       refine wpList_load_vals rfl 50 (.tmp 4) rfl 50 w.heap.size 12 0 12 _ _ rfl HS3.out (by omega) Tryd.underlying50 rfl szSg ?_)
    | ((with_reducible refine here ⟨none, .store 50 (.tmp 8) (.tmp 17), _, _, _, _⟩ ?_)
       refine wpList_store_vals rfl 50 (.tmp 8) (.tmp 17) rfl 50 (w.heap.size + 1) 12 0 12 _ _ rfl rfl HZ3.out (by omega) szSg (fun j hj => sgV_one _ _ 12 (0 + j) (by omega)) ?_
       intro w4 hb4 hm4
       have HB4 := Lib.hid hb4; have HM4 := Lib.hid hm4; clear hb4 hm4))
  refine bodyPost_ret (results_vals1 Tryd.results74 _ _ 50 (w.heap.size + 1) 12 _ _ rfl HB4.out Tryd.underlying50 rfl szSg) rfl ⟨?_, HM4.out.bel (HM.out.bel HB.out (Nat.le_refl _)) (by omega)⟩
  rw [vals_congr (fun j hj => ovr_all _ _ 12 j hj), sg_all]
  rfl
def notB (t : Nat → Bool) (j : Nat) : Bool := !t j
theorem not_step {w : World} {b : Nat} {p : Nat → Int} {t : Nat → Bool} {k : Nat} (h : Sg w b p (fun j => if j < k then !t j else t j)) : Sg (w.setCell ⟨b, 6 + k, none⟩ (.bool (!t k))) b p (fun j => if j < k + 1 then !t j else t j) := by
  refine VRow.congr (set_mark h k (!t k)) fun j hj => ?_
  unfold sgV
  by_cases g : j < 6
  · rw [if_pos g, if_pos g]
  · rw [if_neg g, if_neg g]
    congr 1
    show (if j - 6 = k then !t k else if j - 6 < k then !t (j - 6) else t (j - 6)) = if j - 6 < k + 1 then !t (j - 6) else t (j - 6)
    by_cases e : j - 6 = k
    · rw [if_pos e, if_pos (by omega), e]
    · rw [if_neg e]
      by_cases e2 : j - 6 < k
      · rw [if_pos e2, if_pos (by omega)]
      · rw [if_neg e2, if_neg (by omega)]
set_option maxHeartbeats 1000000 in
theorem turned_any (p : Nat → Int) (t : Nat → Bool) (w : World) :
    Calls Tryd.prog 55 #[.agg (sgA p t)] w fun e w' => e = .returned (.agg (sgA p (notB t))) ∧ Below w.heap.size w w' := by
  obtain ⟨w1, hw1, hb1, hb2, hbel, hsz⟩ := boxes w (sgA p t) zero12 50 50
  have HS1 : Hid (Sg w1 w.heap.size p t) := Lib.hid hb1
  have HZ1 : Hid (Sg w1 (w.heap.size + 1) (fun _ => 0) (fun _ => false)) := Lib.hid (by rw [zero12_eq] at hb2; exact hb2)
  have HB := Lib.hid hbel
  clear hb1 hb2 hbel hsz
  generalize sgA p t = A at *
  unfold zero12 at hw1
  have Hw1 := Lib.hid hw1
  clear hw1
  go_enter Tryd.func55, Tryd.ntmps55
  go_wp2_with fail
  go_loopw [4] (fun i wr => ∃ k : Nat, i = .int .i64 k ∧ k ≤ 6 ∧ Sg wr w.heap.size p (fun j => if j < k then !t j else t j) ∧ Mid w.heap.size (w.heap.size + 1) w1 wr) (fun i _ => 6 - (intOf i).toNat)
  case atStart => exact ⟨0, rfl, by omega, by { rw [← Hw1.out]; exact VRow.congr HS1.out fun j hj => by simp }, by { rw [← Hw1.out]; exact Mid.refl _ _ _ }⟩
  case round =>
    obtain ⟨k, rfl, hk, hsg, hmid⟩ := hrel
    have Hs := Lib.hid hsg; have Hm := Lib.hid hmid
    clear hsg hmid
    by_cases hlt : k < 6
    · have hc : wr.cell? ⟨w.heap.size, 6 + k, none⟩ = some (.bool (t k)) := by
        have h := sgV_mark p (fun j => if j < k then !t j else t j) k
        rw [if_neg (Nat.lt_irrefl k)] at h
        rw [← h]; exact VRow.cell Hs.out (6 + k) (by omega)
      have hf := VRow.frozen Hs.out (6 + k)
      have HN := Lib.hid (not_step Hs.out)
      have HM := Lib.hid (Hm.out.setCell (Nat.le_refl _) (by omega) (6 + k) (.bool (!t k)))
      generalize t k = b at *
      go_wp2_with fail
      go_roundw
      case rel => exact ⟨k + 1, by go_num, by omega, HN.out, HM.out⟩
      case measure => simp [intOf]; omega
    · obtain rfl : k = 6 := by omega
      have HT := Lib.hid (VRow.mid HZ1.out Hm.out (by omega))
      go_wp2_with (first
        | ((with_reducible refine here ⟨some 16, _, _, _, _, _⟩ ?_)
           refine wpList_load_vals rfl 50 (.tmp 1) rfl 50 w.heap.size 12 0 12 _ _ rfl Hs.out (by omega) Tryd.underlying50 rfl szSg ?_)
        | ((with_reducible refine here ⟨none, .store 50 (.tmp 2) (.tmp 16), _, _, _, _⟩ ?_)
           refine wpList_store_vals rfl 50 (.tmp 2) (.tmp 16) rfl 50 (w.heap.size + 1) 12 0 12 _ _ rfl rfl HT.out (by omega) szSg (fun j hj => sgV_one _ _ 12 (0 + j) (by omega)) ?_
           intro w4 hb4 hm4
           have HB4 := Lib.hid hb4; have HM4 := Lib.hid hm4; clear hb4 hm4))
      refine bodyPost_ret (results_vals1 Tryd.results55 _ _ 50 (w.heap.size + 1) 12 _ _ rfl HB4.out Tryd.underlying50 rfl szSg) rfl ⟨?_, HM4.out.bel (Hm.out.bel HB.out (Nat.le_refl _)) (by omega)⟩
      rw [vals_congr (fun j hj => ovr_all _ _ 12 j hj), sg_all]
      rw [sgA_congr (fun _ _ => rfl) (fun j hj => show (if j < 6 then !t j else t j) = notB t j by rw [if_pos hj]; rfl)]
end Go.Proofs.YtgcalmenlcpjpaaDoor
