/- The program's firstOf, for both of its function values. -/
import Derived.Test.YthgagidpnnaajaaDoorQL
import Derived.Test.YthgagidpnnaajaaDoorQG
namespace Go.Proofs.YthgagidpnnaajaaDoor
open Go.RowKit
set_option linter.unusedVariables false
set_option maxRecDepth 100000
def hitB (N : Nat) (F : Nat → Nat → Nat) (W : Nat → Int) (r f : Nat) : Bool := decide (lookF N F f (W f) = r)
theorem first7_upto (P : Nat → Bool) (k : Nat) (hk : k ≤ 6) (h : ∀ j, j < k → P j = false) (ht : k = 6 ∨ P k = true) : first7 P = k := by
  unfold first7
  rcases (show k = 0 ∨ k = 1 ∨ k = 2 ∨ k = 3 ∨ k = 4 ∨ k = 5 ∨ k = 6 by omega) with rfl | rfl | rfl | rfl | rfl | rfl | rfl <;>
  simp_all
set_option maxHeartbeats 1000000 in
theorem firstOf_lit (b N cap r p : Nat) (F : Nat → Nat → Nat) (W : Nat → Int) (w : World) (hF : Found w b N F) (hN : N ≤ 100000) (hFb : ∀ c v, F c v ≤ 100) (hr : r ≤ 100)
    (hW : ∀ g : Nat, g < 7 → -1000000 ≤ W g ∧ W g ≤ 1000000)
    (hw : ∀ g : Nat, g < 7 → ∀ w', Below w.heap.size w w' → Calls Tryd.prog 51 #[.int .i64 g, .pointer (some ⟨p, 0, none⟩)] w' fun e w2 => e = .returned (.agg #[.int .i64 g, .int .i64 (W g)]) ∧ Below w'.heap.size w' w2) :
    Calls Tryd.prog 52 #[.slice (some ⟨b, 0, none⟩) N cap, .int .i64 r, .func (.func 51) #[] #[.pointer (some ⟨p, 0, none⟩)]] w fun e w' =>
      e = .returned (.agg #[.int .i64 (first7 (hitB N F W r) : Nat), .int .i64 (W (first7 (hitB N F W r)))]) ∧ Below w.heap.size w w' := by
  have HF := Lib.hid hF; have HW := Lib.hid hW; have Hw := Lib.hid hw; have HFb := Lib.hid hFb
  have hb := lt_of_block' hF
  clear hF hW hw hFb
  go_enter Tryd.func52, Tryd.ntmps52
  have Hc0 : Hid ((w.alloc (.cells #[.int .i64 0, .int .i64 0] 47)).heap[w.heap.size]? = some (.cells #[.int .i64 0, .int .i64 0] 47 (0, 0))) := heap_alloc_new _ _
  have Hb0 : Hid (Below w.heap.size w (w.alloc (.cells #[.int .i64 0, .int .i64 0] 47))) := (Below.refl _ _).alloc (Nat.le_refl _) _
  go_wp2_with fail
  go_loopw [7] (fun i wr => ∃ k : Nat, i = .int .i64 k ∧ k ≤ 6 ∧ (∀ j, j < k → hitB N F W r j = false) ∧ wr.heap[w.heap.size]? = some (.cells #[.int .i64 0, .int .i64 0] 47 (0, 0)) ∧ Below w.heap.size w wr) (fun i _ => 6 - (intOf i).toNat)
  case atStart => exact ⟨0, rfl, by omega, fun j hj => by omega, Hc0.out, Hb0.out⟩
  case round =>
    clear Hc0 Hb0
    obtain ⟨k, rfl, hk, hno, hcell, hbel⟩ := hrel
    have Hno := Lib.hid hno; have Hcell := Lib.hid hcell; have Hbel := Lib.hid hbel
    clear hno hcell hbel
    by_cases hlt : k < 6
    · have hWk := HW.out k (by omega)
      have Hof : Hid (∀ wz, Below w.heap.size w wz → Calls Tryd.prog 67 #[.slice (some ⟨b, 0, none⟩) N cap, .agg #[.int .i64 k, .int .i64 (W k)]] wz fun e w' => e = .returned (.int .i64 (lookF N F k (W k) : Nat)) ∧ Below wz.heap.size wz w') :=
        fun wz h => ofFew_any b N cap k (W k) F wz ((h.block b hb).trans HF.out) (by omega) hWk.1 hWk.2 hN HFb.out
      by_cases hz : lookF N F k (W k) = r
      · have ht : ((lookF N F k (W k) : Int) == (r : Int)) = true := by rw [beq_iff_eq]; omega
        have hht : hitB N F W r k = true := decide_eq_true hz
        have Hf7 : Hid (first7 (hitB N F W r) = k) := first7_upto _ k hk Hno.out (.inr hht)
        clear hz hht
        generalize lookF N F k (W k) = y at *
        go_wp2_with fail
        refine (Hw.out k (by omega) _ Hbel.out).mono ?_
        rintro e w2 ⟨rfl, g2⟩
        have Hbel2 : Hid (Below w.heap.size w w2) := Hbel.out.trans (g2.mono Hbel.out.size)
        have Hcell2 : Hid (w2.heap[w.heap.size]? = some (.cells #[.int .i64 0, .int .i64 0] 47 (0, 0))) := (g2.block _ (lt_of_block' Hcell.out)).trans Hcell.out
        clear g2
        go_wp2_with fail
        refine (Hof.out _ Hbel2.out).mono ?_
        rintro e w3 ⟨rfl, g3⟩
        have Hbel3 : Hid (Below w.heap.size w w3) := Hbel2.out.trans (g3.mono Hbel2.out.size)
        have Hcell3 : Hid (w3.heap[w.heap.size]? = some (.cells #[.int .i64 0, .int .i64 0] 47 (0, 0))) := (g3.block _ (lt_of_block' Hcell2.out)).trans Hcell2.out
        clear g3
        go_wp2_with fail
        refine (Hw.out k (by omega) _ Hbel3.out).mono ?_
        rintro e w4 ⟨rfl, g4⟩
        have hbel4 : Below w.heap.size w w4 := Hbel3.out.trans (g4.mono Hbel3.out.size)
        have hcell4 : w4.heap[w.heap.size]? = some (.cells #[.int .i64 0, .int .i64 0] 47 (0, 0)) := (g4.block _ (lt_of_block' Hcell3.out)).trans Hcell3.out
        have hs0 := cell_at hcell4 (j := 0) rfl
        have hs1 := cell_at hcell4 (j := 1) rfl
        have hf0 := free2 (j := 0) hcell4
        have hf1 := free2 (j := 1) hcell4
        clear g4
        go_wp2_with fail
        have hb1 := heap_setCell_same w4 w.heap.size 0 _ _ (.int .i64 (k : Nat)) hcell4
        have hb2 := heap_setCell_same _ w.heap.size 1 _ _ (.int .i64 (W k)) hb1
        have hq0 := cell_at hb1 (j := 0) rfl
        have hq1 := cell_at hb2 (j := 1) rfl
        have hq2 := cell_at hb2 (j := 0) rfl
        exact bodyPost_ret (v := .agg #[.int .i64 k, .int .i64 (W k)]) (by simp [results, Tryd.results52, go_sem, hq1, hq2]) rfl ⟨by rw [Hf7.out], (hbel4.setCell (Nat.le_refl _) _).setCell (Nat.le_refl _) _⟩
      · have ht : ((lookF N F k (W k) : Int) == (r : Int)) = false := by rw [beq_eq_false_iff_ne]; omega
        have Hst : Hid (∀ j, j < k + 1 → hitB N F W r j = false) := fun j hj => by
          by_cases e : j = k
          · subst e; exact decide_eq_false hz
          · exact Hno.out j (by omega)
        clear hz
        generalize lookF N F k (W k) = y at *
        go_wp2_with fail
        refine (Hw.out k (by omega) _ Hbel.out).mono ?_
        rintro e w2 ⟨rfl, g2⟩
        have Hbel2 : Hid (Below w.heap.size w w2) := Hbel.out.trans (g2.mono Hbel.out.size)
        have Hcell2 : Hid (w2.heap[w.heap.size]? = some (.cells #[.int .i64 0, .int .i64 0] 47 (0, 0))) := (g2.block _ (lt_of_block' Hcell.out)).trans Hcell.out
        clear g2
        go_wp2_with fail
        refine (Hof.out _ Hbel2.out).mono ?_
        rintro e w3 ⟨rfl, g3⟩
        have Hbel3 : Hid (Below w.heap.size w w3) := Hbel2.out.trans (g3.mono Hbel2.out.size)
        have Hcell3 : Hid (w3.heap[w.heap.size]? = some (.cells #[.int .i64 0, .int .i64 0] 47 (0, 0))) := (g3.block _ (lt_of_block' Hcell2.out)).trans Hcell2.out
        clear g3
        go_wp2_with fail
        go_roundw
        case rel => exact ⟨k + 1, by go_num, by omega, Hst.out, Hcell3.out, Hbel3.out⟩
        case measure => simp [intOf]; omega
    · obtain rfl : k = 6 := by omega
      have Hf7 : Hid (first7 (hitB N F W r) = 6) := first7_upto _ 6 hk Hno.out (.inl rfl)
      go_wp2_with fail
      refine (Hw.out 6 (by omega) _ Hbel.out).mono ?_
      rintro e w4 ⟨rfl, g4⟩
      have hbel4 : Below w.heap.size w w4 := Hbel.out.trans (g4.mono Hbel.out.size)
      have hcell4 : w4.heap[w.heap.size]? = some (.cells #[.int .i64 0, .int .i64 0] 47 (0, 0)) := (g4.block _ (lt_of_block' Hcell.out)).trans Hcell.out
      have hs0 := cell_at hcell4 (j := 0) rfl
      have hs1 := cell_at hcell4 (j := 1) rfl
      have hf0 := free2 (j := 0) hcell4
      have hf1 := free2 (j := 1) hcell4
      clear g4
      go_wp2_with fail
      have hb1 := heap_setCell_same w4 w.heap.size 0 _ _ (.int .i64 6) hcell4
      have hb2 := heap_setCell_same _ w.heap.size 1 _ _ (.int .i64 (W 6)) hb1
      have hq0 := cell_at hb1 (j := 0) rfl
      have hq1 := cell_at hb2 (j := 1) rfl
      have hq2 := cell_at hb2 (j := 0) rfl
      exact bodyPost_ret (v := .agg #[.int .i64 6, .int .i64 (W 6)]) (by simp [results, Tryd.results52, go_sem, hq1, hq2]) rfl ⟨by rw [Hf7.out]; rfl, (hbel4.setCell (Nat.le_refl _) _).setCell (Nat.le_refl _) _⟩
set_option maxHeartbeats 1000000 in
theorem firstOf_wo (b N cap r c : Nat) (n : Int) (F : Nat → Nat → Nat) (W : Nat → Int) (w : World) (hF : Found w b N F) (hN : N ≤ 100000) (hFb : ∀ c v, F c v ≤ 100) (hr : r ≤ 100)
    (hW : ∀ g : Nat, g < 7 → -1000000 ≤ W g ∧ W g ≤ 1000000)
    (hw : ∀ g : Nat, g < 7 → ∀ w', Below w.heap.size w w' → Calls Tryd.prog 54 #[.agg #[.int .i64 c, .int .i64 n], .int .i64 g] w' fun e w2 => e = .returned (.agg #[.int .i64 g, .int .i64 (W g)]) ∧ Below w'.heap.size w' w2) :
    Calls Tryd.prog 52 #[.slice (some ⟨b, 0, none⟩) N cap, .int .i64 r, .func (.func 54) #[.agg #[.int .i64 c, .int .i64 n]] #[]] w fun e w' =>
      e = .returned (.agg #[.int .i64 (first7 (hitB N F W r) : Nat), .int .i64 (W (first7 (hitB N F W r)))]) ∧ Below w.heap.size w w' := by
  have HF := Lib.hid hF; have HW := Lib.hid hW; have Hw := Lib.hid hw; have HFb := Lib.hid hFb
  have hb := lt_of_block' hF
  clear hF hW hw hFb
  go_enter Tryd.func52, Tryd.ntmps52
  have Hc0 : Hid ((w.alloc (.cells #[.int .i64 0, .int .i64 0] 47)).heap[w.heap.size]? = some (.cells #[.int .i64 0, .int .i64 0] 47 (0, 0))) := heap_alloc_new _ _
  have Hb0 : Hid (Below w.heap.size w (w.alloc (.cells #[.int .i64 0, .int .i64 0] 47))) := (Below.refl _ _).alloc (Nat.le_refl _) _
  go_wp2_with fail
  go_loopw [7] (fun i wr => ∃ k : Nat, i = .int .i64 k ∧ k ≤ 6 ∧ (∀ j, j < k → hitB N F W r j = false) ∧ wr.heap[w.heap.size]? = some (.cells #[.int .i64 0, .int .i64 0] 47 (0, 0)) ∧ Below w.heap.size w wr) (fun i _ => 6 - (intOf i).toNat)
  case atStart => exact ⟨0, rfl, by omega, fun j hj => by omega, Hc0.out, Hb0.out⟩
  case round =>
    clear Hc0 Hb0
    obtain ⟨k, rfl, hk, hno, hcell, hbel⟩ := hrel
    have Hno := Lib.hid hno; have Hcell := Lib.hid hcell; have Hbel := Lib.hid hbel
    clear hno hcell hbel
    by_cases hlt : k < 6
    · have hWk := HW.out k (by omega)
      have Hof : Hid (∀ wz, Below w.heap.size w wz → Calls Tryd.prog 67 #[.slice (some ⟨b, 0, none⟩) N cap, .agg #[.int .i64 k, .int .i64 (W k)]] wz fun e w' => e = .returned (.int .i64 (lookF N F k (W k) : Nat)) ∧ Below wz.heap.size wz w') :=
        fun wz h => ofFew_any b N cap k (W k) F wz ((h.block b hb).trans HF.out) (by omega) hWk.1 hWk.2 hN HFb.out
      by_cases hz : lookF N F k (W k) = r
      · have ht : ((lookF N F k (W k) : Int) == (r : Int)) = true := by rw [beq_iff_eq]; omega
        have hht : hitB N F W r k = true := decide_eq_true hz
        have Hf7 : Hid (first7 (hitB N F W r) = k) := first7_upto _ k hk Hno.out (.inr hht)
        clear hz hht
        generalize lookF N F k (W k) = y at *
        go_wp2_with fail
        refine (Hw.out k (by omega) _ Hbel.out).mono ?_
        rintro e w2 ⟨rfl, g2⟩
        have Hbel2 : Hid (Below w.heap.size w w2) := Hbel.out.trans (g2.mono Hbel.out.size)
        have Hcell2 : Hid (w2.heap[w.heap.size]? = some (.cells #[.int .i64 0, .int .i64 0] 47 (0, 0))) := (g2.block _ (lt_of_block' Hcell.out)).trans Hcell.out
        clear g2
        go_wp2_with fail
        refine (Hof.out _ Hbel2.out).mono ?_
        rintro e w3 ⟨rfl, g3⟩
        have Hbel3 : Hid (Below w.heap.size w w3) := Hbel2.out.trans (g3.mono Hbel2.out.size)
        have Hcell3 : Hid (w3.heap[w.heap.size]? = some (.cells #[.int .i64 0, .int .i64 0] 47 (0, 0))) := (g3.block _ (lt_of_block' Hcell2.out)).trans Hcell2.out
        clear g3
        go_wp2_with fail
        refine (Hw.out k (by omega) _ Hbel3.out).mono ?_
        rintro e w4 ⟨rfl, g4⟩
        have hbel4 : Below w.heap.size w w4 := Hbel3.out.trans (g4.mono Hbel3.out.size)
        have hcell4 : w4.heap[w.heap.size]? = some (.cells #[.int .i64 0, .int .i64 0] 47 (0, 0)) := (g4.block _ (lt_of_block' Hcell3.out)).trans Hcell3.out
        have hs0 := cell_at hcell4 (j := 0) rfl
        have hs1 := cell_at hcell4 (j := 1) rfl
        have hf0 := free2 (j := 0) hcell4
        have hf1 := free2 (j := 1) hcell4
        clear g4
        go_wp2_with fail
        have hb1 := heap_setCell_same w4 w.heap.size 0 _ _ (.int .i64 (k : Nat)) hcell4
        have hb2 := heap_setCell_same _ w.heap.size 1 _ _ (.int .i64 (W k)) hb1
        have hq0 := cell_at hb1 (j := 0) rfl
        have hq1 := cell_at hb2 (j := 1) rfl
        have hq2 := cell_at hb2 (j := 0) rfl
        exact bodyPost_ret (v := .agg #[.int .i64 k, .int .i64 (W k)]) (by simp [results, Tryd.results52, go_sem, hq1, hq2]) rfl ⟨by rw [Hf7.out], (hbel4.setCell (Nat.le_refl _) _).setCell (Nat.le_refl _) _⟩
      · have ht : ((lookF N F k (W k) : Int) == (r : Int)) = false := by rw [beq_eq_false_iff_ne]; omega
        have Hst : Hid (∀ j, j < k + 1 → hitB N F W r j = false) := fun j hj => by
          by_cases e : j = k
          · subst e; exact decide_eq_false hz
          · exact Hno.out j (by omega)
        clear hz
        generalize lookF N F k (W k) = y at *
        go_wp2_with fail
        refine (Hw.out k (by omega) _ Hbel.out).mono ?_
        rintro e w2 ⟨rfl, g2⟩
        have Hbel2 : Hid (Below w.heap.size w w2) := Hbel.out.trans (g2.mono Hbel.out.size)
        have Hcell2 : Hid (w2.heap[w.heap.size]? = some (.cells #[.int .i64 0, .int .i64 0] 47 (0, 0))) := (g2.block _ (lt_of_block' Hcell.out)).trans Hcell.out
        clear g2
        go_wp2_with fail
        refine (Hof.out _ Hbel2.out).mono ?_
        rintro e w3 ⟨rfl, g3⟩
        have Hbel3 : Hid (Below w.heap.size w w3) := Hbel2.out.trans (g3.mono Hbel2.out.size)
        have Hcell3 : Hid (w3.heap[w.heap.size]? = some (.cells #[.int .i64 0, .int .i64 0] 47 (0, 0))) := (g3.block _ (lt_of_block' Hcell2.out)).trans Hcell2.out
        clear g3
        go_wp2_with fail
        go_roundw
        case rel => exact ⟨k + 1, by go_num, by omega, Hst.out, Hcell3.out, Hbel3.out⟩
        case measure => simp [intOf]; omega
    · obtain rfl : k = 6 := by omega
      have Hf7 : Hid (first7 (hitB N F W r) = 6) := first7_upto _ 6 hk Hno.out (.inl rfl)
      go_wp2_with fail
      refine (Hw.out 6 (by omega) _ Hbel.out).mono ?_
      rintro e w4 ⟨rfl, g4⟩
      have hbel4 : Below w.heap.size w w4 := Hbel.out.trans (g4.mono Hbel.out.size)
      have hcell4 : w4.heap[w.heap.size]? = some (.cells #[.int .i64 0, .int .i64 0] 47 (0, 0)) := (g4.block _ (lt_of_block' Hcell.out)).trans Hcell.out
      have hs0 := cell_at hcell4 (j := 0) rfl
      have hs1 := cell_at hcell4 (j := 1) rfl
      have hf0 := free2 (j := 0) hcell4
      have hf1 := free2 (j := 1) hcell4
      clear g4
      go_wp2_with fail
      have hb1 := heap_setCell_same w4 w.heap.size 0 _ _ (.int .i64 6) hcell4
      have hb2 := heap_setCell_same _ w.heap.size 1 _ _ (.int .i64 (W 6)) hb1
      have hq0 := cell_at hb1 (j := 0) rfl
      have hq1 := cell_at hb2 (j := 1) rfl
      have hq2 := cell_at hb2 (j := 0) rfl
      exact bodyPost_ret (v := .agg #[.int .i64 6, .int .i64 (W 6)]) (by simp [results, Tryd.results52, go_sem, hq1, hq2]) rfl ⟨by rw [Hf7.out]; rfl, (hbel4.setCell (Nat.le_refl _) _).setCell (Nat.le_refl _) _⟩
end Go.Proofs.YthgagidpnnaajaaDoor
