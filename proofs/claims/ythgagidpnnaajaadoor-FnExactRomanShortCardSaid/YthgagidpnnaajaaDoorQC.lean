/- The model's l1Table, from a table of texts that are shorter by one letter. -/
import Derived.Test.YthgagidpnnaajaaDoorQT
import Derived.Test.YthgagidpnnaajaaDoorDt
namespace Go.Proofs.YthgagidpnnaajaaDoor
open Go.RowKit
set_option linter.unusedVariables false
set_option maxRecDepth 100000
/-- what the rows ahead of m tell -/
def accP (t k m : Nat) (y : Nat) : Bool := (List.range m).any fun j => exT 5000 t j (wo k j (y : Int))
theorem accP_zero (t k : Nat) : accP t k 0 = fun _ => false := by funext y; simp [accP]
theorem accP_succ (t k m y : Nat) : accP t k (m + 1) y = (accP t k m y || exT 5000 t m (wo k m (y : Int))) := by
  simp [accP, List.range_succ, List.any_append]
theorem accP_all (t k : Nat) (y : Nat) (hy : y < 5001) : accP t k 7 y = exT 5000 (t + 1) k (y : Int) := by
  have h : decide (0 ≤ (y : Int) ∧ (y : Int) ≤ 5000) = true := by rw [decide_eq_true_eq]; omega
  show _ = (decide (0 ≤ (y : Int) ∧ (y : Int) ≤ 5000) && _)
  rw [h, Bool.true_and]
  rfl
/-- .. and row m from x0 up to x -/
def curP (t k m : Nat) (x0 x : Int) (y : Nat) : Bool := accP t k m y || (decide (x0 ≤ wo k m (y : Int) ∧ wo k m (y : Int) < x) && exT 5000 t m (wo k m (y : Int)))
theorem curP_start (t k m : Nat) (x0 : Int) : curP t k m x0 x0 = accP t k m := by
  funext y
  unfold curP
  rw [decide_eq_false (by omega)]
  simp
theorem curP_end (t k m : Nat) (ht : 1 ≤ t) (x0 x : Int) (hx : ∀ y : Nat, y < 5001 → 0 ≤ wo k m (y : Int) → wo k m (y : Int) ≤ 5000 → x0 ≤ wo k m (y : Int) ∧ wo k m (y : Int) < x) (y : Nat) (hy : y < 5001) : curP t k m x0 x y = accP t k (m + 1) y := by
  rw [accP_succ]
  unfold curP
  congr 1
  obtain ⟨s, rfl⟩ : ∃ s, t = s + 1 := ⟨t - 1, by omega⟩
  by_cases h : exT 5000 (s + 1) m (wo k m (y : Int)) = true
  · have hb := ((exT_succ _ _ _ _).1 h).1
    rw [decide_eq_true (hx y hy hb.1 hb.2), h]; rfl
  · have h' : exT 5000 (s + 1) m (wo k m (y : Int)) = false := by simpa using h
    rw [h']; simp
theorem curP_step (t k m : Nat) (x0 x : Int) (h0 : x0 ≤ x) (z : Nat) (hz : wo k m (z : Int) = x) (hinj : ∀ y : Nat, wo k m (y : Int) = x → y = z) :
    (fun y => if y = z then (curP t k m x0 x z || exT 5000 t m x) else curP t k m x0 x y) = curP t k m x0 (x + 1) := by
  funext y
  by_cases e : y = z
  · subst e
    rw [if_pos rfl]
    unfold curP
    rw [hz, decide_eq_false (by omega), decide_eq_true (by omega)]
    simp
  · rw [if_neg e]
    unfold curP
    have hne : wo k m (y : Int) ≠ x := fun h => e (hinj y h)
    congr 2
    rw [decide_eq_decide]
    omega
theorem curP_at (t k m : Nat) (x0 x : Int) (z : Nat) (hz : wo k m (z : Int) = x) : curP t k m x0 x z = accP t k m z := by
  unfold curP
  rw [hz, decide_eq_false (by omega)]
  simp
set_option maxRecDepth 100000 in
set_option maxHeartbeats 2000000 in
theorem l1Table_cons (t : Nat) (ht : 1 ≤ t) (v0 : Value) (w : World) (hT : IsTable w v0 t) : Calls Tryd.prog 55 #[v0] w fun e w' => ∃ v, e = .returned v ∧ IsTable w' v (t + 1) ∧ Below w.heap.size w w' := by
  obtain ⟨b, c, ls, rfl, hls, hlc, hlr, cur0, hcur0⟩ := hT
  have hlb := lt_of_block' hcur0
  clear hcur0
  obtain ⟨i0, hi, hz0, hz1, hz2⟩ := info_parts info_bool
  obtain ⟨i1, hj, hy0, hy1, hy2⟩ := info_parts info_row
  have Hls := Lib.hid hls; have Hlc := Lib.hid hlc; have Hlr := Lib.hid hlr; clear hls hlc hlr
  go_enter Tryd.func55, Tryd.ntmps55
  go_wp2_with fail
  refine (l1Letters_any _).mono ?_
  rintro e w1 ⟨rfl, rfl⟩
  go_wp2_with fail
  go_loopw [4, 5] (fun v i wr => ∃ (k : Nat) (gs : List Nat), i = .int .i64 k ∧ k ≤ 7 ∧ gs.length = k ∧ wr.ownsRow w.heap.size 66 1 v k (gs.map rowVal) ∧ RowsOk wr w.heap.size gs (fun i x => exT 5000 (t + 1) i (x : Int)) ∧ Below w.heap.size w wr) (fun _ i _ => 7 - (intOf i).toNat)
  case atStart =>
    refine ⟨0, [], rfl, by omega, rfl, ⟨rfl, .inr ⟨w.heap.size, 0, #[], rfl, Nat.le_refl _, heap_alloc_new _ _, Nat.le_refl _, by decide, rfl, rfl⟩⟩, fun j hj => by simp at hj, (Below.refl _ _).alloc (Nat.le_refl _) _⟩
  case round =>
    obtain ⟨k, gs, rfl, hk, hgs, hown, hrows, hbel⟩ := hrel
    have Hrows := Lib.hid hrows; have Hgs := Lib.hid hgs; clear hrows hgs
    by_cases hlt : k < 7
    · have Hrv := Lib.hid (letters_at k hlt)
      have hvb := lv_bd k
      have hvp := lv_pos k hlt
      obtain ⟨V, hV⟩ := Int.eq_ofNat_of_zero_le hvb.1
      go_wp2_with (at_make; refine wpList_make_bools _ rfl _ _ 66 rfl 4 i0 Tryd.underlying66 hi hz0 hz1 hz2 5001 (by decide) rfl rfl ?_)
      intro w2 hblk g2
      have hsz := hbel.size
      have hlt2 : b < wr.heap.size := by omega
      have Hown2 := Lib.hid (hown.kept (row := none) ⟨g2.os, g2.tape, g2.output, g2.size, fun k hk _ => g2.block k hk⟩ (by cases hv : (u4 : Value).ownBlock <;> simp))
      have Hrows2 := Lib.hid (Hrows.out.below g2)
      have Hbel2 := Lib.hid (hbel.trans (g2.mono hsz))
      have Hlc2 : Hid (∀ j (h : j < ls.length), w2.cell? ⟨b, j, none⟩ = some (rowVal ls[j])) := fun j h => (Hbel2.out.cell (p := ⟨b, j, none⟩) hlb).trans (Hlc.out j h)
      have Hlr2 : Hid (RowsOk w2 0 ls (fun i x => exT 5000 t i (x : Int))) := Hlr.out.kept fun j h => Hbel2.out.block _ (Hlr.out.lt j h)
      have Hll : Hid (∀ j (h : j < ls.length), ls[j] < wr.heap.size) := fun j h => by have := Hlr.out.lt j h; omega
      have Hrg : Hid (∀ j (h : j < gs.length), gs[j] < wr.heap.size) := fun j h => Hrows.out.lt j h
      generalize hG : wr.heap.size = G at *
      have Hblk := Lib.hid hblk
      clear hown hbel g2 hblk hG
      go_wp2_with fail
      refine (l1Value_any _ _).mono ?_
      rw [Hrv.out, hV]
      rintro e w3 ⟨rfl, rfl⟩
      go_wp2_with fail
      have HV := Lib.hid hV; clear hV
      have hV1 : 1 ≤ V ∧ V ≤ 1000 := by have := HV.out; omega
      go_loopw [8] (fun i wx => ∃ m : Nat, i = .int .i64 m ∧ m ≤ 7 ∧ wx.heap[G]? = some (.cells (boolArr 5001 (accP t k m)) 4 (0, 0)) ∧ w2.grownBy wx (some G)) (fun i _ => 7 - (intOf i).toNat)
      case atStart => exact ⟨0, rfl, by omega, by rw [accP_zero]; exact Hblk.out, ⟨rfl, rfl, rfl, Nat.le_refl _, fun _ _ _ => rfl⟩⟩
      case round =>
        obtain ⟨m, rfl, hm, hblk, hg⟩ := hrel
        by_cases hmlt : m < 7
        · have Hrv2 := Lib.hid (letters_at m hmlt)
          have hub := lv_bd m
          obtain ⟨U, hU⟩ := Int.eq_ofNat_of_zero_le hub.1
          have HU := Lib.hid hU
          have Hblk2 := Lib.hid hblk; have Hg := Lib.hid hg; clear hblk hg
          by_cases hVU : V < U
          · have Hwo : Hid (∀ y : Int, wo k m y = y + V) := fun y => by unfold wo; rw [HV.out, HU.out, if_pos (by omega)]
            go_wp2_with fail
            refine (l1Value_any _ _).mono ?_
            rw [Hrv2.out, HU.out]
            rintro e w3 ⟨rfl, rfl⟩
            go_wp2_with fail
            go_loopw [10] (fun i wx => ∃ x : Nat, i = .int .i64 x ∧ V ≤ x ∧ x ≤ 5001 ∧ wx.heap[G]? = some (.cells (boolArr 5001 (curP t k m (V : Int) x)) 4 (0, 0)) ∧ w2.grownBy wx (some G)) (fun i _ => 5001 - (intOf i).toNat)
            case atStart => exact ⟨V, rfl, by omega, by omega, by rw [show curP t k m (V : Int) ((V : Nat) : Int) = accP t k m from curP_start t k m (V : Int)]; exact Hblk2.out, Hg.out⟩
            case round =>
              obtain ⟨x, rfl, hx0, hx1, hblk, hg⟩ := hrel
              have Hblk3 := Lib.hid hblk; have Hg3 := Lib.hid hg; clear hblk hg
              by_cases hin : ((x : Int) + -(V : Int)).toNat ≤ 5000 ∧ x ≤ 5000
              · obtain ⟨hin1, hin2⟩ := hin
                have hz : wo k m ((((x : Int) + -(V : Int)).toNat : Nat) : Int) = x := by rw [Hwo.out]; omega
                have hcat := curP_at t k m (V : Int) x (((x : Int) + -(V : Int)).toNat) hz
                have hc1 : wr.cell? ⟨G, ((x : Int) + -(V : Int)).toNat, none⟩ = some (.bool (accP t k m (((x : Int) + -(V : Int)).toNat))) := by rw [← hcat]; exact cell_at Hblk3.out (boolArr_at _ _ _ (by omega))
                have hf1 : wr.frozen? ⟨G, ((x : Int) + -(V : Int)).toNat, none⟩ = false := free2 Hblk3.out
                have hst := fun bb => heap_setCell_same wr G (((x : Int) + -(V : Int)).toNat) _ _ (.bool bb) Hblk3.out
                simp only [boolArr_set] at hst
                have hgs : ∀ bb, w2.grownBy (wr.setCell ⟨G, ((x : Int) + -(V : Int)).toNat, none⟩ (.bool bb)) (some G) := fun bb => grown_trans Hg3.out ⟨rfl, rfl, rfl, by simp [World.setCell], fun j hj hne => Below.heap_setCell _ _ _ _ (fun e => hne (by simp at e; rw [e]))⟩
                have Hnew : Hid (∀ bb, bb = (accP t k m (((x : Int) + -(V : Int)).toNat) || exT 5000 t m x) → (wr.setCell ⟨G, ((x : Int) + -(V : Int)).toNat, none⟩ (.bool bb)).heap[G]? = some (.cells (boolArr 5001 (curP t k m (V : Int) (x + 1 : Nat))) 4 (0, 0))) := fun bb hbb => by
                  have hstep := curP_step t k m (V : Int) x (by omega) (((x : Int) + -(V : Int)).toNat) hz (fun y' hy' => by rw [Hwo.out] at hy'; omega)
                  rw [hcat, ← hbb] at hstep
                  rw [hst bb, hstep]
                  rfl
                have Hgs := Lib.hid hgs
                clear hst hgs hz hcat
                have hlm : m < ls.length := by rw [Hls.out]; exact hmlt
                have hne : b ≠ G := by omega
                have hc2 : wr.cell? ⟨b, m, none⟩ = some (.slice (some ⟨ls[m], 0, none⟩) 5001 5001) := Hg3.out.cell (Hlc2.out m hlm) (by simp; omega)
                have hlsz : ls[m] < G := by have := Hll.out m hlm; omega
                have hc3 : wr.cell? ⟨ls[m], x, none⟩ = some (.bool (exT 5000 t m (x : Int))) := Hg3.out.cell (cell_at (Hlr2.out m hlm).2 (boolArr_at _ _ _ (by omega))) (by simp; omega)
                generalize hB1 : accP t k m (((x : Int) + -(V : Int)).toNat) = b1 at *
                generalize hB2 : exT 5000 t m (x : Int) = b2 at *
                generalize ls[m] = lm at *
                clear hB1 hB2 hlm
                cases b1
                · go_wp2_with fail
                  go_roundw
                  case rel => exact ⟨x + 1, by go_num, by omega, by omega, Hnew.out b2 (by simp), Hgs.out b2⟩
                  case measure => simp [intOf]; omega
                · go_wp2_with fail
                  go_roundw
                  case rel => exact ⟨x + 1, by go_num, by omega, by omega, Hnew.out true (by simp), Hgs.out true⟩
                  case measure => simp [intOf]; omega
              · have Hend : Hid (wr.heap[G]? = some (.cells (boolArr 5001 (accP t k (m + 1))) 4 (0, 0))) := by
                  show _ = _
                  rw [Hblk3.out, boolArr_congr 5001 _ _ (curP_end t k m ht (V : Int) x (fun y hy h0 h5 => by rw [Hwo.out] at h0 h5 ⊢; omega))]
                have Hin := Lib.hid hin; clear hin
                have hin2 : ¬ x ≤ 5000 := by have := Hin.out; omega
                have hin1 : ¬ 5000 < (x : Int) + -(V : Int) := by omega
                go_wp2_with fail
                go_roundw
                case rel => exact ⟨m + 1, by go_num, by omega, Hend.out, Hg3.out⟩
                case measure => simp [intOf]; omega
          · have Hwo : Hid (∀ y : Int, wo k m y = y - V) := fun y => by unfold wo; rw [HV.out, HU.out, if_neg (by omega)]
            go_wp2_with fail
            refine (l1Value_any _ _).mono ?_
            rw [Hrv2.out, HU.out]
            rintro e w3 ⟨rfl, rfl⟩
            go_wp2_with fail
            go_loopw [10] (fun i wx => ∃ x : Nat, i = .int .i64 x ∧ 0 ≤ x ∧ x ≤ 5001 ∧ wx.heap[G]? = some (.cells (boolArr 5001 (curP t k m 0 x)) 4 (0, 0)) ∧ w2.grownBy wx (some G)) (fun i _ => 5001 - (intOf i).toNat)
            case atStart => exact ⟨0, rfl, by omega, by omega, by rw [show curP t k m 0 ((0 : Nat) : Int) = accP t k m from curP_start t k m 0]; exact Hblk2.out, Hg.out⟩
            case round =>
              obtain ⟨x, rfl, hx0, hx1, hblk, hg⟩ := hrel
              have Hblk3 := Lib.hid hblk; have Hg3 := Lib.hid hg; clear hblk hg
              by_cases hin : x + V ≤ 5000 ∧ x ≤ 5000
              · obtain ⟨hin1, hin2⟩ := hin
                have hz : wo k m ((x + V : Nat) : Int) = x := by rw [Hwo.out]; omega
                have hcat := curP_at t k m 0 x (x + V) hz
                have hc1 : wr.cell? ⟨G, x + V, none⟩ = some (.bool (accP t k m (x + V))) := by rw [← hcat]; exact cell_at Hblk3.out (boolArr_at _ _ _ (by omega))
                have hf1 : wr.frozen? ⟨G, x + V, none⟩ = false := free2 Hblk3.out
                have hst := fun bb => heap_setCell_same wr G (x + V) _ _ (.bool bb) Hblk3.out
                simp only [boolArr_set] at hst
                have hgs : ∀ bb, w2.grownBy (wr.setCell ⟨G, x + V, none⟩ (.bool bb)) (some G) := fun bb => grown_trans Hg3.out ⟨rfl, rfl, rfl, by simp [World.setCell], fun j hj hne => Below.heap_setCell _ _ _ _ (fun e => hne (by simp at e; rw [e]))⟩
                have Hnew : Hid (∀ bb, bb = (accP t k m (x + V) || exT 5000 t m x) → (wr.setCell ⟨G, x + V, none⟩ (.bool bb)).heap[G]? = some (.cells (boolArr 5001 (curP t k m 0 (x + 1 : Nat))) 4 (0, 0))) := fun bb hbb => by
                  have hstep := curP_step t k m 0 x (by omega) (x + V) hz (fun y' hy' => by rw [Hwo.out] at hy'; omega)
                  rw [hcat, ← hbb] at hstep
                  rw [hst bb, hstep]
                  rfl
                have Hgs := Lib.hid hgs
                clear hst hgs hz hcat
                have hlm : m < ls.length := by rw [Hls.out]; exact hmlt
                have hne : b ≠ G := by omega
                have hc2 : wr.cell? ⟨b, m, none⟩ = some (.slice (some ⟨ls[m], 0, none⟩) 5001 5001) := Hg3.out.cell (Hlc2.out m hlm) (by simp; omega)
                have hlsz : ls[m] < G := by have := Hll.out m hlm; omega
                have hc3 : wr.cell? ⟨ls[m], x, none⟩ = some (.bool (exT 5000 t m (x : Int))) := Hg3.out.cell (cell_at (Hlr2.out m hlm).2 (boolArr_at _ _ _ (by omega))) (by simp; omega)
                generalize hB1 : accP t k m (x + V) = b1 at *
                generalize hB2 : exT 5000 t m (x : Int) = b2 at *
                generalize ls[m] = lm at *
                clear hB1 hB2 hlm
                cases b1
                · go_wp2_with fail
                  go_roundw
                  case rel => exact ⟨x + 1, by go_num, by omega, by omega, Hnew.out b2 (by simp), Hgs.out b2⟩
                  case measure => simp [intOf]; omega
                · go_wp2_with fail
                  go_roundw
                  case rel => exact ⟨x + 1, by go_num, by omega, by omega, Hnew.out true (by simp), Hgs.out true⟩
                  case measure => simp [intOf]; omega
              · have Hend : Hid (wr.heap[G]? = some (.cells (boolArr 5001 (accP t k (m + 1))) 4 (0, 0))) := by
                  show _ = _
                  rw [Hblk3.out, boolArr_congr 5001 _ _ (curP_end t k m ht 0 x (fun y hy h0 h5 => by rw [Hwo.out] at h0 h5 ⊢; omega))]
                have Hin := Lib.hid hin; clear hin
                by_cases hin2 : x ≤ 5000
                · have hin1 : 5000 < x + V := by have := Hin.out; omega
                  go_wp2_with fail
                  go_roundw
                  case rel => exact ⟨m + 1, by go_num, by omega, Hend.out, Hg3.out⟩
                  case measure => simp [intOf]; omega
                · have hin1 : 5000 < x + V := by omega
                  go_wp2_with fail
                  go_roundw
                  case rel => exact ⟨m + 1, by go_num, by omega, Hend.out, Hg3.out⟩
                  case measure => simp [intOf]; omega
        · obtain rfl : m = 7 := by omega
          have Hset : Hid (wr.heap[G]? = some (.cells (boolArr 5001 (fun y => exT 5000 (t + 1) k (y : Int))) 4 (0, 0))) := by
            show _ = _
            rw [hblk, boolArr_congr 5001 _ (fun y => exT 5000 (t + 1) k (y : Int)) (fun y hy => accP_all t k y hy)]
          have Hown3 := Lib.hid (Hown2.out.kept hg (.inr (own_ne Hown2.out Hblk.out (by decide))))
          have Hrows3 := Lib.hid (Hrows2.out.kept fun j hj => hg.block _ (Hrows2.out.lt j hj) (by have := Hrg.out j hj; simp; omega))
          have Hbel3 := Lib.hid (Hbel2.out.grown hg Hbel2.out.size (fun j hj => by simp at hj; omega))
          clear hblk hg
          go_wp2_with (at_builtin; refine wpList_append_own _ rfl _ _ 63 rfl w.heap.size 66 i1 (.slice none 0 0) 1 24 Tryd.underlying63 hj hy0 hy1 hy2 rfl (by decide) _ _ _ rfl (Hown3.out.alloc _) ⟨wr.heap.size, 0, none⟩ 1 1 [rowVal G] rfl rfl ?c1 ?c2 ?c3 ?c4 ?c5 ?_)
          case c1 =>
            intro j u h
            match j, h with
            | 0, h => simp at h; subst h; simp [Addr.add, rowVal]
            | j + 1, h => simp at h
          case c2 => intro u hu; simp at hu; subst hu; rfl
          case c3 => unfold maxLen; omega
          case c4 => omega
          case c5 => have := Hbel3.out.size; simp; omega
          intro v' w5 hown5 hg5 _
          have hal := (Below.refl wr.heap.size wr).alloc (Nat.le_refl _) (.cells #[rowVal G] 66)
          have r1 := (Hrows3.out.below hal).grown hg5 (Hown3.out.alloc _)
          have hb5 := grown_block hg5 (Hown3.out.alloc _) ((hal.block _ (lt_of_block' Hset.out)).trans Hset.out) (by decide)
          have R1 := Lib.hid (r1.snoc hsz (by rw [Hgs.out]; exact hb5))
          have R2 := Lib.hid ((Hbel3.out.alloc Hbel3.out.size (.cells #[rowVal G] 66)).grown hg5 (by have := Hbel3.out.size; simp; omega) (fun j hj => (Hown3.out.lt j hj).1))
          have R3 : Hid (w5.ownsRow w.heap.size 66 1 v' (k + 1) ((gs ++ [G]).map rowVal)) := by
            show World.ownsRow _ _ _ _ _ _ _
            rw [List.map_append]; exact hown5
          clear r1 hb5 hown5 hg5 hal
          go_wp2_with fail
          go_roundw
          case rel => exact ⟨k + 1, gs ++ [G], by go_num, by omega, by rw [List.length_append, Hgs.out]; rfl, R3.out, R1.out, R2.out⟩
          case measure => simp [intOf]; omega
    · obtain rfl : k = 7 := by omega
      have Hfin := Lib.hid (isTable_of hown Hgs.out Hrows.out)
      go_wp2_with fail
      go_ret
      exact ⟨_, rfl, Hfin.out, hbel⟩
end Go.Proofs.YthgagidpnnaajaaDoor
