/- The program's chapter 7: withDigit, sign. -/
import Derived.Test.YtdokdlcmplggfaaDoorVN
namespace Go.Proofs.YtdokdlcmplggfaaDoor
open Go.RowKit
set_option linter.unusedVariables false
set_option maxRecDepth 100000
/-- strokes at one place -/
def stkT (p : Nat) (ks : List Nat) : List Stk := ks.map fun k => (p, k)
theorem stkT_take (p : Nat) (ks : List Nat) (k : Nat) (h : k < ks.length) : stkT p (ks.take (k + 1)) = stkT p (ks.take k) ++ [(p, ks[k])] := by
  unfold stkT
  rw [List.take_succ_eq_append_getElem h, List.map_append]
  rfl
theorem stkT_len (p : Nat) (ks : List Nat) : (stkT p ks).length = ks.length := List.length_map _
set_option maxHeartbeats 2000000 in
theorem withDigit_any (B p d : Nat) (v : Value) (L : List Stk) (w : World) (hp : p < 4) (hd : d < 10) (hL : L.length ≤ 100) (hB : B ≤ w.heap.size) (hK : DKB B w) (ho : w.ownsRow B 52 2 v L.length (skC L)) :
    Calls Tryd.prog 48 #[v, .int .i64 p, .int .i64 d] w fun e w' => ∃ v', e = .returned v' ∧ w'.ownsRow B 52 2 v' (L ++ stkD p d).length (skC (L ++ stkD p d)) ∧ Below B w w' := by
  obtain ⟨i0, hi, hz0, hz1, hz2⟩ := info_parts info_stk
  obtain ⟨cv, hcv, a, cap, rfl, hks⟩ := hK.2 d hd
  have hgB := hK.1
  have hlen := kds_le d hd
  have Hlt := Lib.hid (fun k hk => kds_lt d k hd hk)
  rw [show stkD p d = stkT p (kds d) from rfl]
  generalize kds d = ks at *
  have Hks := Lib.hid hks
  have HO : Hid (w.ownsRow B 52 2 v (L.length + 0) (skC (L ++ stkT p (ks.take 0)))) := Lib.hid (by simpa [stkT] using ho)
  clear hks ho hK
  go_enter Tryd.func48, Tryd.ntmps48
  go_wp2_with fail
  go_loopw [0, 13] (fun u i wr => ∃ k : Nat, i = .int .i64 k ∧ k ≤ ks.length ∧ Hid (wr.ownsRow B 52 2 u (L.length + k) (skC (L ++ stkT p (ks.take k)))) ∧ Hid (Below B w wr)) (fun _ i _ => ks.length - (intOf i).toNat)
  case atStart => exact ⟨0, rfl, Nat.zero_le _, HO, Lib.hid (Below.refl _ _)⟩
  case round =>
    obtain ⟨k, rfl, hk, Ho, Hb⟩ := hrel
    clear HO
    by_cases hlt : k < ks.length
    · obtain ⟨b, off, rfl, hbB, hc⟩ := Hks.out k hlt
      have hc1 := (Hb.out.cell (p := ⟨b, off + k, none⟩) hbB).trans hc
      have Hst := Lib.hid (stkT_take p ks k hlt)
      have hk5 := Hlt.out ks[k] (List.getElem_mem hlt)
      generalize ks[k] = q at *
      have hsz := Hb.out.size
      clear hc hcv
      go_wp2_with (at_builtin; refine wpList_append_own _ rfl _ _ 33 rfl B 52 i0 (.agg #[.int .i64 0, .int .i64 0]) 2 16 Tryd.underlying33 hi hz0 hz1 hz2 rfl (by decide) _ _ _ rfl (Ho.out.alloc _) ⟨wr.heap.size, 0, none⟩ 1 1 [.int .i64 (p : Nat), .int .i64 (q : Nat)] rfl rfl ?c1 ?c2 ?c3 ?c4 ?c5 ?_)
      case c1 =>
        intro j u h
        match j, h with
        | 0, h => simp at h; subst h; exact cell_at (heap_alloc_new _ _) (by rfl)
        | 1, h => simp at h; subst h; exact cell_at (heap_alloc_new _ _) (by rfl)
        | j + 2, h => simp at h
      case c2 => intro u hu; simp at hu; rcases hu with rfl | rfl <;> rfl
      case c3 => unfold maxLen; omega
      case c4 => omega
      case c5 => exact Nat.le_trans hB (Nat.le_trans hsz (by simp))
      intro v' w6 ho6 g6 _
      have HO6 : Hid (w6.ownsRow B 52 2 v' (L.length + (k + 1)) (skC (L ++ stkT p (ks.take (k + 1))))) := Lib.hid (by
        rw [Hst.out, ← List.append_assoc, skC_append]
        exact ho6)
      have HB6 : Hid (Below B w w6) := Lib.hid ((Hb.out.alloc (Nat.le_trans hB hsz) _).grown g6 (Nat.le_trans hB (Nat.le_trans hsz (by simp))) (fun j hj => ((Ho.out.lt j hj).1)))
      clear ho6 g6
      go_wp2_with fail
      go_roundw
      case rel => exact ⟨k + 1, by go_num, by omega, HO6, HB6⟩
      case measure => simp [intOf]; omega
    · obtain rfl : k = ks.length := by omega
      have HO7 : Hid (wr.ownsRow B 52 2 u0 (L ++ stkT p ks).length (skC (L ++ stkT p ks))) := Lib.hid (by
        have := Ho.out
        rw [List.take_length] at this
        rw [List.length_append, stkT_len]
        exact this)
      go_wp2_with fail
      go_ret
      exact ⟨_, rfl, HO7.out, Hb.out⟩
set_option maxHeartbeats 2000000 in
theorem sign_any (v : Value) (L : List Stk) (w : World) (hL : L.length ≤ 100) (hW : wtL L ≤ 1073741824) (hok : ∀ s ∈ L, StkOk s) (h : SkR w v L) :
    Calls Tryd.prog 35 #[v] w fun e w' => e = .returned (.int .i64 (wtL L : Nat)) ∧ Below w.heap.size w w' := by
  obtain ⟨a, cap, rfl, hc⟩ := h
  have Hc := Lib.hid hc; have Hok := Lib.hid hok; have HW := Lib.hid hW
  obtain ⟨T, HT⟩ : ∃ T, Hid (wtL L = T) := ⟨_, Lib.hid rfl⟩
  rw [HT.out]
  clear hc hok hW
  go_enter Tryd.func35, Tryd.ntmps35
  go_wp2_with fail
  go_loopw [3, 8] (fun s i wr => ∃ k x : Nat, i = .int .i64 k ∧ s = .int .i64 x ∧ k ≤ L.length ∧ x ≤ 1073741824 ∧ Hid (x = wtL (L.take k)) ∧ Hid (Below w.heap.size w wr)) (fun _ i _ => L.length - (intOf i).toNat)
  case atStart => exact ⟨0, 0, rfl, rfl, Nat.zero_le _, by omega, Lib.hid rfl, Lib.hid (Below.refl _ _)⟩
  case round =>
    obtain ⟨k, x, rfl, rfl, hk, hx, Hx, Hb⟩ := hrel
    by_cases hlt : k < L.length
    · obtain ⟨b, rfl, hbB, hc1, hc2⟩ := Hc.out k hlt
      have hd1 := (Hb.out.cell (p := ⟨b, k * 2, none⟩) hbB).trans hc1
      have hd2 := (Hb.out.cell (p := ⟨b, k * 2 + 1, none⟩) hbB).trans hc2
      have hs := Hok.out L[k] (List.getElem_mem hlt)
      have hst := wtL_take L k hlt
      have hle := wtL_take_le L (k + 1)
      rw [hst, ← Hx.out] at hle
      have hbd : x + wt L[k] ≤ 1073741824 := Nat.le_trans hle HW.out
      rw [← Hx.out] at hst
      have Hst := Lib.hid hst
      generalize L[k] = s at *
      obtain ⟨p, q⟩ := s
      have C := Lib.hid (fun w => weight_any p q w hs.1 hs.2)
      simp only at hd1 hd2
      generalize wt (p, q) = y at *
      clear hc1 hc2 hs hst hle Hok HT Hc
      go_wp2_with fail
      refine (C.out _).mono ?_
      rintro e w1 ⟨rfl, g1⟩
      have HB1 : Hid (Below w.heap.size w w1) := Lib.hid (bel_under (Hb.out.alloc Hb.out.size _) (Nat.le_trans Hb.out.size (by simp)) g1)
      clear g1 hd1 hd2
      go_wp2_with fail
      go_roundw
      case rel => exact ⟨k + 1, x + y, by go_num, by go_num, by omega, hbd, Lib.hid Hst.out.symm, HB1⟩
      case measure => simp [intOf]; omega
    · obtain rfl : k = L.length := by omega
      have Hx2 : Hid (x = T) := Lib.hid (by have := Hx.out; rw [List.take_length] at this; rw [this, HT.out])
      go_wp2_with fail
      go_ret
      exact ⟨by rw [Hx2.out]; rfl, Hb.out⟩
end Go.Proofs.YtdokdlcmplggfaaDoor
