/- The program's lengthen: its walk. -/
import Derived.Test.YthgagidpnnaajaaDoorQL
namespace Go.Proofs.YthgagidpnnaajaaDoor
open Go.RowKit
set_option linter.unusedVariables false
set_option maxRecDepth 100000
theorem grown_of_below2 {w w' : World} (r : Nat) (hg : Below w.heap.size w w') : w.grownBy w' (some r) := ⟨hg.os, hg.tape, hg.output, hg.size, fun k hk _ => hg.block k hk⟩
/-- what stands from step to step: the new states' row, the table, the state at hand -/
structure Inv (w : World) (b N rb c : Nat) (v : Int) (F : Nat → Nat → Nat) (out : List St) (u : Value) (wx : World) : Prop where
  own : wx.ownsRow w.heap.size 47 2 u out.length (stCells out)
  ne : u.ownBlock ≠ some rb
  found : Found wx b N F
  grown : w.grownBy wx (some b)
  rest : wx.heap[rb]? = some (.cells #[.int .i64 (c : Nat), .int .i64 v] 47 (0, 0))
theorem Inv.below {w : World} {b N rb c : Nat} {v : Int} {F : Nat → Nat → Nat} {out : List St} {u : Value} {wx wy : World} (h : Inv w b N rb c v F out u wx) (g : Below wx.heap.size wx wy) : Inv w b N rb c v F out u wy :=
  ⟨h.own.kept (row := none) ⟨g.os, g.tape, g.output, g.size, fun k hk _ => g.block k hk⟩ (by cases hv : u.ownBlock <;> simp), h.ne, (g.block b (lt_of_block' h.found)).trans h.found, grown_trans h.grown (grown_of_below2 b g), (g.block rb (lt_of_block' h.rest)).trans h.rest⟩
theorem Inv.set {w : World} {b N rb c : Nat} {v : Int} {F : Nat → Nat → Nat} {out : List St} {u : Value} {wx : World} (h : Inv w b N rb c v F out u wx) (z m x : Nat) (hz : z < N) (hm : m < 7) (hrb : rb ≠ b) : Inv w b N rb c v (setF F m z x) out u (wx.setCell ⟨b, z * 7 + m, none⟩ (.int .i8 (x : Nat))) := by
  have hg : wx.grownBy (wx.setCell ⟨b, z * 7 + m, none⟩ (.int .i8 (x : Nat))) (some b) :=
    ⟨rfl, rfl, rfl, by simp [World.setCell], fun j hj hne => Below.heap_setCell _ _ _ _ (fun e => hne (by simp at e; rw [e]))⟩
  refine ⟨h.own.kept hg (.inr (own_ne h.own h.found (by decide))), h.ne, ?_, grown_trans h.grown hg, (hg.block rb (lt_of_block' h.rest) (by simp; exact hrb)).trans h.rest⟩
  have := heap_setCell_same wx b (z * 7 + m) _ _ (.int .i8 (x : Nat)) h.found
  rw [fArr_set N F z m x hz hm] at this
  exact this
theorem Inv.append {w : World} {b N rb c : Nat} {v : Int} {F : Nat → Nat → Nat} {out : List St} {u u' : Value} {wx wy : World} (h : Inv w b N rb c v F out u wx) (m : Nat) (q : Int) (hq : ¬ (m = c ∧ q = v))
    (ho : wy.ownsRow w.heap.size 47 2 u' (out.length + 1) (stCells out ++ [.int .i64 (m : Nat), .int .i64 q])) (g : wx.grownBy wy u.ownBlock) (hb : b < w.heap.size) : Inv w b N rb c v F (out ++ [(m, q)]) u' wy := by
  have hne := append_ne ho (stCells_length out) g h.rest h.ne (by rintro ⟨h1, h2⟩; simp only [Value.int.injEq, true_and] at h1 h2; exact hq ⟨by omega, h2⟩)
  have hub := own_ne h.own h.found (by decide)
  refine ⟨?_, hne, ?_, ⟨g.os.trans h.grown.os, g.tape.trans h.grown.tape, g.output.trans h.grown.output, Nat.le_trans h.grown.size g.size, fun k hk hkb => ?_⟩, (g.block rb (lt_of_block' h.rest) (fun e => h.ne e.symm)).trans h.rest⟩
  · rw [stCells_append, List.length_append]; exact ho
  · exact (g.block b (lt_of_block' h.found) (fun e => hub e.symm)).trans h.found
  · have hk2 : some k ≠ u.ownBlock := fun e => by have := (h.own.lt k e.symm).1; omega
    exact (g.block k (Nat.lt_of_lt_of_le hk h.grown.size) hk2).trans (h.grown.block k hk hkb)
set_option maxRecDepth 100000 in
set_option maxHeartbeats 2000000 in
theorem lengthen_any (b N cap x sb c2 : Nat) (F : Nat → Nat → Nat) (ss : List St) (w : World) (hl : LV w) (hb0 : 0 < b) (hF : Found w b N F) (hN : N ≤ 100000) (hx : x ≤ 100) (hFb : ∀ c v, F c v ≤ 100) (hn : ss.length ≤ 678223072849)
    (hss : ∀ i (h : i < ss.length), w.cell? ⟨sb, i * 2, none⟩ = some (.int .i64 (ss[i].1 : Nat)) ∧ w.cell? ⟨sb, i * 2 + 1, none⟩ = some (.int .i64 ss[i].2)) (hsb : sb ≠ b)
    (hok : ∀ s ∈ ss, s.1 < 7 ∧ -100000 ≤ s.2 ∧ s.2 ≤ 100000 ∧ ∀ l, l < 7 → 1 ≤ bef l s.1 s.2) :
    Calls Tryd.prog 66 #[.slice (some ⟨b, 0, none⟩) N cap, .slice (some ⟨sb, 0, none⟩) ss.length c2, .int .i64 x] w fun e w' => ∃ v', e = .returned v' ∧ w'.ownsRow w.heap.size 47 2 v' (lenL N x ss (F, [])).2.length (stCells (lenL N x ss (F, [])).2) ∧ Found w' b N (lenL N x ss (F, [])).1 ∧ w.grownBy w' (some b) := by
  obtain ⟨i0, hi, hz0, hz1, hz2⟩ := info_parts info_st
  have hbw : b < w.heap.size := lt_of_block' hF
  have HL := Lib.hid hl; have HF := Lib.hid hF; have HFb := Lib.hid hFb; have Hss := Lib.hid hss; have Hok := Lib.hid hok
  clear hl hF hFb hss hok
  go_enter Tryd.func66, Tryd.ntmps66
  go_wp2_with (at_make; refine wpList_make_own _ rfl _ _ 82 rfl w.heap.size 47 i0 (.agg #[.int .i64 0, .int .i64 0]) 2 Tryd.underlying82 hi hz0 hz1 .i64 .i64 _ (2 * ss.length) rfl rfl (by omega) (by rw [hz2]; omega) (by unfold maxLen; omega) (Nat.le_refl _) ?_)
  intro w1 hown1 hg1
  have Hown1 := Lib.hid hown1
  have Hg1 : Hid (w.grownBy w1 (some b)) := ⟨hg1.os, hg1.tape, hg1.output, hg1.size, fun k hk _ => hg1.block k hk (by simp)⟩
  have HF1 : Hid (Found w1 b N F) := (hg1.block b hbw (by simp)).trans HF.out
  clear hown1 hg1
  go_wp2_with fail
  go_loopw [7, 18] (fun u i wr => ∃ (k : Nat) (A : Acc), i = .int .i64 k ∧ k ≤ ss.length ∧ A = lenL N x (ss.take k) (F, []) ∧ wr.ownsRow w.heap.size 47 2 u A.2.length (stCells A.2) ∧ Found wr b N A.1 ∧ w.grownBy wr (some b) ∧ A.2.length ≤ 7 * k ∧ ∀ c v, A.1 c v ≤ 100) (fun _ i _ => ss.length - (intOf i).toNat)
  case atStart => exact ⟨0, (F, []), rfl, Nat.zero_le _, rfl, Hown1.out, HF1.out, Hg1.out, Nat.le_refl _, HFb.out⟩
  case round =>
    obtain ⟨k, A, rfl, hk, hA, hown, hfound, hgrown, hAl, hAb⟩ := hrel
    by_cases hlt : k < ss.length
    · have hstep := take_fold N x ss (F, []) k hlt
      rw [← hA] at hstep
      have hcs := Hss.out k hlt
      have hsk := Hok.out ss[k] (List.getElem_mem hlt)
      generalize ss[k] = s at *
      obtain ⟨c, v⟩ := s
      obtain ⟨hc1, hc2⟩ := hcs
      obtain ⟨hs1, hs2, hs3, hs4⟩ := hsk
      simp only at hc1 hc2 hs1 hs2 hs3 hs4
      have hd1 := hgrown.cell hc1 (by simp; omega)
      have hd2 := hgrown.cell hc2 (by simp; omega)
      have hbr : b < wr.heap.size := Nat.lt_of_lt_of_le hbw hgrown.size
      have hal := (Below.refl wr.heap.size wr).alloc (Nat.le_refl _) (.cells #[.int .i64 (c : Nat), .int .i64 v] 47)
      have HI : Hid (Inv w b N wr.heap.size c v A.1 A.2 u7 (wr.alloc (.cells #[.int .i64 (c : Nat), .int .i64 v] 47))) :=
        ⟨hown.alloc _, fun e => by have := (hown.lt _ e).2; omega, (hal.block b hbr).trans hfound, grown_trans hgrown (grown_of_below2 b hal), heap_alloc_new _ _⟩
      have Hstep := Lib.hid hstep; have Hs4 := Lib.hid hs4; have HAb := Lib.hid hAb
      have hwl : w.heap.size ≤ wr.heap.size := hgrown.size
      clear hstep hs4 hAb hA hown hfound hgrown hc1 hc2 hal
      go_wp2_with fail
      generalize hrb : wr.heap.size = rb at *
      clear hd1 hd2
      go_loopw [7, 22] (fun u j wx => ∃ (m : Nat) (A2 : Acc), j = .int .i64 m ∧ m ≤ 7 ∧ A2 = (List.range m).foldl (stepL N x (c, v)) A ∧ Inv w b N rb c v A2.1 A2.2 u wx ∧ A2.2.length ≤ 7 * k + m ∧ ∀ c v, A2.1 c v ≤ 100) (fun _ j _ => 7 - (intOf j).toNat)
      case atStart => exact ⟨0, A, rfl, by omega, rfl, HI.out, by omega, HAb.out⟩
      case round =>
        clear HI
        obtain ⟨m, A2, rfl, hm, hA2, hI, hA2l, hA2b⟩ := hrel
        by_cases hmlt : m < 7
        · have hst := range_fold N x (c, v) A m
          rw [← hA2] at hst
          have hstl := stepL_len N x (c, v) A2 m
          have hstb := stepL_bd N x hx (c, v) A2 m hA2b
          have Hst := Lib.hid hst; have Hstb := Lib.hid hstb
          have hr1 := cell_at hI.rest (j := 0) rfl
          have hr2 := cell_at hI.rest (j := 1) rfl
          have hlv : LV wr := HL.out.grown hI.grown hb0
          have Hlv := Lib.hid hlv
          have hpos := Hs4.out m hmlt
          have hbb := dv_step m c v hmlt hs1
          have hq1 : bef m c v ≤ 101000 := by have := lv_bd m; unfold bef; split <;> omega
          have HI2 := Lib.hid hI; have HA2b := Lib.hid hA2b
          clear hst hstb hlv hI hA2 hA2b hbb
          go_wp2_with fail
          refine (before_any m c v _ Hlv.out hmlt hs1 (by omega) (by omega)).mono ?_
          rintro e w2 ⟨rfl, g2⟩
          have HI3 := Lib.hid ((HI2.out.below g2).below ((Below.refl _ _).alloc (Nat.le_refl _) (.cells #[.int .i64 (m : Nat), .int .i64 (bef m c v)] 47)))
          have hdef : stepL N x (c, v) A2 m = if bef m c v < N ∧ lookF N A2.1 m (bef m c v) = 0 then (setF A2.1 m (bef m c v).toNat x, A2.2 ++ [(m, bef m c v)]) else A2 := rfl
          have Hne := Lib.hid (bef_ne m c v hmlt)
          have hb2 : b < w2.heap.size := Nat.lt_of_lt_of_le (lt_of_block' HI2.out.found) g2.size
          clear g2 hr1 hr2
          generalize hq : bef m c v = q at *
          have Hdef := Lib.hid hdef; clear hdef hq
          by_cases hin : q < N
          · by_cases hz : lookF N A2.1 m q = 0
            · obtain ⟨z, rfl⟩ := Int.eq_ofNat_of_zero_le (show 0 ≤ q by omega)
              have hof : ∀ wz, Found wz b N A2.1 → Calls Tryd.prog 67 #[.slice (some ⟨b, 0, none⟩) N cap, .agg #[.int .i64 m, .int .i64 (z : Nat)]] wz fun e w' => e = .returned (.int .i64 (lookF N A2.1 m (z : Nat) : Nat)) ∧ Below wz.heap.size wz w' :=
                fun wz h => ofFew_any b N cap m (z : Nat) A2.1 wz h hmlt (by omega) (by omega) hN HA2b.out
              rw [hz] at hof
              have Hof := Lib.hid hof
              have Hdef2 : Hid (stepL N x (c, v) A2 m = (setF A2.1 m z x, A2.2 ++ [(m, (z : Int))])) := by
                show _ = _; rw [Hdef.out, if_pos ⟨hin, hz⟩, Int.toNat_natCast]
              clear hof hz
              go_wp2_with fail
              refine (Hof.out _ HI3.out.found).mono ?_
              rintro e w3 ⟨rfl, g3⟩
              have HI4 := Lib.hid (HI3.out.below g3)
              have hrbb : rb ≠ b := by omega
              have HI5 := Lib.hid (HI4.out.set z m x (by omega) hmlt hrbb)
              have hcz : w3.cell? ⟨b, z * 7 + m, none⟩ = some (.int .i8 (A2.1 m z : Nat)) := cell_at HI4.out.found (fArr_at N A2.1 z m (by omega) hmlt)
              have hfz : w3.frozen? ⟨b, z * 7 + m, none⟩ = false := free2 HI4.out.found
              have ht3 : w3.heap[w2.heap.size]? = some (.cells #[.int .i64 (m : Nat), .int .i64 (z : Nat)] 47 (0, 0)) := (g3.block _ (by simp)).trans (heap_alloc_new _ _)
              have ht5 : (w3.setCell ⟨b, z * 7 + m, none⟩ (.int .i8 (x : Nat))).heap[w2.heap.size]? = some (.cells #[.int .i64 (m : Nat), .int .i64 (z : Nat)] 47 (0, 0)) := by
                rw [Below.heap_setCell _ _ _ _ (show w2.heap.size ≠ b by omega)]; exact ht3
              have hs0 := cell_at ht3 (j := 0) rfl
              have hs1 := cell_at ht3 (j := 1) rfl
              have hs50 := cell_at ht5 (j := 0) rfl
              have hs51 := cell_at ht5 (j := 1) rfl
              clear ht3 ht5 g3
              go_wp2_with (at_builtin; refine wpList_append_own _ rfl _ _ 82 rfl w.heap.size 47 i0 (.agg #[.int .i64 0, .int .i64 0]) 2 16 Tryd.underlying82 hi hz0 hz1 hz2 rfl (by decide) _ _ _ rfl (HI5.out.own.alloc _) ⟨w3.heap.size, 0, none⟩ 1 1 [.int .i64 (m : Nat), .int .i64 (z : Nat)] rfl rfl ?c1 ?c2 ?c3 ?c4 ?c5 ?_)
              case c1 =>
                intro j u h
                have e : (w3.setCell ⟨b, z * 7 + m, none⟩ (.int .i8 (x : Nat))).heap.size = w3.heap.size := by simp [World.setCell]
                rw [← e]
                match j, h with
                | 0, h => simp at h; subst h; exact cell_at (heap_alloc_new _ _) (by rfl)
                | 1, h => simp at h; subst h; exact cell_at (heap_alloc_new _ _) (by rfl)
                | j + 2, h => simp at h
              case c2 => intro u hu; simp at hu; rcases hu with rfl | rfl <;> rfl
              case c3 => unfold maxLen; omega
              case c4 => omega
              case c5 => exact Nat.le_trans HI5.out.grown.size (by simp)
              intro v' w6 ho g6 _
              have HI6 := Lib.hid ((HI5.out.below ((Below.refl _ _).alloc (Nat.le_refl _) (.cells #[.int .i64 (m : Nat), .int .i64 (z : Nat)] 47))).append m (z : Int) Hne.out ho g6 hbw)
              have Hb6 := Lib.hid (Hdef2.out ▸ Hstb.out)
              clear ho g6 hcz hfz hs0 hs1 hs50 hs51
              go_wp2_with fail
              go_roundw
              case rel => exact ⟨m + 1, (setF A2.1 m z x, A2.2 ++ [(m, (z : Int))]), by go_num, by omega, by rw [Hst.out, Hdef2.out], HI6.out, by simp; omega, Hb6.out⟩
              case measure => simp [intOf]; omega
            · have hof : ∀ wz, Found wz b N A2.1 → Calls Tryd.prog 67 #[.slice (some ⟨b, 0, none⟩) N cap, .agg #[.int .i64 m, .int .i64 q]] wz fun e w' => e = .returned (.int .i64 (lookF N A2.1 m q : Nat)) ∧ Below wz.heap.size wz w' :=
                fun wz h => ofFew_any b N cap m q A2.1 wz h hmlt (by omega) (by omega) hN HA2b.out
              have Hof := Lib.hid hof
              have Hdef2 : Hid (stepL N x (c, v) A2 m = A2) := by show _ = _; rw [Hdef.out, if_neg (fun h => hz h.2)]
              clear hof
              have hzb : ((lookF N A2.1 m q : Int) == 0) = false := by rw [beq_eq_false_iff_ne]; omega
              generalize lookF N A2.1 m q = y at *
              go_wp2_with fail
              refine (Hof.out _ HI3.out.found).mono ?_
              rintro e w3 ⟨rfl, g3⟩
              have HI4 := Lib.hid (HI3.out.below g3)
              clear g3
              go_wp2_with fail
              go_roundw
              case rel => exact ⟨m + 1, A2, by go_num, by omega, by rw [Hst.out, Hdef2.out], HI4.out, by omega, HA2b.out⟩
              case measure => simp [intOf]; omega
          · have Hdef2 : Hid (stepL N x (c, v) A2 m = A2) := by show _ = _; rw [Hdef.out, if_neg (by omega)]
            go_wp2_with fail
            go_roundw
            case rel => exact ⟨m + 1, A2, by go_num, by omega, by rw [Hst.out, Hdef2.out], HI3.out, by omega, HA2b.out⟩
            case measure => simp [intOf]; omega
        · obtain rfl : m = 7 := by omega
          have HA7 : Hid (A2 = lenL N x (ss.take (k + 1)) (F, [])) := by show _ = _; rw [Hstep.out, hA2]; rfl
          have HI7 := Lib.hid hI; have HAb7 := Lib.hid hA2b
          clear hI hA2 hA2b
          go_wp2_with fail
          go_roundw
          case rel => exact ⟨k + 1, A2, by go_num, by omega, HA7.out, HI7.out.own, HI7.out.found, HI7.out.grown, by omega, HAb7.out⟩
          case measure => simp [intOf]; omega
    · obtain rfl : k = ss.length := by omega
      rw [List.take_length] at hA
      subst hA
      have H1 := Lib.hid hown; have H2 := Lib.hid hfound; have H3 := Lib.hid hgrown
      clear hown hfound hgrown hAb hAl
      go_wp2_with fail
      go_ret
      exact ⟨_, rfl, H1.out, H2.out, H3.out⟩
end Go.Proofs.YthgagidpnnaajaaDoor
