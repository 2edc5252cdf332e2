/- The model's RomanShort. -/
import Derived.Test.YthgagidpnnaajaaDoorQC
import Derived.Test.YthgagidpnnaajaaDoorQW
namespace Go.Proofs.YthgagidpnnaajaaDoor
open Go.RowKit
set_option linter.unusedVariables false
set_option maxRecDepth 100000
theorem info_tab : (Tryd.prog.info? 63).map (fun i => (i.zero, i.size, i.bytes)) = some (some (.slice none 0 0), 1, 24) := by kernel_rfl
def lenOf : Value → Nat | .slice _ n _ => n | _ => 0
theorem tabs_of {w : World} {B K : Nat} {v : Value} {vs : List Value} (ho : w.ownsRow B 63 1 v K vs) (hK : 1 ≤ K) (hv : ∀ t (h : t < vs.length), IsTable w vs[t] (t + 1)) :
    ∃ g cap, v = .slice (some ⟨g, 0, none⟩) K cap ∧ vs.length = K ∧ g < w.heap.size ∧ (∀ t (h : t < vs.length), w.cell? ⟨g, t, none⟩ = some vs[t]) := by
  rcases ho.2 with ⟨rfl, h⟩ | ⟨g, cap, cur, rfl, hB, hg, _⟩
  · omega
  · refine ⟨g, cap, rfl, by simpa using ho.1, lt_of_block' hg, fun t ht => ?_⟩
    have := ho.cells (g := g) rfl t vs[t] (by simp [ht])
    have e : (⟨g, 0, none⟩ : Addr).add t = ⟨g, t, none⟩ := by unfold Addr.add; split <;> simp_all
    rw [← e]
    exact this
set_option maxRecDepth 100000 in
set_option maxHeartbeats 2000000 in
theorem sRomanShort_in (n : Nat) (w : World) (h1 : 1 ≤ n) (h2 : n ≤ 3999) : Calls Tryd.prog 26 #[.int .i64 n] w fun e w' => e = .returned (.tuple #[.string ⟨(shortT n).toArray⟩, .bool true]) ∧ Below w.heap.size w w' := by
  obtain ⟨i0, hi, hz0, hz1, hz2⟩ := info_parts info_tab
  have hsp := shortLen_spec n h1 h2
  have hsl := strict_len n h2
  obtain ⟨L, hL⟩ : ∃ L, L = shortLen n := ⟨_, rfl⟩
  rw [← hL] at hsp
  obtain ⟨hk, hL1, hL2, hmin⟩ := hsp
  have Hk := Lib.hid hk; have Hmin := Lib.hid hmin; have HL := Lib.hid hL
  clear hk hmin hL
  go_enter Tryd.func26, Tryd.ntmps26
  go_wp2_with fail
  refine (l6In_any _ _ _ _).mono ?_
  rintro e w1 ⟨rfl, rfl⟩
  rw [show (decide (1 ≤ (n : Int) ∧ (n : Int) ≤ 3999)) = true from decide_eq_true (by omega)]
  go_wp2_with fail
  refine (l1Table_nil _ _).mono ?_
  rintro e w1 ⟨v1, rfl, ht1, g1⟩
  obtain ⟨b1, c1, rfl⟩ : ∃ b c, v1 = .slice (some ⟨b, 0, none⟩) 7 c := by obtain ⟨b, c, _, h, _⟩ := ht1; exact ⟨b, c, h⟩
  have Ht1 := Lib.hid ht1; have G1 := Lib.hid (((Below.refl _ _).alloc (Nat.le_refl _) _).trans (g1.mono (by simp)))
  clear ht1 g1
  go_wp2_with fail
  go_loopw [4] (fun v wr => ∃ (K : Nat) (vs : List Value), 1 ≤ K ∧ K ≤ L ∧ wr.ownsRow w.heap.size 63 1 v K vs ∧ (∀ t (h : t < vs.length), IsTable wr vs[t] (t + 1)) ∧ Below w.heap.size w wr) (fun v _ => L - lenOf v)
  case atStart =>
    refine ⟨1, [.slice (some ⟨b1, 0, none⟩) 7 c1], Nat.le_refl _, hL1, ⟨rfl, .inr ⟨w1.heap.size, 1, #[.slice (some ⟨b1, 0, none⟩) 7 c1], rfl, G1.out.size, heap_alloc_new _ _, Nat.le_refl _, by decide, rfl, rfl⟩⟩, fun t ht => ?_, G1.out.alloc G1.out.size _⟩
    obtain rfl : t = 0 := by simp at ht; omega
    exact Ht1.out.below ((Below.refl _ _).alloc (Nat.le_refl _) _)
  case round =>
    obtain ⟨K, vs, hK1, hK2, hown, htabs, hbel⟩ := hrel
    obtain ⟨g, cap, rfl, hvl, hgl, hcells⟩ := tabs_of hown hK1 htabs
    have hT := htabs (K - 1) (by omega)
    rw [show K - 1 + 1 = K by omega] at hT
    have HT := Lib.hid hT
    obtain ⟨bt, ct, gs, hvt, hgs, hgc, hgr, _⟩ := hT
    have hlast : wr.cell? ⟨g, K - 1, none⟩ = some (.slice (some ⟨bt, 0, none⟩) 7 ct) := by rw [← hvt]; exact hcells (K - 1) (by omega)
    rw [hvt] at HT
    have Htabs := Lib.hid htabs; have Hvl := Lib.hid hvl; have Hcells := Lib.hid hcells; have Hgs := Lib.hid hgs; have Hgc := Lib.hid hgc; have Hgr := Lib.hid hgr; have Hown := Lib.hid hown; have Hbel := Lib.hid hbel
    clear htabs hvl hcells hgs hgc hgr hvt hown hbel
    go_wp2_with fail
    go_loop [6] (fun i => ∃ k : Nat, i = .int .i64 k ∧ k ≤ 7 ∧ ∀ j, j < k → ex K j n = false) (fun i => 7 - (intOf i).toNat)
    case atStart => exact ⟨0, rfl, by omega, fun j hj => by omega⟩
    case round =>
      obtain ⟨k, rfl, hk, hno⟩ := hrel
      have Hno := Lib.hid hno; clear hno
      by_cases hlt : k < 7
      · have hgk : k < gs.length := by rw [Hgs.out]; exact hlt
        have hc2 : wr.cell? ⟨bt, k, none⟩ = some (.slice (some ⟨gs[k], 0, none⟩) 5001 5001) := Hgc.out k hgk
        have hc3 : wr.cell? ⟨gs[k], n, none⟩ = some (.bool (exT 5000 K k (n : Int))) := cell_at (Hgr.out k hgk).2 (boolArr_at _ _ _ (by omega))
        have htab : exT 5000 K k (n : Int) = ex K k n := by
          rw [Bool.eq_iff_iff]
          exact ⟨exT_ex _ _ _ _, ex_exT _ _ _ _ hlt (by have := dv_bd k hlt; omega)⟩
        rw [htab] at hc3
        clear htab
        generalize gs[k] = gk at *
        by_cases hyes : ex K k n = true
        · rw [hyes] at hc3
          have hKL : K = L := by
            rcases Nat.lt_or_ge K L with h | h
            · have := Hmin.out K hK1 h
              rw [(hasK_iff _ _).2 ⟨k, hlt, hyes⟩] at this
              cases this
            · omega
          have Htt : Hid (Tabs wr (.slice (some ⟨g, 0, none⟩) K cap) K) := ⟨g, cap, vs, rfl, Hvl.out, hgl, fun t ht => ⟨Hcells.out t ht, Htabs.out t ht⟩⟩
          have HKL := Lib.hid (hKL.trans HL.out); clear hyes hKL
          go_wp2_with fail
          refine (l1Walk_any n K _ _ h1 h2 HKL.out Htt.out).mono ?_
          rintro e w2 ⟨rfl, rfl⟩
          go_wp2_with fail
          go_ret2
          exact ⟨rfl, Hbel.out⟩
        · have hn : ex K k n = false := by simpa using hyes
          rw [hn] at hc3
          have Hn := Lib.hid hn; clear hn hyes
          go_wp2_with fail
          go_round
          case rel => exact ⟨k + 1, by go_num, by omega, no_step (fun j => ex K j n) k Hno.out Hn.out⟩
          case measure => simp [intOf]; omega
      · obtain rfl : k = 7 := by omega
        have hKL : K < L := by
          rcases Nat.lt_or_ge K L with h | h
          · exact h
          · have e : K = L := by omega
            subst e
            obtain ⟨c, hc, hx⟩ := (hasK_iff _ _).1 Hk.out
            rw [Hno.out c hc] at hx
            cases hx
        go_wp2_with fail
        refine (l1Table_cons K hK1 _ _ HT.out).mono ?_
        rintro e w2 ⟨v2, rfl, ht2, g2⟩
        obtain ⟨b2, c2, rfl⟩ : ∃ b c, v2 = .slice (some ⟨b, 0, none⟩) 7 c := by obtain ⟨b, c, _, h, _⟩ := ht2; exact ⟨b, c, h⟩
        have hgw : wr.grownBy w2 none := ⟨g2.os, g2.tape, g2.output, g2.size, fun k hk _ => g2.block k hk⟩
        have Hown2 := Lib.hid (Hown.out.kept hgw (.inr (by simp [Value.ownBlock])))
        have Hbel2 := Lib.hid (bel_under Hbel.out Hbel.out.size g2)
        have Htabs2 : Hid (∀ t (h : t < vs.length), IsTable w2 vs[t] (t + 1)) := fun t ht => (Htabs.out t ht).below g2
        have Ht2 := Lib.hid ht2
        clear ht2 g2 hgw
        go_wp2_with (at_builtin; refine wpList_append_own _ rfl _ _ 65 rfl w.heap.size 63 i0 (.slice none 0 0) 1 24 Tryd.underlying65 hi hz0 hz1 hz2 rfl (by decide) _ _ _ rfl (Hown2.out.alloc _) ⟨w2.heap.size, 0, none⟩ 1 1 [.slice (some ⟨b2, 0, none⟩) 7 c2] rfl rfl ?c1 ?c2 ?c3 ?c4 ?c5 ?_)
        case c1 =>
          intro j u h
          match j, h with
          | 0, h => simp at h; subst h; simp [Addr.add]
          | j + 1, h => simp at h
        case c2 => intro u hu; simp at hu; subst hu; rfl
        case c3 => unfold maxLen; omega
        case c4 => omega
        case c5 => have := Hbel2.out.size; simp; omega
        intro v' w5 hown5 hg5 _
        have hal := (Below.refl w2.heap.size w2).alloc (Nat.le_refl _) (.cells #[.slice (some ⟨b2, 0, none⟩) 7 c2] 63)
        have R1 : Hid (∀ t (h : t < (vs ++ [Value.slice (some ⟨b2, 0, none⟩) 7 c2]).length), IsTable w5 (vs ++ [Value.slice (some ⟨b2, 0, none⟩) 7 c2])[t] (t + 1)) := fun t ht => by
          by_cases e : t < vs.length
          · rw [List.getElem_append_left e]
            exact ((Htabs2.out t e).below hal).grown hg5 (Hown2.out.alloc _)
          · have e2 : t = vs.length := by simp at ht; omega
            subst e2
            simp only [List.getElem_append_right (Nat.le_refl _), Nat.sub_self, List.getElem_cons_zero]
            rw [Hvl.out]
            exact (Ht2.out.below hal).grown hg5 (Hown2.out.alloc _)
        have R2 := Lib.hid ((Hbel2.out.alloc Hbel2.out.size (.cells #[.slice (some ⟨b2, 0, none⟩) 7 c2] 63)).grown hg5 (by have := Hbel2.out.size; simp; omega) (fun j hj => (Hown2.out.lt j hj).1))
        have R3 := Lib.hid hown5
        have Rl : Hid (lenOf v' = K + 1) := by
          rcases hown5.2 with ⟨rfl, h⟩ | ⟨g, cap, cur, rfl, _⟩
          · omega
          · rfl
        clear hal hown5 hg5
        go_wp2_with fail
        go_roundw
        case rel => exact ⟨K + 1, vs ++ [Value.slice (some ⟨b2, 0, none⟩) 7 c2], by omega, by omega, R3.out, R1.out, R2.out⟩
        case measure => show L - lenOf v' < L - lenOf (.slice (some ⟨g, 0, none⟩) K cap); rw [Rl.out]; show L - (K + 1) < L - K; omega
theorem sRomanShort_any (n : Int) (w : World) : Calls Tryd.prog 26 #[.int .i64 n] w fun e w' => e = .returned (romanShortR n) ∧ Below w.heap.size w w' := by
  unfold romanShortR
  by_cases h : 1 ≤ n ∧ n ≤ 3999
  · rw [if_pos h]
    obtain ⟨N, rfl⟩ := Int.eq_ofNat_of_zero_le (show 0 ≤ n by omega)
    exact sRomanShort_in N w (by omega) (by omega)
  · rw [if_neg h]
    have H := Lib.hid h; clear h
    go_enter Tryd.func26, Tryd.ntmps26
    go_wp2_with fail
    refine (l6In_any _ _ _ _).mono ?_
    rintro e w1 ⟨rfl, rfl⟩
    rw [show (decide (1 ≤ n ∧ n ≤ 3999)) = false from decide_eq_false H.out]
    go_wp2_with fail
    go_ret2
    exact ⟨rfl, Below.refl _ _⟩
end Go.Proofs.YthgagidpnnaajaaDoor
