/- The program's RomanSame: its walk. -/
import Derived.Test.YthgagidpnnaajaaDoorME
import Derived.Test.YthgagidpnnaajaaDoorQG
import Derived.Deep.RegionLaw
namespace Go.Proofs.YthgagidpnnaajaaDoor
open Go.RowKit
set_option linter.unusedVariables false
set_option maxRecDepth 100000
set_option maxHeartbeats 2000000 in
theorem iRomanSame_yes (k n : Nat) (w : World) (hl : LV w) (h1 : 1 ≤ k) (h2 : k ≤ 5) (h3 : 1 ≤ n) (h4 : n ≤ 5000) : Calls Tryd.prog 34 #[.int .i64 k, .int .i64 n] w fun e w' => e = .returned (.tuple #[.int .i64 (same k n : Nat), .bool true]) ∧ Below w.heap.size w w' := by
  have Hl := Lib.hid hl; clear hl
  have Hm0 : Hid (MapOf (w.alloc (.map #[] 0)) w.heap.size (fun _ _ => 0) 0 0) := mapOf_made w 0 (by omega)
  have Hw0 : Hid (Below w.heap.size w (w.alloc (.map #[] 0))) := (Below.refl _ _).alloc (Nat.le_refl _) _
  go_enter Tryd.func34, Tryd.ntmps34
  go_wp2_with (refine wpList_make_kv _ rfl rfl ?_)
  refine (noText_any _).mono ?_
  rintro e w1 ⟨rfl, g1⟩
  have Hm1 : Hid (MapOf w1 w.heap.size (fun _ _ => 0) 0 0) := Hm0.out.below g1
  have Hw1 : Hid (Below w.heap.size w w1) := Hw0.out.trans (g1.mono (by simp))
  clear g1
  go_wp2_with (first
    | (refine wpList_insert_kv _ rfl (.tmp 28) (.tmp 29) (.const (.int .i64 1)) rfl w.heap.size (fun _ _ => 0) 0 2 0 1 rfl rfl rfl Hm1.out (by omega) (by omega) (by omega) ?_
       intro w2 hm2 hg2 hs2
       have Hm2 : Hid (MapOf w2 w.heap.size (cnt 0) 0 1) := hm2.congr (fun c v _ => by simp [upd, cnt])
       have Hw2 : Hid (Below w.heap.size w w2) := below_grown Hw1.out hg2 (Nat.le_refl _) (Nat.le_refl _)
       have HS2 := Lib.hid hs2
       clear hm2 hg2 hs2)
    | (refine wpList_make_kv _ rfl rfl ?_))
  have Hm3 : Hid (MapOf (w2.alloc (.map #[] 0)) w2.heap.size (fun _ _ => 0) 0 0) := mapOf_made w2 0 (by omega)
  have Hm4 : Hid (MapOf (w2.alloc (.map #[] 0)) w.heap.size (cnt 0) 0 1) := Hm2.out.alloc _
  have Hw3 : Hid (Below w.heap.size w (w2.alloc (.map #[] 0))) := Hw2.out.alloc Hw2.out.size _
  have Hs2 : Hid (w.heap.size < w2.heap.size) := Hm2.out.lt
  clear HS2
  generalize w2.alloc (.map #[] 0) = w3 at *
  generalize w2.heap.size = b2 at *
  go_loopw [6, 7, 34] (fun m6 m7 j wr => ∃ (i b1 b2 N2 : Nat) (g2 : Nat → Int → Nat), m6 = .map (some b1) ∧ m7 = .map (some b2) ∧ j = .int .i64 i ∧ i ≤ k - 1 ∧ b1 ≠ b2 ∧ w.heap.size ≤ b1 ∧ w.heap.size ≤ b2 ∧ MapOf wr b1 (cnt i) (1000 * i) (7 ^ i) ∧ MapOf wr b2 g2 (1000 * i) N2 ∧ Below w.heap.size w wr) (fun _ _ j _ => k - (intOf j).toNat)
  case atStart =>
    have := Hs2.out
    exact ⟨0, w.heap.size, b2, 0, fun _ _ => 0, rfl, rfl, rfl, by omega, by omega, Nat.le_refl _, by omega, Hm4.out, Hm3.out, Hw3.out⟩
  case round =>
    obtain ⟨i, b1, b2, N2, g2, rfl, rfl, rfl, hi, hne, hb1, hb2, hm1, hm2, hbw⟩ := hrel
    have Hb1 := Lib.hid hm1; have Hb2 := Lib.hid hm2; have Hbw := Lib.hid hbw
    clear hm1 hm2 hbw
    by_cases hlt : i < k - 1
    · go_wp2_with (first
        | (refine wpList_clear_kv _ rfl (.tmp 36) rfl b2 _ _ _ rfl Hb2.out ?_
           intro w4 hm4 hg4 hs4
           have Hc1 : Hid (MapOf w4 b1 (cnt i) (1000 * i) (7 ^ i)) := Hb1.out.grown hg4 (fun e => hne e.symm)
           have Hc2 : Hid (MapOf w4 b2 (fun _ _ => 0) (1000 * i) 0) := hm4
           have Hcw : Hid (Below w.heap.size w w4) := below_grown Hbw.out hg4 hb2 (Nat.le_refl _)
           clear hm4 hg4 hs4)
        | (refine wpList_range_kv _ rfl (.tmp 37) rfl b1 _ _ _ rfl Hc1.out ?_
           intro w5 n5 hr5 hn5 hbl5 hs5
           have Hr5 := Lib.hid hr5
           have Hd2 : Hid (MapOf w5 b2 (fun _ _ => 0) (1000 * i) 0) := Hc2.out.below hbl5
           have Hdw : Hid (Below w.heap.size w w5) := Hcw.out.trans (hbl5.mono Hcw.out.size)
           clear hr5 hbl5 hs5))
      go_frame
      have hrb1 : Hid (b1 < w4.heap.size) := Hc1.out.lt
      have hrb2 : Hid (b2 < w4.heap.size) := Hc2.out.lt
      have hrb0 : Hid (w.heap.size ≤ w4.heap.size) := Hcw.out.size
      generalize w4.heap.size = r at *
      clear Hb1 Hb2 Hbw Hc1 Hc2 Hcw
      go_loopw [9] (fun _ wr => ∃ (rem h : Nat → Int → Nat) (n2 N2 : Nat), Rng wr b1 r (cnt i) rem (1000 * i) (7 ^ i) n2 ∧ n2 ≤ 7 ^ i ∧ MapOf wr b2 h (1000 * i + 1000) N2 ∧ N2 ≤ 7 * (7 ^ i - n2) ∧ (∀ c v, c < 7 → h c v + sum7 (fun f => rem f (wo c f v)) = cnt (i + 1) c v) ∧ Below w.heap.size w wr) (fun _ wr => wr.rangeLeft b1 r)
      case atStart =>
        exact ⟨cnt i, fun _ _ => 0, n5, 0, Hr5.out, hn5, Hd2.out.mono (by omega) (by omega) (by omega), by omega, fun c v _ => by simp [cnt], Hdw.out⟩
      case round =>
        clear Hr5 Hd2 Hdw
        obtain ⟨rem, h, n2, M2, hr, hn2, hm2, hM2, hsum, hbw⟩ := hrel
        have Hr := Lib.hid hr; have Hm2 := Lib.hid hm2; have Hbw := Lib.hid hbw; have Hsum := Lib.hid hsum
        clear hr hm2 hbw hsum
        go_wp2_with (refine wpList_next_kv _ rfl (.tmp 38) rfl b1 r _ _ _ _ _ rfl Hr.out ?_ ?_)
        · intro hn0 hrem0
          have Hrem0 := Lib.hid hrem0; clear hrem0
          go_wp2_with fail
          have hz : Hid (MapOf _ b2 (cnt (i + 1)) _ M2) := Hm2.out.congr (fun c v hc => by
            have := Hsum.out c v hc
            have e : (sum7 fun f => rem f (wo c f v)) = 0 := by simp [sum7, Hrem0.out 0 _ (by omega), Hrem0.out 1 _ (by omega), Hrem0.out 2 _ (by omega), Hrem0.out 3 _ (by omega), Hrem0.out 4 _ (by omega), Hrem0.out 5 _ (by omega), Hrem0.out 6 _ (by omega)]
            omega)
          have hp : 7 ^ (i + 1) = 7 * 7 ^ i := by rw [Nat.pow_succ, Nat.mul_comm]
          refine ⟨⟨i + 1, b2, b1, 7 ^ i, cnt i, rfl, rfl, rfl, by omega, fun e => hne e.symm, hb2, hb1, hz.out.mono (by push_cast; omega) (by push_cast; omega) (by rw [hp]; omega), Hr.out.of.mono (by push_cast; omega) (by push_cast; omega) (Nat.le_refl _), Hbw.out⟩, ?_⟩
          simp only [intOf]
          omega
        · intro f v w6 n6 hf hv0 hv1 hrem hr6 hn6 hg6 hs6 hen6
          have hm6 : Hid (MapOf w6 b2 h (1000 * i + 1000) M2) := Hm2.out.grown hg6 (by have := hrb2.out; omega)
          have hw6 : Hid (Below w.heap.size w w6) := below_grown Hbw.out hg6 hrb0.out (Nat.le_refl _)
          have Hleft : Hid (wr.rangeLeft b1 r = n2) := Hr.out.left_eq
          have Hr6 := Lib.hid hr6; have Hrem := Lib.hid hrem; have Hn6 := Lib.hid hn6
          clear hr6 hg6 hs6 hrem hn6 Hr Hm2 Hbw
          simp only [kv] at hen6 ⊢
          have Hcell : Hid ((w6.alloc (.cells #[.int .i64 f, .int .i64 v] 47)).heap[w6.heap.size]? = some (.cells #[.int .i64 f, .int .i64 v] 47 (0, 0))) := heap_alloc_new _ _
          have Hr7 : Hid (Rng (w6.alloc (.cells #[.int .i64 f, .int .i64 v] 47)) b1 r _ _ _ _ n6) := Hr6.out.alloc _
          have Hm7 : Hid (MapOf (w6.alloc (.cells #[.int .i64 f, .int .i64 v] 47)) b2 h (1000 * i + 1000) M2) := hm6.out.alloc _
          have Hw7 : Hid (Below w.heap.size w (w6.alloc (.cells #[.int .i64 f, .int .i64 v] 47))) := hw6.out.alloc hw6.out.size _
          have Hlt8 : Hid (r < w6.heap.size) := Hr6.out.lt
          go_wp2_with fail
          clear Hr6 hm6 hw6 hen6
          generalize w6.alloc (.cells #[.int .i64 f, .int .i64 v] 47) = w7 at *
          generalize w6.heap.size = b8 at *
          go_loopw [44] (fun j wr => ∃ (l M3 : Nat) (h3 : Nat → Int → Nat), j = .int .i64 l ∧ l ≤ 7 ∧ Rng wr b1 r (cnt i) (upd rem f v 0) (1000 * i) (7 ^ i) n6 ∧ MapOf wr b2 h3 (1000 * i + 1000) M3 ∧ M3 ≤ M2 + l ∧ (∀ c v', c < 7 → h3 c v' = h c v' + (if c < l ∧ wo c f v' = v then cnt i f v else 0)) ∧ wr.heap[b8]? = some (.cells #[.int .i64 f, .int .i64 v] 47 (0, 0)) ∧ Below w.heap.size w wr) (fun j _ => 7 - (intOf j).toNat)
          case atStart =>
            exact ⟨0, M2, h, rfl, by omega, Hr7.out, Hm7.out, by omega, fun c v' _ => by simp, Hcell.out, Hw7.out⟩
          case round =>
            clear Hr7 Hm7 Hcell Hw7
            obtain ⟨l, M3, h3, rfl, hl7, hr, hm3, hM3, hh3, hcell, hbw⟩ := hrel
            have Hr := Lib.hid hr; have Hm3 := Lib.hid hm3; have Hh3 := Lib.hid hh3; have Hbw := Lib.hid hbw; have Hcell := Lib.hid hcell
            clear hr hm3 hh3 hbw
            by_cases hl : l < 7
            · have hc0 := cell_at hcell (j := 0) rfl
              have hc1 := cell_at hcell (j := 1) rfl
              clear hcell
              have hd0 : wr.drew.cell? ⟨b8, 0, none⟩ = some (.int .i64 f) := hc0
              have hd1 : wr.drew.cell? ⟨b8, 0 + 1, none⟩ = some (.int .i64 v) := hc1
              have HlvD : Hid (LV wr.drew) := Hl.out.step Hbw.out.drew
              have HrD : Hid (Rng wr.drew b1 r (cnt i) (upd rem f v 0) (1000 * i) (7 ^ i) n6) := Hr.out
              have HmD : Hid (MapOf wr.drew b2 h3 (1000 * i + 1000) M3) := Hm3.out
              have HcD : Hid (wr.drew.heap[b8]? = some (.cells #[.int .i64 f, .int .i64 v] 47 (0, 0))) := Hcell.out
              have HwD : Hid (Below w.heap.size w wr.drew) := Hbw.out.drew
              have hlb := lv_bd l
              have hcl := cnt_le i f v
              have hpi : 7 ^ i ≤ 7 ^ 5 := Nat.pow_le_pow_right (by omega) (by omega)
              have hq0 : -(1000 * (i : Int) + 1000) ≤ bef l f v := by unfold bef; split <;> omega
              have hq1 : bef l f v ≤ 1000 * (i : Int) + 1000 := by unfold bef; split <;> omega
              have hb3 : h3 l (bef l f v) ≤ 7 ^ 6 := by
                have e1 := Hh3.out l (bef l f v) hl
                have e2 := Hsum.out l (bef l f v) hl
                have e3 := cnt_le (i + 1) l (bef l f v)
                have e4 : 7 ^ (i + 1) ≤ 7 ^ 5 := Nat.pow_le_pow_right (by omega) (by omega)
                rw [if_neg (by omega)] at e1
                omega
              have hww : IntKind.i64.wrap ((h3 l (bef l f v) : Int) + (cnt i f v : Int)) = (h3 l (bef l f v) : Int) + (cnt i f v : Int) := IntWalk.i64_in _ (by omega)
              go_wp2_with fail
              go_region_law (
                go_simp
                go_at_call 44
                refine (before_any l f v wr.drew HlvD.out hl hf (by omega) (by omega)).mono ?_
                rintro e w8 ⟨rfl, g8⟩
                have hm8 := HmD.out.below g8
                have hlk8 := hm8.lookup l (bef l f v) hl (by omega) (by omega)
                obtain ⟨st, w9, hen9, hm9, hg9, hs9⟩ := hm8.entry l (bef l f v) hl hq0 hq1
                have hlk9 := hm9.of.lookup l (bef l f v) hl (by omega) (by omega)
                obtain ⟨w10, hst10, hm10, hg10, hs10⟩ := hm9.store (h3 l (bef l f v) + cnt i f v)
                have Hm10 := Lib.hid hm10
                have Hr10 : Hid (Rng w10 b1 r (cnt i) (upd rem f v 0) (1000 * i) (7 ^ i) n6) := ((HrD.out.below g8).grown hg9 (fun e => hne e.symm) (by have := hrb2.out; omega)).grown hg10 (fun e => hne e.symm) (by have := hrb2.out; omega)
                have Hw10 : Hid (Below w.heap.size w w10) := below_grown (below_grown (HwD.out.trans (g8.mono HwD.out.size)) hg9 hb2 (Nat.le_refl _)) hg10 hb2 (Nat.le_refl _)
                have hl8 := lt_of_block' HcD.out
                have hcc8 := (g8.block b8 hl8).trans HcD.out
                have hcc9 := (hg9.block b8 (lt_of_block' hcc8) (fun e => by injection e with e; have := hrb2.out; have := Hlt8.out; omega)).trans hcc8
                have Hc10 : Hid (w10.heap[b8]? = some (.cells #[.int .i64 f, .int .i64 v] 47 (0, 0))) := (hg10.block b8 (lt_of_block' hcc9) (fun e => by injection e with e; have := hrb2.out; have := Hlt8.out; omega)).trans hcc9
                clear hm8 hm9 hg9 hs9 hm10 hg10 hs10 g8 hl8 hcc8 hcc9
                simp only [kv, goInt, Int.natCast_add] at hlk8 hen9 hlk9 hst10)
              all_goals
                go_wp2_with fail
                refine ⟨⟨l + 1, M3 + 1, upd h3 l (bef l f v) (h3 l (bef l f v) + cnt i f v), rfl, by omega, Hr10.out, Hm10.out, by omega, upd_round h3 h l f v (cnt i f v) hl Hh3.out, Hc10.out, Hw10.out⟩, ?_⟩
                simp only [intOf]
                omega
            · go_wp2_with fail
              obtain rfl : l = 7 := by omega
              have hn6 := Hn6.out
              refine ⟨⟨upd rem f v 0, h3, n6, M3, Hr.out, by omega, Hm3.out, by omega, fun c v' hc => ?_, Hbw.out⟩, ?_⟩
              · have e1 := sum7_upd rem f v hf (fun f' => wo c f' v')
                have e2 := Hsum.out c v' hc
                have e3 := Hh3.out c v' hc
                have e4 := Hrem.out
                rw [e4] at e1
                simp only [hc, true_and] at e3
                omega
              · rw [Hr.out.left_eq, Hleft.out]
                exact hn6
    · go_wp2_with fail
      have Hik : Hid (i + 1 = k) := by show _ = _; omega
      have hk5 : i ≤ 5 := by omega
      clear Hb2
      go_loopw [11, 60] (fun s j wy => ∃ a : Nat, s = .int .i64 (psum (fun c => cnt k c n) a : Nat) ∧ j = .int .i64 a ∧ a ≤ 7 ∧ MapOf wy b1 (cnt i) (1000 * i) (7 ^ i) ∧ Below w.heap.size w wy) (fun _ j _ => 7 - (intOf j).toNat)
      case atStart => exact ⟨0, rfl, rfl, by omega, Hb1.out, Hbw.out⟩
      case round =>
        clear Hb1 Hbw
        obtain ⟨a, rfl, rfl, ha, hm, hbw⟩ := hrel
        have Hm := Lib.hid hm; have Hbw := Lib.hid hbw
        clear hm hbw
        by_cases hl : a < 7
        · go_wp2_with fail
          rw [show decide ((a : Int) < 7) = true from decide_eq_true (by omega)]
          go_loopw [11, 63] (fun s j wz => ∃ b : Nat, s = .int .i64 (psum (fun c => cnt k c n) a + psum (fun f => cnt i f (wo a f n)) b : Nat) ∧ j = .int .i64 b ∧ b ≤ 7 ∧ MapOf wz b1 (cnt i) (1000 * i) (7 ^ i) ∧ Below w.heap.size w wz) (fun _ j _ => 7 - (intOf j).toNat)
          case atStart => exact ⟨0, by simp [psum], rfl, by omega, Hm.out, Hbw.out⟩
          case round =>
            clear Hm Hbw
            obtain ⟨b, rfl, rfl, hb, hm, hbw⟩ := hrel
            have Hm := Lib.hid hm; have Hbw := Lib.hid hbw
            clear hm hbw
            by_cases hb7 : b < 7
            · have HlvD : Hid (LV wr) := Hl.out.step Hbw.out
              have hp1 := psum_le (fun c => cnt k c n) (7 ^ 5) (fun c _ => Nat.le_trans (cnt_le k c n) (Nat.pow_le_pow_right (by omega) h2)) a (by omega)
              have hp2 := psum_le (fun f => cnt i f (wo a f n)) (7 ^ 5) (fun c _ => Nat.le_trans (cnt_le i c _) (Nat.pow_le_pow_right (by omega) hk5)) b (by omega)
              have hcl := Nat.le_trans (cnt_le i b (wo a b n)) (Nat.pow_le_pow_right (n := 7) (by omega) hk5)
              have hps : psum (fun f => cnt i f (wo a f n)) (b + 1) = psum (fun f => cnt i f (wo a f n)) b + cnt i b (wo a b n) := rfl
              have hlb := lv_bd a
              have hq0 : -1000000 ≤ wo a b n := by unfold wo; split <;> omega
              have hq1 : wo a b n ≤ 1000000 := by unfold wo; split <;> omega
              obtain ⟨S, hS⟩ : ∃ S, psum (fun c => cnt k c n) a + psum (fun f => cnt i f (wo a f n)) b = S := ⟨_, rfl⟩
              have hS' : psum (fun c => cnt k c n) a + psum (fun f => cnt i f (wo a f n)) (b + 1) = S + cnt i b (wo a b n) := by rw [hps]; omega
              have hSb : S ≤ 7 * 7 ^ 5 + 7 * 7 ^ 5 := by omega
              rw [hS]
              have HS' := Lib.hid hS'
              clear hp1 hp2 hps hS hS'
              have hww : IntKind.i64.wrap ((S : Int) + (cnt i b (wo a b n) : Int)) = (S : Int) + (cnt i b (wo a b n) : Int) := IntWalk.i64_in _ (by omega)
              go_wp2_with fail
              refine (without_any a b n _ HlvD.out hl hb7 (by omega) (by omega)).mono ?_
              rintro e w4 ⟨rfl, g4⟩
              have hlk := (Hm.out.below g4).lookup b (wo a b n) hb7 hq0 hq1
              simp only [kv] at hlk
              have Hm4 := Lib.hid (Hm.out.below g4)
              have Hw4 : Hid (Below w.heap.size w w4) := Hbw.out.trans (g4.mono Hbw.out.size)
              clear g4
              go_wp2_with fail
              refine ⟨⟨b + 1, by rw [HS'.out, Int.natCast_add], rfl, by omega, Hm4.out, Hw4.out⟩, ?_⟩
              simp only [intOf]
              omega
            · go_wp2_with fail
              obtain rfl : b = 7 := by omega
              refine ⟨⟨a + 1, ?_, rfl, by omega, Hm.out, Hbw.out⟩, ?_⟩
              · have e1 : psum (fun c => cnt k c n) (a + 1) = psum (fun c => cnt k c n) a + cnt k a n := rfl
                have e2 : cnt k a n = psum (fun f => cnt i f (wo a f n)) 7 := by rw [psum_seven]; rw [← Hik.out]; rfl
                rw [e1, e2]
              · simp only [intOf]
                omega
        · go_wp2_with fail
          obtain rfl : a = 7 := by omega
          rw [psum_seven]
          go_ret2
          exact ⟨rfl, Hbw.out⟩
end Go.Proofs.YthgagidpnnaajaaDoor
