/- The model's l1Walk. -/
import Derived.Test.YthgagidpnnaajaaDoorQT
import Derived.Test.YthgagidpnnaajaaDoorDt
namespace Go.Proofs.YthgagidpnnaajaaDoor
open Go.RowKit
set_option linter.unusedVariables false
set_option maxRecDepth 100000
/-- what must stand at the next letter, by the number that is left and the letter ahead -/
def wfn (n bf : Int) (i : Nat) : Int := if 0 < bf ∧ bf < lv i then n + bf else n - bf
theorem wfn_start (n : Int) : wfn n 0 = fun _ => n := by
  funext i
  unfold wfn
  rw [if_neg (by omega)]
  omega
theorem wfn_def (n bf : Int) (i : Nat) : wfn n bf i = if 0 < bf ∧ bf < lv i then n + bf else n - bf := rfl
theorem wfn_step (n bf : Int) (k : Nat) (hk : k < 7) : (fun g => wo k g (wfn n bf k)) = wfn (wfn n bf k) (lv k) := by
  funext g
  have := lv_pos k hk
  rw [wfn_def (wfn n bf k) (lv k) g]
  unfold wo
  by_cases h : lv k < lv g
  · rw [if_pos h, if_pos ⟨by omega, h⟩]
  · rw [if_neg h, if_neg (by omega)]
theorem no_step (P : Nat → Bool) (k : Nat) (h : ∀ j, j < k → P j = false) (hk : P k = false) : ∀ j, j < k + 1 → P j = false := fun j hj => by
  by_cases e : j = k
  · rw [e]; exact hk
  · exact h j (by omega)
theorem first7_is (P : Nat → Bool) (k : Nat) (hk : P k = true) (h7 : k < 7) (hno : ∀ j, j < k → P j = false) : first7 P = k := by
  have h := first7_of P ⟨k, h7, hk⟩
  rcases Nat.lt_trichotomy (first7 P) k with h1 | h1 | h1
  · rw [hno _ h1] at h; cases h.1
  · exact h1
  · rw [h.2 k h1] at hk; cases hk
theorem txt_step (r : Nat) (w : Nat → Int) (k : Nat) (h : first7 (fun f => ex (r + 1) f (w f)) = k) : txt (r + 1) w = k :: txt r (fun g => wo k g (w k)) := by
  subst h; rfl
/-- the tables of one, two .. letters -/
def Tabs (w : World) (v : Value) (L : Nat) : Prop := ∃ (b c : Nat) (vs : List Value), v = .slice (some ⟨b, 0, none⟩) L c ∧ vs.length = L ∧ b < w.heap.size ∧ ∀ t (h : t < vs.length), w.cell? ⟨b, t, none⟩ = some vs[t] ∧ IsTable w vs[t] (t + 1)
theorem letters_ex (k : Nat) (h : k < 7) : (⟨#[67, 68, 73, 76, 77, 86, 88]⟩ : ByteArray).extract k (k + 1) = ⟨[lb k].toArray⟩ := by
  rcases (show k = 0 ∨ k = 1 ∨ k = 2 ∨ k = 3 ∨ k = 4 ∨ k = 5 ∨ k = 6 by omega) with rfl | rfl | rfl | rfl | rfl | rfl | rfl <;> rfl
set_option maxRecDepth 100000 in
set_option maxHeartbeats 2000000 in
theorem l1Walk_any (n L : Nat) (v0 : Value) (w : World) (h1 : 1 ≤ n) (h2 : n ≤ 3999) (hL : L = shortLen n) (hT : Tabs w v0 L) : Calls Tryd.prog 56 #[v0, .int .i64 n] w fun e w' => e = .returned (.string ⟨(shortT n).toArray⟩) ∧ w = w' := by
  obtain ⟨b, c, vs, rfl, hvs, hbl, hts⟩ := hT
  have hsp := shortLen_spec n h1 h2
  have hsl := strict_len n h2
  rw [← hL] at hsp
  obtain ⟨hk, hL1, hL2, hmin⟩ := hsp
  have Hk := Lib.hid hk; have Hmin := Lib.hid hmin; have HL := Lib.hid hL; have Hvs := Lib.hid hvs; have Hts := Lib.hid hts
  clear hk hmin hL hvs hts
  go_enter Tryd.func56, Tryd.ntmps56
  go_wp2_with fail
  refine (l1Letters_any _).mono ?_
  rintro e w1 ⟨rfl, rfl⟩
  go_wp2_with fail
  go_loop [1, 6, 7, 8] (fun n' s bf t => ∃ (v m q : Int) (S : List UInt8), t = .int .i64 v ∧ -1 ≤ v ∧ v < L ∧ n' = .int .i64 m ∧ bf = .int .i64 q ∧ 0 ≤ q ∧ q ≤ 1000 ∧ s = .string ⟨S.toArray⟩ ∧ S.length ≤ 16 - (v + 1) ∧ -(1000 * (16 - (v + 1))) ≤ m ∧ m ≤ 4000 + 1000 * (16 - (v + 1)) ∧ Road n L (v + 1).toNat (wfn m q) ∧ (∃ f, f < 7 ∧ ex (v + 1).toNat f (wfn m q f) = true) ∧ S ++ (txt (v + 1).toNat (wfn m q)).map lb = shortT n) (fun _ _ _ t => (intOf t + 1).toNat)
  case atStart =>
    refine ⟨_, _, _, [], rfl, by omega, by omega, rfl, rfl, by omega, by omega, rfl, by simp; omega, by omega, by omega, ?_, ?_, ?_⟩
    · rw [show ((L : Int) - 1 + 1).toNat = L by omega, wfn_start]; exact road_start n L
    · rw [show ((L : Int) - 1 + 1).toNat = L by omega, wfn_start]; exact (hasK_iff _ _).1 Hk.out
    · rw [show ((L : Int) - 1 + 1).toNat = L by omega, wfn_start, List.nil_append]
      have := HL.out
      unfold shortT
      rw [← this]
  case round =>
    obtain ⟨v, m, q, S, rfl, hv0, hv1, rfl, rfl, hq0, hq1, rfl, hSl, hm0, hm1, hroad, hex, htx⟩ := hrel
    by_cases hge : 0 ≤ v
    · obtain ⟨t, rfl⟩ := Int.eq_ofNat_of_zero_le hge
      rw [show ((t : Int) + 1).toNat = t + 1 by omega] at hroad hex htx
      obtain ⟨hc1, bt, ct, gs, hvt, hgs, hgc, hgr, _⟩ := Hts.out t (by rw [Hvs.out]; omega)
      rw [hvt] at hc1
      have Hfirst := Lib.hid (first7_of (fun f => ex (t + 1) f (wfn m q f)) hex)
      have Hroad := Lib.hid hroad; have Hex := Lib.hid hex; have Htx := Lib.hid htx; have Hgs := Lib.hid hgs; have Hgc := Lib.hid hgc; have Hgr := Lib.hid hgr
      clear hroad hex htx hgs hgc hgr hvt
      go_wp2_with fail
      go_loop [1, 6, 7, 9] (fun n' s bf i => ∃ k : Nat, i = .int .i64 k ∧ k ≤ 7 ∧ n' = .int .i64 m ∧ s = .string ⟨S.toArray⟩ ∧ bf = .int .i64 q ∧ ∀ j, j < k → ex (t + 1) j (wfn m q j) = false) (fun _ _ _ i => 7 - (intOf i).toNat)
      case atStart => exact ⟨0, rfl, by omega, rfl, rfl, rfl, fun j hj => by omega⟩
      case round =>
        obtain ⟨k, rfl, hk, rfl, rfl, rfl, hno⟩ := hrel
        have Hno := Lib.hid hno; clear hno
        by_cases hlt : k < 7
        · have Hrv := Lib.hid (letters_at k hlt)
          have hvb := lv_bd k
          have Hletter := Lib.hid (letters_ex k hlt)
          have hgk : k < gs.length := by rw [Hgs.out]; exact hlt
          have hc2 : w.cell? ⟨bt, k, none⟩ = some (.slice (some ⟨gs[k], 0, none⟩) 5001 5001) := Hgc.out k hgk
          have Hc3 : Hid (∀ x, x < 5001 → w.cell? ⟨gs[k], x, none⟩ = some (.bool (exT 5000 (t + 1) k (x : Int)))) := fun x hx => cell_at (Hgr.out k hgk).2 (boolArr_at _ _ _ hx)
          have Htab := Lib.hid (road_table n (by omega) L (t + 1) (wfn m q) Hroad.out k hlt)
          generalize gs[k] = gk at *
          by_cases hc : 0 < q ∧ q < lv k
          · have Hw : Hid (wfn m q k = m + q) := by show _ = _; unfold wfn; rw [if_pos hc]
            obtain ⟨hcq, hcl⟩ := hc
            by_cases hin : 0 ≤ m + q ∧ m + q ≤ 5000
            · have hc3 := Hc3.out (m + q).toNat (by omega)
              rw [show (((m + q).toNat : Nat) : Int) = wfn m q k by rw [Hw.out]; omega, Htab.out] at hc3
              by_cases hyes : ex (t + 1) k (wfn m q k) = true
              · rw [hyes] at hc3
                have Hf := Lib.hid (first7_is (fun f => ex (t + 1) f (wfn m q f)) k hyes hlt Hno.out)
                have Hyes := Lib.hid hyes; clear hyes
                have hcat : S.length + 1 ≤ 9223372036854775807 := by omega
                go_wp2_with fail
                refine (l1Value_any _ _).mono ?_
                rw [Hrv.out]
                rintro e w2 ⟨rfl, rfl⟩
                go_wp2_with fail
                refine (l6In_any _ _ _ _).mono ?_
                rintro e w2 ⟨rfl, rfl⟩
                rw [decide_eq_true hin]
                go_wp2_with fail
                refine (l1Value_any _ _).mono ?_
                rw [Hrv.out]
                rintro e w2 ⟨rfl, rfl⟩
                go_wp2_with fail
                go_round
                case rel =>
                  refine ⟨(t : Int) - 1, m + q, lv k, S ++ [lb k], by go_num, by omega, by omega, rfl, rfl, hvb.1, hvb.2, by rw [Hletter.out, bytes_append], by simp; omega, by omega, by omega, ?_, ?_, ?_⟩
                  · rw [show ((t : Int) - 1 + 1).toNat = t by omega, ← Hw.out, ← wfn_step m q k hlt]; exact road_step n L t _ k hlt Hroad.out
                  · rw [show ((t : Int) - 1 + 1).toNat = t by omega, ← Hw.out, ← wfn_step m q k hlt]; exact road_next t _ k Hyes.out
                  · rw [show ((t : Int) - 1 + 1).toNat = t by omega, ← Hw.out, ← wfn_step m q k hlt, ← Htx.out, txt_step t _ k Hf.out]; simp
                case measure => simp [intOf]
              · have hno : ex (t + 1) k (wfn m q k) = false := by simpa using hyes
                rw [hno] at hc3
                have Hn := Lib.hid hno; clear hno hyes
                go_wp2_with fail
                refine (l1Value_any _ _).mono ?_
                rw [Hrv.out]
                rintro e w2 ⟨rfl, rfl⟩
                go_wp2_with fail
                refine (l6In_any _ _ _ _).mono ?_
                rintro e w2 ⟨rfl, rfl⟩
                rw [decide_eq_true hin]
                go_wp2_with fail
                go_round
                case rel => exact ⟨k + 1, by go_num, by omega, rfl, rfl, rfl, no_step (fun j => ex (t + 1) j (wfn m q j)) k Hno.out Hn.out⟩
                case measure => simp [intOf]; omega
            · have hno : ex (t + 1) k (wfn m q k) = false := by
                rw [← Htab.out, Hw.out]
                exact by simp only [exT, Bool.and_eq_false_iff, decide_eq_false_iff_not]; exact .inl hin
              have Hn := Lib.hid hno; clear hno
              go_wp2_with fail
              refine (l1Value_any _ _).mono ?_
              rw [Hrv.out]
              rintro e w2 ⟨rfl, rfl⟩
              go_wp2_with fail
              refine (l6In_any _ _ _ _).mono ?_
              rintro e w2 ⟨rfl, rfl⟩
              rw [decide_eq_false hin]
              have Hin := Lib.hid hin; clear hin
              go_wp2_with fail
              go_round
              case rel => exact ⟨k + 1, by go_num, by omega, rfl, rfl, rfl, no_step (fun j => ex (t + 1) j (wfn m q j)) k Hno.out Hn.out⟩
              case measure => simp [intOf]; omega
          · have Hw : Hid (wfn m q k = m - q) := by show _ = _; unfold wfn; rw [if_neg hc]
            by_cases hcq : 0 < q
            · have hcl : ¬ q < lv k := fun h => hc ⟨hcq, h⟩
              clear hc
              by_cases hin : 0 ≤ m - q ∧ m - q ≤ 5000
              · have hc3 := Hc3.out (m - q).toNat (by omega)
                rw [show (((m - q).toNat : Nat) : Int) = wfn m q k by rw [Hw.out]; omega, Htab.out] at hc3
                by_cases hyes : ex (t + 1) k (wfn m q k) = true
                · rw [hyes] at hc3
                  have Hf := Lib.hid (first7_is (fun f => ex (t + 1) f (wfn m q f)) k hyes hlt Hno.out)
                  have Hyes := Lib.hid hyes; clear hyes
                  have hcat : S.length + 1 ≤ 9223372036854775807 := by omega
                  go_wp2_with fail
                  refine (l1Value_any _ _).mono ?_
                  rw [Hrv.out]
                  rintro e w2 ⟨rfl, rfl⟩
                  go_wp2_with fail
                  refine (l6In_any _ _ _ _).mono ?_
                  rintro e w2 ⟨rfl, rfl⟩
                  rw [decide_eq_true hin]
                  go_wp2_with fail
                  refine (l1Value_any _ _).mono ?_
                  rw [Hrv.out]
                  rintro e w2 ⟨rfl, rfl⟩
                  go_wp2_with fail
                  go_round
                  case rel =>
                    refine ⟨(t : Int) - 1, m - q, lv k, S ++ [lb k], by go_num, by omega, by omega, rfl, rfl, hvb.1, hvb.2, by rw [Hletter.out, bytes_append], by simp; omega, by omega, by omega, ?_, ?_, ?_⟩
                    · rw [show ((t : Int) - 1 + 1).toNat = t by omega, ← Hw.out, ← wfn_step m q k hlt]; exact road_step n L t _ k hlt Hroad.out
                    · rw [show ((t : Int) - 1 + 1).toNat = t by omega, ← Hw.out, ← wfn_step m q k hlt]; exact road_next t _ k Hyes.out
                    · rw [show ((t : Int) - 1 + 1).toNat = t by omega, ← Hw.out, ← wfn_step m q k hlt, ← Htx.out, txt_step t _ k Hf.out]; simp
                  case measure => simp [intOf]
                · have hno : ex (t + 1) k (wfn m q k) = false := by simpa using hyes
                  rw [hno] at hc3
                  have Hn := Lib.hid hno; clear hno hyes
                  go_wp2_with fail
                  refine (l1Value_any _ _).mono ?_
                  rw [Hrv.out]
                  rintro e w2 ⟨rfl, rfl⟩
                  go_wp2_with fail
                  refine (l6In_any _ _ _ _).mono ?_
                  rintro e w2 ⟨rfl, rfl⟩
                  rw [decide_eq_true hin]
                  go_wp2_with fail
                  go_round
                  case rel => exact ⟨k + 1, by go_num, by omega, rfl, rfl, rfl, no_step (fun j => ex (t + 1) j (wfn m q j)) k Hno.out Hn.out⟩
                  case measure => simp [intOf]; omega
              · have hno : ex (t + 1) k (wfn m q k) = false := by
                  rw [← Htab.out, Hw.out]
                  exact by simp only [exT, Bool.and_eq_false_iff, decide_eq_false_iff_not]; exact .inl hin
                have Hn := Lib.hid hno; clear hno
                go_wp2_with fail
                refine (l1Value_any _ _).mono ?_
                rw [Hrv.out]
                rintro e w2 ⟨rfl, rfl⟩
                go_wp2_with fail
                refine (l6In_any _ _ _ _).mono ?_
                rintro e w2 ⟨rfl, rfl⟩
                rw [decide_eq_false hin]
                have Hin := Lib.hid hin; clear hin
                go_wp2_with fail
                go_round
                case rel => exact ⟨k + 1, by go_num, by omega, rfl, rfl, rfl, no_step (fun j => ex (t + 1) j (wfn m q j)) k Hno.out Hn.out⟩
                case measure => simp [intOf]; omega
            · clear hc
              by_cases hin : 0 ≤ m - q ∧ m - q ≤ 5000
              · have hc3 := Hc3.out (m - q).toNat (by omega)
                rw [show (((m - q).toNat : Nat) : Int) = wfn m q k by rw [Hw.out]; omega, Htab.out] at hc3
                by_cases hyes : ex (t + 1) k (wfn m q k) = true
                · rw [hyes] at hc3
                  have Hf := Lib.hid (first7_is (fun f => ex (t + 1) f (wfn m q f)) k hyes hlt Hno.out)
                  have Hyes := Lib.hid hyes; clear hyes
                  have hcat : S.length + 1 ≤ 9223372036854775807 := by omega
                  go_wp2_with fail
                  refine (l6In_any _ _ _ _).mono ?_
                  rintro e w2 ⟨rfl, rfl⟩
                  rw [decide_eq_true hin]
                  go_wp2_with fail
                  refine (l1Value_any _ _).mono ?_
                  rw [Hrv.out]
                  rintro e w2 ⟨rfl, rfl⟩
                  go_wp2_with fail
                  go_round
                  case rel =>
                    refine ⟨(t : Int) - 1, m - q, lv k, S ++ [lb k], by go_num, by omega, by omega, rfl, rfl, hvb.1, hvb.2, by rw [Hletter.out, bytes_append], by simp; omega, by omega, by omega, ?_, ?_, ?_⟩
                    · rw [show ((t : Int) - 1 + 1).toNat = t by omega, ← Hw.out, ← wfn_step m q k hlt]; exact road_step n L t _ k hlt Hroad.out
                    · rw [show ((t : Int) - 1 + 1).toNat = t by omega, ← Hw.out, ← wfn_step m q k hlt]; exact road_next t _ k Hyes.out
                    · rw [show ((t : Int) - 1 + 1).toNat = t by omega, ← Hw.out, ← wfn_step m q k hlt, ← Htx.out, txt_step t _ k Hf.out]; simp
                  case measure => simp [intOf]
                · have hno : ex (t + 1) k (wfn m q k) = false := by simpa using hyes
                  rw [hno] at hc3
                  have Hn := Lib.hid hno; clear hno hyes
                  go_wp2_with fail
                  refine (l6In_any _ _ _ _).mono ?_
                  rintro e w2 ⟨rfl, rfl⟩
                  rw [decide_eq_true hin]
                  go_wp2_with fail
                  go_round
                  case rel => exact ⟨k + 1, by go_num, by omega, rfl, rfl, rfl, no_step (fun j => ex (t + 1) j (wfn m q j)) k Hno.out Hn.out⟩
                  case measure => simp [intOf]; omega
              · have hno : ex (t + 1) k (wfn m q k) = false := by
                  rw [← Htab.out, Hw.out]
                  exact by simp only [exT, Bool.and_eq_false_iff, decide_eq_false_iff_not]; exact .inl hin
                have Hn := Lib.hid hno; clear hno
                go_wp2_with fail
                refine (l6In_any _ _ _ _).mono ?_
                rintro e w2 ⟨rfl, rfl⟩
                rw [decide_eq_false hin]
                have Hin := Lib.hid hin; clear hin
                go_wp2_with fail
                go_round
                case rel => exact ⟨k + 1, by go_num, by omega, rfl, rfl, rfl, no_step (fun j => ex (t + 1) j (wfn m q j)) k Hno.out Hn.out⟩
                case measure => simp [intOf]; omega
        · exfalso
          have h := Hfirst.out
          have := Hno.out _ (show first7 (fun f => ex (t + 1) f (wfn m q f)) < k by have := first7_lt (fun f => ex (t + 1) f (wfn m q f)); omega)
          rw [h.1] at this
          cases this
    · obtain rfl : v = -1 := by omega
      have Hfin : Hid (S = shortT n) := by
        show _ = _
        rw [← htx]
        simp [txt]
      clear hroad hex htx
      go_wp2_with fail
      go_ret
      exact ⟨ret_string Hfin.out, rfl⟩
end Go.Proofs.YthgagidpnnaajaaDoor
