/- The program's chapter 6: ranked texts read, and sums. -/
import Derived.Test.YtagipmfkmikagaaDoorUO4
import Derived.WalkMore
namespace Go.Proofs.YtagipmfkmikagaaDoor
open Go.RowKit
set_option linter.unusedVariables false
set_option maxRecDepth 100000
theorem wr_add (a b : Int) : wrap64 (wrap64 a + b) = wrap64 (a + b) := by unfold wrap64; omega
theorem wr_mul (a : Int) : wrap64 (wrap64 a * 10000) = wrap64 (a * 10000) := by unfold wrap64; omega
theorem wr4 (x : Int) (N D : Nat) (h : x = wrap64 (N : Int)) : wrap64 (wrap64 (x + (D : Int)) * 10000) = wrap64 (((N + D) * 10000 : Nat) : Int) := by
  rw [h, wr_add, wr_mul]
  congr 1
theorem wrv (v : Nat) (x : Int) (N D : Nat) (h : x = wrap64 (N : Int)) : wrap64 (x + (D : Int) * v) = wrap64 ((N + D * v : Nat) : Int) := by
  rw [h, wr_add]
  congr 1
theorem wr_id (x : Int) (N : Nat) (h : x = wrap64 (N : Int)) (hn : N ≤ 99999999) : x = N := by rw [h]; unfold wrap64; omega
theorem wr_zero : (0 : Int) = wrap64 ((0 : Nat) : Int) := by simp [wrap64]
/-- number and digit behind k bytes -/
def nP (l : List UInt8) (k : Nat) : Nat × Nat := (l.take k).foldl nS (0, 0)
theorem nP_succ (l : List UInt8) (k : Nat) (h : k < l.length) : nP l (k + 1) = nS (nP l k) l[k] := by
  unfold nP
  rw [List.take_succ_eq_append_getElem h, List.foldl_append]
  rfl
theorem nP_le (l : List UInt8) (k : Nat) (h : k ≤ l.length) : (nP l k).2 ≤ 9 := by
  cases k with
  | zero => exact Nat.zero_le _
  | succ k => rw [nP_succ l k h]; exact nS_digit _ _
theorem run_succ (q : Q) (l : List UInt8) (k : Nat) (h : k < l.length) : run q (l.take (k + 1)) = (run q (l.take k)).bind fun q' => nx q' l[k] := by
  rw [List.take_succ_eq_append_getElem h, run_append]
  congr 1
  funext q'
  show (nx q' l[k]).bind some = _
  cases nx q' l[k] <;> rfl
theorem acc_none (q : Q) (l : List UInt8) (k : Nat) (h : run q (l.take k) = none) : acc q l = false := by
  unfold acc
  rw [← List.take_append_drop k l, run_append, h]
  rfl
theorem acc_some (q q' : Q) (l : List UInt8) (h : run q (l.take l.length) = some q') : acc q l = cE q' := by
  rw [List.take_length] at h
  unfold acc
  rw [h]
/-- the five kinds of bytes -/
theorem nS_cls (c : UInt8) : (rkx c = 4 ∧ ∀ a b, nS (a, b) c = ((a + b) * 10000, 0)) ∨ (rkx c = 3 ∧ ∀ a b, nS (a, b) c = (a + b * 1000, 0)) ∨ (rkx c = 2 ∧ ∀ a b, nS (a, b) c = (a + b * 100, 0)) ∨ (rkx c = 1 ∧ ∀ a b, nS (a, b) c = (a + b * 10, 0)) ∨ (rkx c = 0 ∧ ∀ a b, nS (a, b) c = (a, dgx c)) := by
  by_cases h1 : c = 119
  · subst h1; exact .inl ⟨rfl, fun a b => rfl⟩
  · by_cases h2 : c = 113
    · subst h2; exact .inr (.inl ⟨rfl, fun a b => rfl⟩)
    · by_cases h3 : c = 98
      · subst h3; exact .inr (.inr (.inl ⟨rfl, fun a b => rfl⟩))
      · by_cases h4 : c = 115
        · subst h4; exact .inr (.inr (.inr (.inl ⟨rfl, fun a b => rfl⟩)))
        · refine .inr (.inr (.inr (.inr ⟨?_, fun a b => ?_⟩)))
          · unfold rkx
            rw [if_neg h4, if_neg h3, if_neg h2, if_neg h1]
          · unfold nS dgx
            rw [if_neg h1, if_neg h2, if_neg h3, if_neg h4]
            split <;> rfl
theorem Rst.mark {w : World} {X : Nat → Prop} {b : Nat} {q : Q} (h : Rst w X b q) : w.cell? ⟨b, 1, none⟩ = some (.bool (cE q)) := by
  cases h with
  | mk _ _ v ts h0 h1 => exact cell_at h1 rfl
/-- what read hands back -/
def rdV (l : List UInt8) : Value := if acc (3, 0, 0, 0) l = true then .tuple #[.int .i64 (rkN l : Nat), .bool true] else .tuple #[.int .i64 0, .bool false]
theorem rdV_eq (l : List UInt8) : rdV l = rrR l := by unfold rdV rrR; rw [acc_rr]
set_option maxHeartbeats 4000000 in
theorem rread_any (b0 : Nat) (l : List UInt8) (w : World) (hR : RV w) (h : Rst w N0 b0 (3, 0, 0, 0)) (hl : l.length ≤ 1048576) :
    Calls Tryd.prog 38 #[.pointer (some ⟨b0, 0, none⟩), .string ⟨l.toArray⟩] w fun e w' => e = .returned (rdV l) ∧ Below w.heap.size w w' := by
  have HR := Lib.hid hR; have H0 := Lib.hid h
  clear hR h
  go_enter Tryd.func38, Tryd.ntmps38
  go_wp2
  go_step3
  go_wp2
  go_step3
  go_wp2
  go_loopw [6, 7, 8, 16] (fun s n d i wr => ∃ (k : Nat) (q : Q) (b N D : Nat) (x : Int), k ≤ l.length ∧ D ≤ 9 ∧ i = .int .i64 k ∧ s = .pointer (some ⟨b, 0, none⟩) ∧ n = .int .i64 x ∧ d = .int .i64 D ∧ Hid (nP l k = (N, D)) ∧ Hid (x = wrap64 N) ∧ Hid (run (3, 0, 0, 0) (l.take k) = some q) ∧ Hid (Rst wr N0 b q) ∧ Hid (Below w.heap.size w wr)) (fun _ _ _ i _ => l.length - (intOf i).toNat)
  case atStart => exact ⟨0, _, b0, 0, 0, 0, by omega, by omega, rfl, rfl, rfl, rfl, Lib.hid rfl, Lib.hid wr_zero, Lib.hid rfl, H0, Lib.hid (Below.refl _ _)⟩
  case round =>
    obtain ⟨k, q, b, N, D, x, hk, hD, rfl, rfl, rfl, rfl, HP, HXx, HRun, HS, HB⟩ := hrel
    by_cases hlt : k < l.length
    · have hlt' : k < (⟨l.toArray⟩ : ByteArray).size := hlt
      have hp := nP_succ l k hlt
      have hr := run_succ (3, 0, 0, 0) l k hlt
      rw [HP.out] at hp
      rw [HRun.out] at hr
      have hr : run (3, 0, 0, 0) (l.take (k + 1)) = nx q l[k] := hr
      obtain ⟨c, hc⟩ : ∃ c, l[k] = c := ⟨_, rfl⟩
      have hbyte : ((((⟨l.toArray⟩ : ByteArray)[k]'hlt').toNat : Int)) = (c.toNat : Int) := rbytes_at l k hlt c hc _
      rw [hc] at hp hr
      have C := Lib.hid (next_any b q N0 wr HS.out c)
      have HPn := Lib.hid hp; have HRn := Lib.hid hr
      have RS := Lib.hid (fun W => rankOfSign_any c W)
      clear hp hr hc
      go_wp2_with fail
      refine C.out.mono ?_
      rintro e w2 ⟨⟨v, rfl, hv⟩, hb2⟩
      have HB2 := Lib.hid (HB.out.trans (hb2.mono HB.out.size))
      clear hb2
      cases hn : nx q c with
      | none =>
        rw [hn] at hv
        have hv : v = .pointer none := hv
        subst hv
        have HF : Hid (rdV l = .tuple #[.int .i64 0, .bool false]) := Lib.hid (by
          unfold rdV
          rw [acc_none _ l (k + 1) (by rw [HRn.out, hn])]
          rfl)
        clear hn
        go_wp2_with fail
        refine (RS.out _).mono ?_
        rintro e w3 ⟨rfl, rfl⟩
        unfold rankR
        go_wp2_with fail
        rw [Exit.noGoto_ret]
        go_ret2
        exact ⟨rret HF.out.symm, HB2.out⟩
      | some q' =>
        rw [hn] at hv HRn
        obtain ⟨b', rfl, hs'⟩ := hv
        have HS' := Lib.hid hs'
        clear hs' hn C HS
        rcases nS_cls c with ⟨hr, hs⟩ | ⟨hr, hs⟩ | ⟨hr, hs⟩ | ⟨hr, hs⟩ | ⟨hr, hs⟩
        · have e4 : rankR c = .tuple #[.int .i64 4, .bool true] := by unfold rankR; rw [hr]; rfl
          rw [e4] at RS
          rw [hs] at HPn
          have V := Lib.hid (fun W h => rvalue_any 4 W h (by decide))
          rw [show rnv 4 = 10000 from rfl] at V
          clear e4 hs hr
          go_wp2_with fail
          refine (RS.out _).mono ?_
          rintro e w3 ⟨rfl, rfl⟩
          go_wp2_with fail
          refine (V.out _ (HR.out.step HB2.out)).mono ?_
          rintro e w3 ⟨rfl, rfl⟩
          go_wp2_with fail
          go_roundw
          case rel => exact ⟨k + 1, q', b', ((N + D) * 10000), 0, _, by omega, by omega, by go_num, rfl, rfl, rfl, HPn, Lib.hid (wr4 x N D HXx.out), HRn, HS', HB2⟩
          case measure => simp [intOf]; omega
        · have e4 : rankR c = .tuple #[.int .i64 3, .bool true] := by unfold rankR; rw [hr]; rfl
          rw [e4] at RS
          rw [hs] at HPn
          have V := Lib.hid (fun W h => rvalue_any 3 W h (by decide))
          rw [show rnv 3 = 1000 from rfl] at V
          clear e4 hs hr
          go_wp2_with fail
          refine (RS.out _).mono ?_
          rintro e w3 ⟨rfl, rfl⟩
          go_wp2_with fail
          refine (V.out _ (HR.out.step HB2.out)).mono ?_
          rintro e w3 ⟨rfl, rfl⟩
          go_wp2_with fail
          go_roundw
          case rel => exact ⟨k + 1, q', b', (N + D * 1000), 0, _, by omega, by omega, by go_num, rfl, rfl, rfl, HPn, Lib.hid (wrv 1000 x N D HXx.out), HRn, HS', HB2⟩
          case measure => simp [intOf]; omega
        · have e4 : rankR c = .tuple #[.int .i64 2, .bool true] := by unfold rankR; rw [hr]; rfl
          rw [e4] at RS
          rw [hs] at HPn
          have V := Lib.hid (fun W h => rvalue_any 2 W h (by decide))
          rw [show rnv 2 = 100 from rfl] at V
          clear e4 hs hr
          go_wp2_with fail
          refine (RS.out _).mono ?_
          rintro e w3 ⟨rfl, rfl⟩
          go_wp2_with fail
          refine (V.out _ (HR.out.step HB2.out)).mono ?_
          rintro e w3 ⟨rfl, rfl⟩
          go_wp2_with fail
          go_roundw
          case rel => exact ⟨k + 1, q', b', (N + D * 100), 0, _, by omega, by omega, by go_num, rfl, rfl, rfl, HPn, Lib.hid (wrv 100 x N D HXx.out), HRn, HS', HB2⟩
          case measure => simp [intOf]; omega
        · have e4 : rankR c = .tuple #[.int .i64 1, .bool true] := by unfold rankR; rw [hr]; rfl
          rw [e4] at RS
          rw [hs] at HPn
          have V := Lib.hid (fun W h => rvalue_any 1 W h (by decide))
          rw [show rnv 1 = 10 from rfl] at V
          clear e4 hs hr
          go_wp2_with fail
          refine (RS.out _).mono ?_
          rintro e w3 ⟨rfl, rfl⟩
          go_wp2_with fail
          refine (V.out _ (HR.out.step HB2.out)).mono ?_
          rintro e w3 ⟨rfl, rfl⟩
          go_wp2_with fail
          go_roundw
          case rel => exact ⟨k + 1, q', b', (N + D * 10), 0, _, by omega, by omega, by go_num, rfl, rfl, rfl, HPn, Lib.hid (wrv 10 x N D HXx.out), HRn, HS', HB2⟩
          case measure => simp [intOf]; omega
        · have e4 : rankR c = .tuple #[.int .i64 0, .bool false] := by unfold rankR; rw [hr]; rfl
          rw [e4] at RS
          rw [hs] at HPn
          have hd9 := dgx_le c
          have I := Lib.hid (fun W => indexByteR digitsR c W)
          rw [indexByte_digitsR c] at I
          generalize dgx c = dg at *
          have hw : IntKind.i64.wrap ((dg : Int) - 1 + 1) = dg := by rw [show (dg : Int) - 1 + 1 = dg by omega]; exact IntWalk.i64_in _ (by omega)
          clear e4 hs hr
          go_wp2_with fail
          refine (RS.out _).mono ?_
          rintro e w3 ⟨rfl, rfl⟩
          go_wp2_with fail
          refine (I.out _).mono ?_
          rintro e w3 ⟨rfl, rfl⟩
          go_wp2_with fail
          go_roundw
          case rel => exact ⟨k + 1, q', b', N, dg, x, by omega, by omega, by go_num, rfl, rfl, by go_num, HPn, HXx, HRn, HS', HB2⟩
          case measure => simp [intOf]; omega
    · obtain rfl : k = l.length := by omega
      have hm := HS.out.mark
      have ha := acc_some (3, 0, 0, 0) q l HRun.out
      by_cases hc : cE q = true
      · rw [hc] at hm ha
        have hn := nF_acc l ha
        have hnf : nF l = (N, D) := by
          have := HP.out
          unfold nP at this
          rw [List.take_length] at this
          exact this
        rw [hnf] at hn
        have hn : N + D = rkN l := hn
        have hle : rkN l ≤ 99999999 := ((rrB_spec l).1 (by rw [← acc_rr]; exact ha)).2.1
        have HF : Hid (rdV l = .tuple #[.int .i64 (rkN l : Nat), .bool true]) := Lib.hid (by unfold rdV; rw [if_pos ha])
        have hx : x = N := wr_id x N HXx.out (by omega)
        subst hx
        rw [← hn] at HF
        clear hnf hc ha
        go_wp2_with fail
        try rw [Exit.noGoto_ret]
        go_ret2
        exact ⟨rret HF.out.symm, HB.out⟩
      · have hc : cE q = false := by rw [Bool.eq_false_iff]; exact hc
        rw [hc] at hm ha
        have HF : Hid (rdV l = .tuple #[.int .i64 0, .bool false]) := Lib.hid (by unfold rdV; rw [ha]; rfl)
        clear hc ha
        go_wp2_with fail
        try rw [Exit.noGoto_ret]
        go_ret2
        exact ⟨rret HF.out.symm, HB.out⟩
theorem rrR_two (l : List UInt8) : ∃ (x : Nat) (b : Bool), rrR l = .tuple #[.int .i64 x, .bool b] ∧ rrB l = b ∧ (b = true → rkN l = x ∧ x ≤ 99999999) := by
  unfold rrR
  by_cases h : rrB l = true
  · rw [if_pos h]
    exact ⟨_, _, rfl, h, fun _ => ⟨rfl, ((rrB_spec l).1 h).2.1⟩⟩
  · rw [if_neg h]
    exact ⟨0, false, rfl, by rw [Bool.eq_false_iff]; exact h, fun h => by cases h⟩
theorem iRankRead_any (l : List UInt8) (w : World) (hR : RV w) (hl : l.length ≤ 1048576) : Calls Tryd.prog 22 #[.string ⟨l.toArray⟩] w fun e w' => e = .returned (rrR l) ∧ Below w.heap.size w w' := by
  have HR := Lib.hid hR
  have S := Lib.hid (startOfRanks_any w)
  have C := Lib.hid (fun b W h1 h2 => rread_any b l W h1 h2 hl)
  rw [rdV_eq] at C
  obtain ⟨x, y, hx, _, _⟩ := rrR_two l
  rw [hx] at C
  have Hx := Lib.hid hx
  clear hx hR
  go_enter Tryd.func22, Tryd.ntmps22
  go_wp2_with fail
  refine S.out.mono ?_
  rintro e w1 ⟨b, rfl, hs, g1⟩
  have HS := Lib.hid hs; have G1 := Lib.hid g1; clear hs g1
  go_wp2_with fail
  refine (C.out b w1 (HR.out.step G1.out) HS.out).mono ?_
  rintro e w2 ⟨rfl, g2⟩
  have G2 := Lib.hid (bel_chain G1.out g2); clear g2
  go_wp2_with fail
  go_ret2
  exact ⟨rret Hx.out.symm, G2.out⟩
theorem iRankSum_any (l m : List UInt8) (w : World) (hR : RV w) (hl : l.length ≤ 1048576) (hm : m.length ≤ 1048576) : Calls Tryd.prog 26 #[.string ⟨l.toArray⟩, .string ⟨m.toArray⟩] w fun e w' => e = .returned (rsR l m) ∧ Below w.heap.size w w' := by
  have HR := Lib.hid hR
  have C := Lib.hid (fun W h => iRankRead_any l W h hl)
  have D := Lib.hid (fun W h => iRankRead_any m W h hm)
  have O := Lib.hid (fun n W h => iRankOf_any n W h)
  obtain ⟨x, p, hx, hp, hpx⟩ := rrR_two l
  obtain ⟨y, q, hy, hq, hqy⟩ := rrR_two m
  rw [hx] at C
  rw [hy] at D
  clear hR hx hy
  cases p with
  | false =>
    have HF : Hid (rsR l m = .tuple #[.string ⟨#[]⟩, .bool false]) := Lib.hid (by unfold rsR; rw [if_neg (fun h => by rw [hp] at h; cases h.1)])
    clear hp hpx hqy hq
    go_enter Tryd.func26, Tryd.ntmps26
    go_wp2_with fail
    refine (C.out _ HR.out).mono ?_
    rintro e w1 ⟨rfl, g1⟩
    have G1 := Lib.hid g1; clear g1
    go_wp2_with fail
    go_ret2
    exact ⟨rret HF.out.symm, G1.out⟩
  | true =>
    cases q with
    | false =>
      have HF : Hid (rsR l m = .tuple #[.string ⟨#[]⟩, .bool false]) := Lib.hid (by unfold rsR; rw [if_neg (fun h => by rw [hq] at h; cases h.2)])
      clear hp hpx hqy hq
      go_enter Tryd.func26, Tryd.ntmps26
      go_wp2_with fail
      refine (C.out _ HR.out).mono ?_
      rintro e w1 ⟨rfl, g1⟩
      have G1 := Lib.hid g1; clear g1
      go_wp2_with fail
      refine (D.out _ (HR.out.step G1.out)).mono ?_
      rintro e w2 ⟨rfl, g2⟩
      have G2 := Lib.hid (bel_chain G1.out g2); clear g2
      go_wp2_with fail
      go_ret2
      exact ⟨rret HF.out.symm, G2.out⟩
    | true =>
      obtain ⟨hx1, hx2⟩ := hpx rfl
      obtain ⟨hy1, hy2⟩ := hqy rfl
      have HF : Hid (rsR l m = rkR ((x : Int) + (y : Int))) := Lib.hid (by unfold rsR; rw [if_pos ⟨hp, hq⟩, hx1, hy1])
      obtain ⟨z, r, hz, _⟩ := rkR_form ((x : Int) + (y : Int))
      have O2 := Lib.hid (fun W h => O.out ((x : Int) + (y : Int)) W h)
      rw [hz] at HF O2
      clear hp hq hpx hqy hx1 hy1 O hz
      go_enter Tryd.func26, Tryd.ntmps26
      go_wp2_with fail
      refine (C.out _ HR.out).mono ?_
      rintro e w1 ⟨rfl, g1⟩
      have G1 := Lib.hid g1; clear g1
      go_wp2_with fail
      refine (D.out _ (HR.out.step G1.out)).mono ?_
      rintro e w2 ⟨rfl, g2⟩
      have G2 := Lib.hid (bel_chain G1.out g2); clear g2
      go_wp2_with fail
      refine (O2.out _ (HR.out.step G2.out)).mono ?_
      rintro e w3 ⟨rfl, g3⟩
      have G3 := Lib.hid (bel_chain G2.out g3); clear g3
      go_wp2_with fail
      go_ret2
      exact ⟨rret HF.out.symm, G3.out⟩
end Go.Proofs.YtagipmfkmikagaaDoor
