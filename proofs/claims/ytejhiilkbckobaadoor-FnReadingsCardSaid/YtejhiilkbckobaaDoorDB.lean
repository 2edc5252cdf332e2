/- The program's chapter 4: readClayDigit, PlaceRead. -/
import Derived.Test.YtejhiilkbckobaaDoorCZ
import Derived.Shelf.Strings.SlTrimAscii
namespace Go.Proofs.YtejhiilkbckobaaDoor
open Go.RowKit
set_option linter.unusedVariables false
set_option maxRecDepth 100000
theorem trimOnes_any (l : List UInt8) (w : World) : Calls Tryd.prog 43 #[.string ⟨l.toArray⟩, .string ⟨#[60]⟩] w fun e w' => e = .returned (.string ⟨(onesOf l).toArray⟩) ∧ Below w.heap.size w w' :=
  Any.strings_TrimLeft_laid Tryd.trimLeftL (by kernel_rfl) ⟨l.toArray⟩ ⟨#[60]⟩ w (by decide) (ascii_of_all (by decide))
theorem clayDigit_int (d : Int) (k : Nat) (hk : d = k) (w : World) (h : k < 60) : Calls Tryd.prog 25 #[.int .i64 d] w fun e w' => e = .returned (.string ⟨(cdig k).toArray⟩) ∧ Below w.heap.size w w' := by
  subst hk
  exact clayDigit_any k w h
theorem readClay_yes (l : List UInt8) (d : Nat) (w : World) (hl : l.length ≤ 1048576) (h : rdo l = some d) :
    Calls Tryd.prog 30 #[.string ⟨l.toArray⟩] w fun e w' => e = .returned (.tuple #[.int .i64 (d : Nat), .bool true]) ∧ Below w.heap.size w w' := by
  by_cases h46 : l = [46]
  · subst h46
    obtain rfl : d = 0 := by have : rdo [46] = some 0 := rfl; rw [this] at h; exact (Option.some.inj h).symm
    clear h
    go_enter Tryd.func30, Tryd.ntmps30
    go_wp2_with fail
    go_ret2
    exact ⟨rfl, Below.refl _ _⟩
  · have q1 : (l == [46]) = false := by rw [beq_eq_false_iff_ne]; exact h46
    unfold rdo at h
    rw [if_neg h46] at h
    split at h
    · rename_i hc
      obtain ⟨c1, c2⟩ := hc
      obtain rfl := Option.some.inj h
      have ho := ones_le l
      have T := Lib.hid (trimOnes_any l)
      have hr : rdv l = 10 * (l.length - (onesOf l).length) + (onesOf l).length := rfl
      have C := Lib.hid (fun (x : Int) (hx : x = (rdv l : Nat)) (w : World) => clayDigit_int x (rdv l) hx w c1)
      rw [c2] at C
      generalize onesOf l = o at *
      have HR := Lib.hid hr
      have hx : (10 * ((l.length : Int) - (o.length : Int)) + (o.length : Int)) = ((rdv l : Nat) : Int) := by omega
      have HX := Lib.hid hx
      have t1 : decide (10 * ((l.length : Int) - (o.length : Int)) + (o.length : Int) ≥ 60) = false := decide_eq_false (by omega)
      clear h hr hx c1 c2 h46
      go_enter Tryd.func30, Tryd.ntmps30
      go_wp2_with fail
      refine (T.out _).mono ?_
      rintro e w1 ⟨rfl, g1⟩
      have G1 := Lib.hid g1; clear g1
      go_wp2_with fail
      refine (C.out _ HX.out _).mono ?_
      rintro e w2 ⟨rfl, g2⟩
      have G2 := Lib.hid (G1.out.trans (g2.mono G1.out.size)); clear g2
      go_wp2_with fail
      go_ret2
      exact ⟨by rw [HX.out]; rfl, G2.out⟩
    · cases h
theorem readClay_no (l : List UInt8) (w : World) (hl : l.length ≤ 1048576) (h : rdo l = none) :
    Calls Tryd.prog 30 #[.string ⟨l.toArray⟩] w fun e w' => e = .returned (.tuple #[.int .i64 0, .bool false]) ∧ Below w.heap.size w w' := by
  have h46 : ¬ l = [46] := by rintro rfl; cases h
  have q1 : (l == [46]) = false := by rw [beq_eq_false_iff_ne]; exact h46
  unfold rdo at h
  rw [if_neg h46] at h
  split at h
  · cases h
  · rename_i hc
    have ho := ones_le l
    have T := Lib.hid (trimOnes_any l)
    have hr : rdv l = 10 * (l.length - (onesOf l).length) + (onesOf l).length := rfl
    by_cases c1 : rdv l < 60
    · have c2 : ¬ cdig (rdv l) = l := fun e => hc ⟨c1, e⟩
      have C := Lib.hid (fun (x : Int) (hx : x = (rdv l : Nat)) (w : World) => clayDigit_int x (rdv l) hx w c1)
      generalize cdig (rdv l) = L at *
      have q2 : (L == l) = false := by rw [beq_eq_false_iff_ne]; exact c2
      have q3 : (L != l) = true := by rw [bne_iff_ne]; exact c2
      generalize onesOf l = o at *
      have hx : (10 * ((l.length : Int) - (o.length : Int)) + (o.length : Int)) = ((rdv l : Nat) : Int) := by omega
      have HX := Lib.hid hx
      have t1 : decide (10 * ((l.length : Int) - (o.length : Int)) + (o.length : Int) ≥ 60) = false := decide_eq_false (by omega)
      clear h hr hx c1 c2 h46 hc
      go_enter Tryd.func30, Tryd.ntmps30
      go_wp2_with fail
      refine (T.out _).mono ?_
      rintro e w1 ⟨rfl, g1⟩
      have G1 := Lib.hid g1; clear g1
      go_wp2_with fail
      refine (C.out _ HX.out _).mono ?_
      rintro e w2 ⟨rfl, g2⟩
      have G2 := Lib.hid (G1.out.trans (g2.mono G1.out.size)); clear g2
      go_wp2_with fail
      go_ret2
      exact ⟨rfl, G2.out⟩
    · generalize onesOf l = o at *
      have t1 : decide (10 * ((l.length : Int) - (o.length : Int)) + (o.length : Int) ≥ 60) = true := decide_eq_true (by omega)
      clear h hr c1 h46 hc
      go_enter Tryd.func30, Tryd.ntmps30
      go_wp2_with fail
      refine (T.out _).mono ?_
      rintro e w1 ⟨rfl, g1⟩
      have G1 := Lib.hid g1; clear g1
      go_wp2_with fail
      go_ret2
      exact ⟨rfl, G1.out⟩
/-- the machine's own variable, an int -/
def MaxL (w : World) : Prop := ∃ m : Int, w.cell? ⟨0, 0, none⟩ = some (.int .i64 m)
theorem MaxL.below {w w' : World} (h : MaxL w) (g : Below w.heap.size w w') : MaxL w' := by
  obtain ⟨m, hm⟩ := h
  exact ⟨m, (g.cell (p := ⟨0, 0, none⟩) (World.block_lt_of_cell? w ⟨0, 0, none⟩ hm)).trans hm⟩
theorem prs_part (k : Nat) : ∀ s p, p ∈ prs k s → p.length ≤ s.length := by
  induction k with
  | zero => intro s p h; rw [prs_zero] at h; simp at h; rw [h]; exact Nat.le_refl _
  | succ k ih =>
    intro s p h
    by_cases hs : (32 : UInt8) ∈ s
    · obtain ⟨x, r, rfl, hx⟩ := List.eq_append_cons_of_mem hs
      rw [prs_hit k x r hx] at h
      rcases List.mem_cons.1 h with rfl | h
      · simp
      · have := ih r p h; simp; omega
    · rw [prs_miss _ s hs] at h; simp at h; rw [h]; exact Nat.le_refl _
theorem splitN4_any (l : List UInt8) (w : World) (hl : l.length ≤ 1048576) (hm : MaxL w) : Calls Tryd.prog 29 #[.string ⟨l.toArray⟩, .string ⟨#[32]⟩, .int .i64 4] w fun e w' =>
    e = .returned (.slice (some ⟨w.heap.size, 0, none⟩) (prs (cuts l) l).length (min 4 (l.length + 1))) ∧ (∀ j p, (prs (cuts l) l)[j]? = some p → w'.cell? ⟨w.heap.size, j, none⟩ = some (.string ⟨p.toArray⟩)) ∧ Below w.heap.size w w' := by
  obtain ⟨m, hm⟩ := hm
  refine (Tryd.strings_SplitN ⟨l.toArray⟩ ⟨#[32]⟩ 4 m w (by show l.toArray.size < _; simp; omega) hm (by decide) (by omega) (by omega)).mono ?_
  rintro e w' ⟨rfl, rfl⟩
  have hs : (⟨l.toArray⟩ : ByteArray).size = l.length := by show l.toArray.size = _; simp
  have hk : min 4 ((⟨l.toArray⟩ : ByteArray).size + 1) - 1 = cuts l := by unfold cuts; rw [hs]
  have hd := Lib.splitB_data (⟨#[32]⟩ : ByteArray) 0 (cuts l) ⟨l.toArray⟩
  have hd2 : (Lib.splitB (⟨#[32]⟩ : ByteArray) 0 (cuts l) ⟨l.toArray⟩).map (·.data.toList) = prs (cuts l) l := hd
  have hlen : (Lib.splitB (⟨#[32]⟩ : ByteArray) 0 (cuts l) ⟨l.toArray⟩).length = (prs (cuts l) l).length := by rw [← hd2, List.length_map]
  refine ⟨by rw [hk, hlen, hs], ?_, (Below.refl _ _).alloc (Nat.le_refl _) _⟩
  intro j p hp
  refine cell_at (heap_alloc_new w _) ?_
  rw [hk]
  generalize Lib.splitB (⟨#[32]⟩ : ByteArray) 0 (cuts l) ⟨l.toArray⟩ = bs at *
  rw [← hd2, List.getElem?_map] at hp
  have hj : j < bs.length := by
    rcases Nat.lt_or_ge j bs.length with h | h
    · exact h
    · rw [List.getElem?_eq_none h] at hp; cases hp
  rw [List.getElem?_eq_getElem hj] at hp
  simp only [Option.map_some, Option.some.injEq] at hp
  subst hp
  unfold Lib.cellsOf
  rw [List.getElem?_toArray, List.getElem?_append_left (by simpa using hj), List.getElem?_map, List.getElem?_eq_getElem hj]
  rfl
/-- the digits of the first parts -/
def Digs (ps : List (List UInt8)) (k : Nat) (ds : List Nat) : Prop := ds.length = k ∧ ds.map cdig = ps.take k ∧ ∀ d ∈ ds, d < 60
theorem Digs.zero (ps : List (List UInt8)) : Digs ps 0 [] := ⟨rfl, by simp, by simp⟩
theorem Digs.step {ps : List (List UInt8)} {k : Nat} {ds : List Nat} (h : Digs ps k ds) {p : List UInt8} (hp : ps[k]? = some p) {d : Nat} (hd : rdo p = some d) : Digs ps (k + 1) (ds ++ [d]) := by
  obtain ⟨h1, h2, h3⟩ := h
  obtain ⟨d1, d2⟩ := (rdo_iff p d).1 hd
  refine ⟨by simp [h1], ?_, ?_⟩
  · rw [List.map_append, h2, List.take_add_one, hp, List.map_singleton, d2]; rfl
  · intro e he
    rcases List.mem_append.1 he with he | he
    · exact h3 e he
    · rw [List.mem_singleton] at he; subst he; exact d1
theorem dfold_snoc (ds : List Nat) (d n : Nat) : dfold n (ds ++ [d]) = 60 * dfold n ds + d := by unfold dfold; rw [List.foldl_append]; rfl
theorem read_miss (l : List UInt8) (k : Nat) (p : List UInt8) (hp : (prs (cuts l) l)[k]? = some p) (h : rdo p = none) : placeReadR l = .tuple #[.int .i64 0, .bool false] := by
  refine placeReadR_no l ?_
  rw [Bool.eq_false_iff]
  intro hc
  obtain ⟨ds, d1, d2, d3⟩ := read_no l hc
  rw [← d1, List.getElem?_map] at hp
  cases e : ds[k]? with
  | none => rw [e] at hp; cases hp
  | some d =>
    rw [e] at hp
    obtain rfl := Option.some.inj hp
    have := (rdo_iff (cdig d) d).2 ⟨d2 d (List.mem_of_getElem? e), rfl⟩
    rw [h] at this; cases this
theorem read_nought (l : List UInt8) (h1 : 1 < (prs (cuts l) l).length) (hp : (prs (cuts l) l)[0]? = some [46]) : placeReadR l = .tuple #[.int .i64 0, .bool false] := by
  refine placeReadR_no l ?_
  rw [Bool.eq_false_iff]
  intro hc
  obtain ⟨ds, d1, d2, d3⟩ := read_no l hc
  rw [← d1] at h1 hp
  rw [List.length_map] at h1
  rw [List.getElem?_map] at hp
  cases e : ds[0]? with
  | none => rw [e] at hp; cases hp
  | some d =>
    rw [e] at hp
    have hd : cdig d = [46] := Option.some.inj hp
    have : d = 0 := by
      rcases cdig_mem d 46 (by rw [hd]; simp) with h | ⟨_, h | h⟩
      · exact h.1
      · exact absurd h (by decide)
      · exact absurd h (by decide)
    subst this
    exact d3 ⟨h1, by rw [List.head?_eq_getElem?, e]⟩
theorem read_full (l : List UInt8) (ds : List Nat) (h : Digs (prs (cuts l) l) (prs (cuts l) l).length ds) (h0 : ¬ (1 < (prs (cuts l) l).length ∧ (prs (cuts l) l)[0]? = some [46])) : placeReadR l = .tuple #[.int .i64 (dfold 0 ds : Nat), .bool true] := by
  obtain ⟨h1, h2, h3⟩ := h
  rw [List.take_length] at h2
  obtain ⟨a, b⟩ := read_yes l ds h2 h3 (by
    rintro ⟨c1, c2⟩
    refine h0 ⟨by rw [← h1]; exact c1, ?_⟩
    rw [← h2, List.getElem?_map, ← List.head?_eq_getElem?, c2]; rfl)
  exact placeReadR_yes l _ a b
set_option maxHeartbeats 1000000 in
theorem iPlaceRead_any (l : List UInt8) (w : World) (hl : l.length ≤ 1048576) (hm : MaxL w) : Calls Tryd.prog 11 #[.string ⟨l.toArray⟩] w fun e w' => e = .returned (placeReadR l) ∧ Below w.heap.size w w' := by
  have S := Lib.hid (splitN4_any l w hl hm)
  have RM := Lib.hid (read_miss l); have RN := Lib.hid (read_nought l); have RF := Lib.hid (read_full l)
  have hlen := prs_len (cuts l) l
  have hc4 : cuts l ≤ 3 := by unfold cuts; omega
  have hpart := prs_part (cuts l) l
  obtain ⟨l1, l2⟩ := hlen
  have l3 : (prs (cuts l) l).length ≤ 4 := by omega
  clear l2 hc4 hm
  have HP : Hid (∀ (j : Nat) p, (prs (cuts l) l)[j]? = some p → p.length ≤ 1048576) := Lib.hid fun j p h => Nat.le_trans (hpart p (List.mem_of_getElem? h)) hl
  clear hpart
  generalize prs (cuts l) l = ps at *
  generalize min 4 (l.length + 1) = cp at *
  obtain ⟨p0, h0⟩ : ∃ p0, ps[0]? = some p0 := ⟨_, List.getElem?_eq_getElem (by omega)⟩
  have H0 := Lib.hid h0; clear h0
  go_enter Tryd.func11, Tryd.ntmps11
  go_wp2_with fail
  refine S.out.mono ?_
  rintro e w1 ⟨rfl, hcs, hb⟩
  have HC := Lib.hid hcs; have HB := Lib.hid hb; clear hcs hb S
  have hc0 := HC.out 0 p0 H0.out
  have hex : (∃ m : Nat, ps.length = m ∧ decide ((m : Int) > 1) = true ∧ 2 ≤ m ∧ p0 = [46]) ∨ (¬ (1 < ps.length ∧ ps[0]? = some [46]) ∧ ∃ m : Nat, ps.length = m ∧ (decide ((m : Int) > 1) = false ∨ decide ((m : Int) > 1) = true ∧ (p0 == [46]) = false)) := by
    by_cases h1 : 1 < ps.length
    · by_cases h2 : p0 = [46]
      · exact .inl ⟨_, rfl, decide_eq_true (by omega), h1, h2⟩
      · refine .inr ⟨?_, _, rfl, .inr ⟨decide_eq_true (by omega), by rw [beq_eq_false_iff_ne]; exact h2⟩⟩
        rintro ⟨_, h⟩
        rw [H0.out] at h
        exact h2 (Option.some.inj h)
    · exact .inr ⟨fun h => h1 h.1, _, rfl, .inl (decide_eq_false (by omega))⟩
  rcases hex with ⟨m, hm, t1, hm2, rfl⟩ | ⟨hno, m, hm, ht⟩
  · have HA := Lib.hid (RN.out (by omega) H0.out)
    rw [hm] at *
    clear hm
    go_wp2_with fail
    go_ret2
    exact ⟨by rw [HA.out]; rfl, HB.out⟩
  · have HN := Lib.hid hno
    have HM := Lib.hid hm
    rw [hm] at l1 l3 ⊢
    clear hno hm
    rcases ht with t1 | ⟨t1, t2⟩
    all_goals
      go_wp2_with fail
      go_loopw [5, 23] (fun x i wr => ∃ (k : Nat) (ds : List Nat), i = .int .i64 k ∧ k ≤ m ∧ x = .int .i64 (dfold 0 ds : Nat) ∧ Hid (Digs ps k ds) ∧ Below w1.heap.size w1 wr) (fun _ i _ => m - (intOf i).toNat)
      case atStart => exact ⟨0, [], rfl, by omega, rfl, Lib.hid (Digs.zero ps), Below.refl _ _⟩
      case round =>
        obtain ⟨k, ds, rfl, hk, rfl, HD, hbr⟩ := hrel
        have HBr := Lib.hid hbr; clear hbr
        by_cases hlt : k < m
        · obtain ⟨p, hp⟩ : ∃ p, ps[k]? = some p := ⟨_, List.getElem?_eq_getElem (by rw [HM.out]; exact hlt)⟩
          have hcp := HC.out k p hp
          have hcell : wr.cell? ⟨w.heap.size, k, none⟩ = some (.string ⟨p.toArray⟩) := (HBr.out.cell (p := ⟨w.heap.size, k, none⟩) (World.block_lt_of_cell? w1 ⟨w.heap.size, k, none⟩ hcp)).trans hcp
          have hpl := HP.out k p hp
          have hb1 := dfold_lt ds 0 HD.out.2.2
          have hb2 : dfold 0 ds < 60 ^ 3 := by
            have e := HD.out.1
            have := Nat.pow_le_pow_right (n := 60) (by omega) (show ds.length ≤ 3 by omega)
            omega
          have hb3 : ((dfold 0 ds : Nat) : Int) ≤ 215999 := by rw [show 60 ^ 3 = 216000 from by decide] at hb2; omega
          clear hb1 hb2 hcp
          cases hr : rdo p with
          | none =>
            have HA := Lib.hid (RM.out k p hp hr)
            have C := Lib.hid (fun w => readClay_no p w hpl hr)
            clear hr hp
            generalize ((dfold 0 ds : Nat) : Int) = v at *
            go_wp2_with fail
            refine (C.out _).mono ?_
            rintro e w2 ⟨rfl, g2⟩
            have HF : Hid (Below w.heap.size w w2) := HB.out.trans ((HBr.out.trans (g2.mono HBr.out.size)).mono HB.out.size)
            clear g2
            go_wp2_with fail
            go_ret2
            exact ⟨by rw [HA.out]; rfl, HF.out⟩
          | some d =>
            have hd := ((rdo_iff p d).1 hr).1
            have C := Lib.hid (fun w => readClay_yes p d w hpl hr)
            have HD2 := Lib.hid (HD.out.step hp hr)
            have HV : Hid (((dfold 0 (ds ++ [d]) : Nat) : Int) = (dfold 0 ds : Nat) * 60 + (d : Nat)) := Lib.hid (by rw [dfold_snoc]; omega)
            clear hr hp
            have hb0 : 0 ≤ ((dfold 0 ds : Nat) : Int) := by omega
            generalize ((dfold 0 ds : Nat) : Int) = v at *
            go_wp2_with fail
            refine (C.out _).mono ?_
            rintro e w2 ⟨rfl, g2⟩
            have HF : Hid (Below w1.heap.size w1 w2) := HBr.out.trans (g2.mono HBr.out.size)
            clear g2
            go_wp2_with fail
            go_roundw
            case rel => exact ⟨k + 1, ds ++ [d], by go_num, by omega, by rw [HV.out], HD2, HF.out⟩
            case measure => simp [intOf]; omega
        · obtain rfl : k = m := by omega
          have HA := Lib.hid (RF.out ds (by rw [HM.out]; exact HD.out) HN.out)
          generalize ((dfold 0 ds : Nat) : Int) = v at *
          go_wp2_with fail
          go_ret2
          exact ⟨by rw [HA.out]; rfl, HB.out.trans (HBr.out.mono HB.out.size)⟩
end Go.Proofs.YtejhiilkbckobaaDoor
