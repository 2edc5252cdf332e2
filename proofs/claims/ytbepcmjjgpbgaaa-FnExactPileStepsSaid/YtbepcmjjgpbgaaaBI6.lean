/- The program's exchanged, isPlain. -/
import Derived.Test.YtbepcmjjgpbgaaaBI5
import Derived.ChangeKeysEq
namespace Go.Proofs.Ytbepcmjjgpbgaaa
open Go.RowKit
set_option linter.unusedVariables false
set_option maxRecDepth 100000
/-- what the pile's block holds when value k comes -/
def exG (f p : Nat → Int) (n k j : Nat) : Int := if j < k then exq f p n j else if j = k then p k + car f p k else if j < n then p j else 0
theorem exG_zero (f p : Nat → Int) (n j : Nat) (hn : 1 ≤ n) : pad p n j = exG f p n 0 j := by
  unfold exG pad
  by_cases e : j = 0
  · subst e; simp [car]; omega
  · simp [e]
theorem exG_step (f p : Nat → Int) (n k j : Nat) : (if j = k + 1 then p (k + 1) + car f p (k + 1) else if j = k then exq f p n k else exG f p n k j) = exG f p n (k + 1) j := by
  unfold exG
  by_cases e1 : j = k + 1
  · subst e1; simp
  · by_cases e2 : j = k
    · subst e2; simp
    · by_cases e3 : j < k
      · simp [e1, e2, e3, show j < k + 1 by omega]
      · simp [e1, e2, e3, show ¬ j < k + 1 by omega]
theorem exG_last (f p : Nat → Int) (m j : Nat) : exG f p (m + 1) m j = pad (exq f p (m + 1)) (m + 1) j := by
  unfold exG pad
  by_cases e1 : j < m
  · simp [e1, show j < m + 1 by omega]
  · by_cases e2 : j = m
    · subst e2; simp [exq]
    · simp [e1, e2, show ¬ j < m + 1 by omega]
theorem exch_ret {w w' : World} {f p : Nat → Int} {n b : Nat} {s : Int} {g : Nat → Int} {a : Act} (hb : Blk 52 w' b 6 g) (hg : ∀ j, j < 6 → g j = pad (exq f p n) n j) (hs : s = stp f p (n - 1)) (hw : Below w.heap.size w w')
    (h2 : a.tmps.getD 4 undef = .pointer (some ⟨b, 0, none⟩)) (h3 : a.tmps.getD 5 undef = .int .i64 s) (hd : a.defers = []) :
    bodyPost Try.prog Try.f63 (fun e w' => e = .returned (.tuple #[.agg (arr6 (pad (exq f p n) n)), .int .i64 (stp f p (n - 1))]) ∧ Below w.heap.size w w') .ret a w' := by
  refine bodyPost_ret (results_cell_tmp Try.results63 _ _ 52 b 6 g (.int .i64 s) _ h2 h3 hb Try.underlying52 rfl szPile) hd ⟨?_, hw⟩
  unfold arr6
  rw [hs, intCells_congr hg]
set_option maxHeartbeats 2000000 in
theorem exchanged_any (f p : Nat → Int) (n : Nat) (w : World) (hs : SysF f n) (hn : n ≤ 6) (hf : ∀ j, j < n → f j ≤ 1000000) (h0 : ∀ j, j < n → 0 ≤ p j) (h1 : ∀ j, j < n → p j ≤ 1000000) :
    Calls Try.prog 63 #[.agg (arr6 (pad p n)), .agg (arr7 f n)] w fun e w' => e = .returned (.tuple #[.agg (arr6 (pad (exq f p n) n)), .int .i64 (stp f p (n - 1))]) ∧ Below w.heap.size w w' := by
  have Bd := Lib.hid (stp_bd hs h0 h1 hn)
  have Cn := Lib.hid (car_nonneg hs h0); have Cl := Lib.hid (car_le hs h0 h1 (by omega))
  have hn1 := hs.len
  have HS := Lib.hid hs; have HF := Lib.hid hf; have H0 := Lib.hid h0; have H1 := Lib.hid h1; clear hs hf h0 h1
  obtain ⟨m, rfl⟩ : ∃ m, n = m + 1 := ⟨n - 1, by omega⟩
  have h6 := arr7_count f (m + 1) hn
  have HA : Hid (arr6 (pad p (m + 1)) = (intCells (pad p (m + 1)) 6).toArray) := rfl
  have HC : Hid (arr7 f (m + 1) = (intCells (sysF f (m + 1)) 7).toArray) := rfl
  have HX := Lib.hid (three_boxes w (arr6 (pad p (m + 1))) (arr7 f (m + 1)) zero6 52 48 52)
  generalize arr6 (pad p (m + 1)) = A at *
  generalize arr7 f (m + 1) = C at *
  go_enter Try.func63, Try.ntmps63
  go_wp2_with fail
  obtain ⟨w1, hw1⟩ : ∃ w1, w1 = ((w.alloc (.cells A 52)).alloc (.cells C 48)).alloc (.cells zero6 52) := ⟨_, rfl⟩
  rw [← hw1] at HX
  unfold zero6 at hw1
  have Hw1 := Lib.hid hw1
  clear hw1
  have HB1 : Hid (Blk 52 w1 w.heap.size 6 (pad p (m + 1))) := by show _ = _; rw [← HA.out]; exact HX.out.1
  have HB2 : Hid (Blk 48 w1 (w.heap.size + 1) 7 (sysF f (m + 1))) := by show _ = _; rw [← HC.out]; exact HX.out.2.1
  have HB3 : Hid (Blk 52 w1 (w.heap.size + 2) 6 (fun _ => 0)) := by show _ = _; rw [← zero6_eq]; exact HX.out.2.2.1
  have HBw := Lib.hid HX.out.2.2.2.2
  go_loopw [6, 13] (fun x i wr => ∃ k : Nat, i = .int .i64 k ∧ k ≤ m ∧ x = .int .i64 (stp f p k) ∧ Blk 52 wr w.heap.size 6 (exG f p (m + 1) k) ∧ Mid w.heap.size (w.heap.size + 1) w1 wr) (fun _ i _ => m - (intOf i).toNat)
  case atStart => exact ⟨0, rfl, by omega, rfl, by { rw [← Hw1.out]; exact HB1.out.congr fun j hj => exG_zero f p (m + 1) j (by omega) }, by { rw [← Hw1.out]; exact Mid.refl _ _ _ }⟩
  case round =>
    obtain ⟨k, rfl, hk, rfl, hblk, hmid⟩ := hrel
    have Hb := Lib.hid hblk; have Hm := Lib.hid hmid
    by_cases hlt : k < m
    · have hc1 : wr.cell? ⟨w.heap.size + 1, k, none⟩ = some (.int .i64 (f k)) := by
        have := (HB2.out.mid Hm.out (by omega)).cell k (by omega)
        rw [sysF_at f (m + 1) k (by omega)] at this
        exact this
      have hc2 : wr.cell? ⟨w.heap.size + 1, k + 1, none⟩ = some (.int .i64 (f (k + 1))) := by
        have := (HB2.out.mid Hm.out (by omega)).cell (k + 1) (by omega)
        rw [sysF_at f (m + 1) (k + 1) (by omega)] at this
        exact this
      have hg1 : exG f p (m + 1) k k = p k + car f p k := by unfold exG; rw [if_neg (by omega), if_pos rfl]
      have hg2 : exG f p (m + 1) k (k + 1) = p (k + 1) := by unfold exG; rw [if_neg (by omega), if_neg (by omega), if_pos (by omega)]
      have hd1 : wr.cell? ⟨w.heap.size, k, none⟩ = some (.int .i64 (p k + car f p k)) := by rw [hblk.cell k (by omega), hg1]
      have hfr := hblk.frozen k
      have HD : Hid (∀ q : Nat, ((wr.drewN q).setCell ⟨w.heap.size, k, none⟩ (.int .i64 (exq f p (m + 1) k))).cell? ⟨w.heap.size, k + 1, none⟩ = some (.int .i64 (p (k + 1))) ∧
          ((wr.drewN q).setCell ⟨w.heap.size, k, none⟩ (.int .i64 (exq f p (m + 1) k))).frozen? ⟨w.heap.size, k + 1, none⟩ = false ∧
          Blk 52 (((wr.drewN q).setCell ⟨w.heap.size, k, none⟩ (.int .i64 (exq f p (m + 1) k))).setCell ⟨w.heap.size, k + 1, none⟩ (.int .i64 (p (k + 1) + car f p (k + 1)))) w.heap.size 6 (exG f p (m + 1) (k + 1)) ∧
          Mid w.heap.size (w.heap.size + 1) w1 (((wr.drewN q).setCell ⟨w.heap.size, k, none⟩ (.int .i64 (exq f p (m + 1) k))).setCell ⟨w.heap.size, k + 1, none⟩ (.int .i64 (p (k + 1) + car f p (k + 1))))) := fun q => by
        have hbq : Blk 52 (wr.drewN q) w.heap.size 6 (exG f p (m + 1) k) := Hb.out
        have hb1 := hbq.set_ k (exq f p (m + 1) k)
        refine ⟨?_, hb1.frozen (k + 1), (hb1.set_ (k + 1) _).congr fun j hj => exG_step f p (m + 1) k j, ((Hm.out.drewN q).setCell (by omega) (by omega) _ _).setCell (by omega) (by omega) _ _⟩
        rw [hb1.cell (k + 1) (by omega), if_neg (by omega), hg2]
      have x1 := HS.out.pos k (by omega)
      have y1 := HS.out.pos (k + 1) (by omega)
      have y2 := HF.out (k + 1) (by omega)
      obtain ⟨q1, q2, q3⟩ := quo_bd (f k) (f (k + 1)) x1 y1 y2
      have r2 := HS.out.rat_two (show k + 1 < m + 1 by omega)
      have u1 := H0.out k (by omega)
      have u2 := H1.out k (by omega)
      have u1' := H0.out (k + 1) (by omega)
      have u2' := H1.out (k + 1) (by omega)
      have u3 := Cn.out k (by omega)
      have u4 := Cl.out k (by omega)
      have u5 := Cn.out (k + 1) (by omega)
      have u6 := Cl.out (k + 1) (by omega)
      obtain ⟨u7, u8⟩ := Bd.out k (by omega)
      have Hr : Hid (rat f k = f (k + 1) / f k) := rfl
      have Hst : Hid (stp f p (k + 1) = stp f p k + car f p (k + 1)) := rfl
      have hcar : (p k + car f p k) / (f (k + 1) / f k) = car f p (k + 1) := rfl
      have hexq : (p k + car f p k) % (f (k + 1) / f k) = exq f p (m + 1) k := by unfold exq; rw [if_pos (by omega)]; rfl
      rw [Hr.out] at r2
      clear hg1 hg2 hblk hmid
      obtain ⟨nc, hnc⟩ : ∃ nc, car f p (k + 1) = nc := ⟨_, rfl⟩
      rw [hnc] at u5 u6 Hst hcar HD
      have Hnc := Lib.hid hnc; clear hnc
      generalize exq f p (m + 1) k = ek at *
      generalize stp f p k = st at *
      generalize car f p k = oc at *
      generalize f (k + 1) = y at *
      generalize f k = x at *
      obtain ⟨z', hz'⟩ : ∃ z', p (k + 1) = z' := ⟨_, rfl⟩
      rw [hz'] at u1' u2' HD
      clear hz'
      obtain ⟨z, hz⟩ : ∃ z, p k + oc = z := ⟨_, rfl⟩
      rw [hz] at hd1 hcar hexq
      have hz0 : 0 ≤ z ∧ z ≤ 2000000 := by omega
      obtain ⟨hz0, hz1⟩ := hz0
      clear hz
      obtain ⟨d, hd⟩ : ∃ d, y / x = d := ⟨_, rfl⟩
      rw [hd] at q1 q2 q3 r2 hcar hexq
      go_wp2_with fail
      go_quiet (fail)
      obtain ⟨hd2, hfr2, hbb, hmm⟩ := HD.out nq
      have HBB := Lib.hid hbb; have HMM := Lib.hid hmm; clear hbb hmm HD
      go_wp2_with fail
      go_roundw
      case rel => exact ⟨k + 1, by go_num, by omega, by rw [Hst.out], HBB.out, HMM.out⟩
      case measure => simp [intOf]; omega
    · obtain rfl : k = m := by omega
      have HT : Hid (Blk 52 wr (w.heap.size + 2) 6 (fun _ => 0)) := HB3.out.mid Hm.out (by omega)
      clear hblk hmid
      go_wp2_with (first
        | ((with_reducible refine here ⟨some 48, _, _, _, _, _⟩ ?_)
           refine wpList_load_blk rfl 52 (.tmp 2) rfl 52 w.heap.size 6 _ _ rfl Hb.out Try.underlying52 rfl szPile ?_)
        | ((with_reducible refine here ⟨none, .store 52 (.tmp 4) (.tmp 48), _, _, _, _⟩ ?_)
           refine wpList_store_blk rfl 52 (.tmp 4) (.tmp 48) rfl 52 (w.heap.size + 2) 6 (fun _ => 0) _ rfl rfl HT.out szPile ?_
           intro w4 hb4 hm4
           have HB4 := Lib.hid hb4; have HM4 := Lib.hid hm4; clear hb4 hm4))
      exact exch_ret HB4.out (fun j hj => exG_last f p k j) rfl (HM4.out.bel (Hm.out.bel HBw.out (by omega)) (by omega)) rfl rfl rfl
theorem item_int (d i : Nat) (is : List Nat) (xs ys : Array Value) (a b : Int) (w : World) (ha : xs[i]? = some (.int .i64 a)) (hb : ys[i]? = some (.int .i64 b)) :
    (Op.eqItems (d + 1) 3 1 xs ys (i :: is)).run Try.prog w = if a = b then (Op.eqItems (d + 1) 3 1 xs ys is).run Try.prog w else .ok false w := by
  have he := Try.underlying3
  have px : (part 3 xs (i * 1)).run Try.prog w = .ok (.int .i64 a) w := by simp [part, isAgg, run_underlying he, ha]
  have py : (part 3 ys (i * 1)).run Try.prog w = .ok (.int .i64 b) w := by simp [part, isAgg, run_underlying he, hb]
  have pe : (Op.equalIn (d + 1) 3 (.int .i64 a) (.int .i64 b)).run Try.prog w = .ok (a == b) w := run_equalIn_int w d _ .i64 .i64 _ _ he
  simp only [Op.eqItems, Sem.run_bind, px, py, pe, Result.andThen_ok]
  by_cases h : a = b
  · simp [h]
  · simp [h]
def eq6B (p q : Nat → Int) : Bool := (List.range 6).all fun j => decide (p j = q j)
theorem eq6B_spec {p q : Nat → Int} : eq6B p q = true ↔ ∀ j, j < 6 → p j = q j := by
  unfold eq6B
  rw [List.all_eq_true]
  constructor
  · intro h j hj; exact of_decide_eq_true (h j (List.mem_range.2 hj))
  · intro h j hj; exact decide_eq_true (h j (List.mem_range.1 hj))
theorem eq6_any (p q : Nat → Int) (w : World) : (Op.equalIn 10000 52 (.agg (arr6 p)) (.agg (arr6 q))).run Try.prog w = .ok (eq6B p q) w := by
  obtain ⟨i1, hi1, _, _, _⟩ := info_parts info_int
  have hat : ∀ (p : Nat → Int) (j : Nat), j < 6 → (arr6 p)[j]? = some (.int .i64 (p j)) := fun p j hj => by unfold arr6; rw [List.getElem?_toArray]; exact intCells_at p 6 j hj
  rw [show (10000 : Nat) = 9999 + 1 from rfl, run_equalIn_array w 9999 _ _ Try.underlying52 hi1, show Try.prog.cellsOf 3 = 1 from by kernel_rfl, show List.range 6 = [0, 1, 2, 3, 4, 5] from rfl]
  rw [item_int 9998 0 _ _ _ _ _ w (hat p 0 (by omega)) (hat q 0 (by omega)), item_int 9998 1 _ _ _ _ _ w (hat p 1 (by omega)) (hat q 1 (by omega)), item_int 9998 2 _ _ _ _ _ w (hat p 2 (by omega)) (hat q 2 (by omega)),
    item_int 9998 3 _ _ _ _ _ w (hat p 3 (by omega)) (hat q 3 (by omega)), item_int 9998 4 _ _ _ _ _ w (hat p 4 (by omega)) (hat q 4 (by omega)), item_int 9998 5 _ _ _ _ _ w (hat p 5 (by omega)) (hat q 5 (by omega))]
  have hn : ∀ xs ys : Array Value, (Op.eqItems (9998 + 1) 3 1 xs ys []).run Try.prog w = .ok true w := fun _ _ => by simp [Op.eqItems]
  rw [hn]
  by_cases h : ∀ j, j < 6 → p j = q j
  · rw [eq6B_spec.2 h, if_pos (h 0 (by omega)), if_pos (h 1 (by omega)), if_pos (h 2 (by omega)), if_pos (h 3 (by omega)), if_pos (h 4 (by omega)), if_pos (h 5 (by omega))]
  · rw [show eq6B p q = false by rw [Bool.eq_false_iff]; exact fun h' => h (eq6B_spec.1 h')]
    by_cases h0 : p 0 = q 0
    · rw [if_pos h0]
      by_cases h1 : p 1 = q 1
      · rw [if_pos h1]
        by_cases h2 : p 2 = q 2
        · rw [if_pos h2]
          by_cases h3 : p 3 = q 3
          · rw [if_pos h3]
            by_cases h4 : p 4 = q 4
            · rw [if_pos h4]
              by_cases h5 : p 5 = q 5
              · refine absurd (fun j hj => ?_) h
                rcases (show j = 0 ∨ j = 1 ∨ j = 2 ∨ j = 3 ∨ j = 4 ∨ j = 5 by omega) with rfl | rfl | rfl | rfl | rfl | rfl <;> assumption
              · rw [if_neg h5]
            · rw [if_neg h4]
          · rw [if_neg h3]
        · rw [if_neg h2]
      · rw [if_neg h1]
    · rw [if_neg h0]
def plainB (f p : Nat → Int) (n : Nat) : Bool := eq6B (pad p n) (pad (exq f p n) n)
theorem plainB_plB {f p : Nat → Int} {n m : Nat} (h : pilB f n p m = true) : plainB f p n = plB f n p m := by
  obtain ⟨s1, s2, s3, rfl, s4, s5⟩ := pilB_sys h
  rw [Bool.eq_iff_iff, plB_spec]
  unfold plainB
  rw [eq6B_spec]
  constructor
  · intro he
    refine ⟨h, (exq_plain_eq s1 s4).1 fun j hj => ?_⟩
    have := he j (by omega)
    rw [pad_in _ _ _ hj, pad_in _ _ _ hj] at this
    exact this
  · rintro ⟨_, hp⟩ j hj
    unfold pad
    by_cases e : j < m
    · rw [if_pos e, if_pos e]; exact (exq_plain_eq s1 s4).2 hp j e
    · rw [if_neg e, if_neg e]
set_option maxHeartbeats 1000000 in
theorem isPlain_any (f p : Nat → Int) (n : Nat) (w : World) (hs : SysF f n) (hn : n ≤ 6) (hf : ∀ j, j < n → f j ≤ 1000000) (h0 : ∀ j, j < n → 0 ≤ p j) (h1 : ∀ j, j < n → p j ≤ 1000000) :
    Calls Try.prog 59 #[.agg (arr6 (pad p n)), .agg (arr7 f n)] w fun e w' => e = .returned (.bool (plainB f p n)) ∧ Below w.heap.size w w' := by
  have C1 := Lib.hid (fun w => exchanged_any f p n w hs hn hf h0 h1)
  have E := Lib.hid (eq6_any (pad p n) (pad (exq f p n) n))
  have HX := Lib.hid (two_boxes w (arr6 (pad p n)) (arr7 f n) 52 48)
  have HW := Lib.hid (two_bel w (.cells (arr6 (pad p n)) 52) (.cells (arr7 f n) 48))
  have HA : Hid (arr6 (pad p n) = (intCells (pad p n) 6).toArray) := rfl
  have HC : Hid (arr7 f n = (intCells (sysF f n) 7).toArray) := rfl
  have HE : Hid (arr6 (pad (exq f p n) n) = (intCells (pad (exq f p n) n) 6).toArray) := rfl
  have HP : Hid (eq6B (pad p n) (pad (exq f p n) n) = plainB f p n) := rfl
  clear hs hf h0 h1
  obtain ⟨b, hb⟩ : ∃ b, eq6B (pad p n) (pad (exq f p n) n) = b := ⟨_, rfl⟩
  rw [hb] at E HP
  clear hb
  generalize stp f p (n - 1) = st at *
  obtain ⟨A, hA⟩ : ∃ A, arr6 (pad p n) = A := ⟨_, rfl⟩
  obtain ⟨C, hC⟩ : ∃ C, arr7 f n = C := ⟨_, rfl⟩
  obtain ⟨D, hD⟩ : ∃ D, arr6 (pad (exq f p n) n) = D := ⟨_, rfl⟩
  rw [hA] at HX HW HA C1 E ⊢
  rw [hC] at HX HW HC C1 ⊢
  rw [hD] at HE C1 E
  clear hA hC hD
  have HB1 : Hid (Blk 52 ((w.alloc (.cells A 52)).alloc (.cells C 48)) w.heap.size 6 (pad p n)) := by show _ = _; rw [← HA.out]; exact HX.out.1
  have HB2 : Hid (Blk 48 ((w.alloc (.cells A 52)).alloc (.cells C 48)) (w.heap.size + 1) 7 (sysF f n)) := by show _ = _; rw [← HC.out]; exact HX.out.2
  clear HX
  go_enter Try.func59, Try.ntmps59
  go_wp2_with (first
    | ((with_reducible refine here ⟨some 8, _, _, _, _, _⟩ ?_)
       refine wpList_load_blk rfl 52 (.tmp 2) rfl 52 w.heap.size 6 _ _ rfl HB1.out Try.underlying52 rfl szPile ?_
       rw [← HA.out])
    | ((with_reducible refine here ⟨some 9, _, _, _, _, _⟩ ?_)
       refine wpList_load_blk rfl 48 (.tmp 3) rfl 48 (w.heap.size + 1) 7 _ _ rfl HB2.out Try.underlying48 rfl szSys ?_
       rw [← HC.out]))
  refine (C1.out _).mono ?_
  rintro e w2 ⟨rfl, g2⟩
  have hsz2 : ((w.alloc (.cells A 52)).alloc (.cells C 48)).heap.size = w.heap.size + 2 := by simp
  rw [hsz2] at g2
  clear hsz2
  have HB3 : Hid (Blk 52 w2 w.heap.size 6 (pad p n)) := HB1.out.keep (g2.block _ (by omega))
  have HW2 : Hid (Below w.heap.size w w2) := HW.out.trans (g2.mono (by omega))
  clear g2
  have HZ : Hid (Blk 52 (w2.alloc (.cells zero6 52)) w2.heap.size 6 (fun _ => 0)) := zero6_blk w2 _
  have HZB : Hid (Blk 52 (w2.alloc (.cells zero6 52)) w.heap.size 6 (pad p n)) := HB3.out.alloc _
  have HZW : Hid (Below w.heap.size w (w2.alloc (.cells zero6 52))) := HW2.out.alloc (Nat.le_of_lt HB3.out.lt) _
  have hlt := HB3.out.lt
  go_wp2_with (first
    | ((with_reducible refine here ⟨none, .store 52 (.tmp 5) (.tmp 11), _, _, _, _⟩ ?_)
       refine wpList_store_blk rfl 52 (.tmp 5) (.tmp 11) rfl 52 w2.heap.size 6 (fun _ => 0) (pad (exq f p n) n) rfl (by rw [← HE.out]; rfl) HZ.out szPile ?_
       intro w4 hb4 hm4
       have HB4 := Lib.hid hb4
       have HB5 : Hid (Blk 52 w4 w.heap.size 6 (pad p n)) := HZB.out.mid hm4 (by omega)
       have HW4 : Hid (Below w.heap.size w w4) := hm4.bel HZW.out (by omega)
       have hE := E.out w4
       clear hb4 hm4)
    | ((with_reducible refine here ⟨some 13, _, _, _, _, _⟩ ?_)
       refine wpList_load_blk rfl 52 (.tmp 2) rfl 52 w.heap.size 6 _ _ rfl HB5.out Try.underlying52 rfl szPile ?_
       rw [← HA.out])
    | ((with_reducible refine here ⟨some 14, _, _, _, _, _⟩ ?_)
       refine wpList_load_blk rfl 52 (.tmp 5) rfl 52 w2.heap.size 6 _ _ rfl HB4.out Try.underlying52 rfl szPile ?_
       rw [← HE.out]))
  go_ret
  exact ⟨ret_bool HP.out, HW4.out⟩
end Go.Proofs.Ytbepcmjjgpbgaaa
