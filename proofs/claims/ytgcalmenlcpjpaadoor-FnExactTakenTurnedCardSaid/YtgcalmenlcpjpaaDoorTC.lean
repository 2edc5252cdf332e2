/- The model's chapter 5 (package spec): l5Size, l5Of. -/
import Derived.Test.YtgcalmenlcpjpaaDoorTB
import Derived.Laws.OwnMore
import Derived.IntWalk
import Derived.Deep.AppendLies
namespace Go.Proofs.YtgcalmenlcpjpaaDoor
open Go.RowKit
set_option linter.unusedVariables false
set_option maxRecDepth 100000
/-- the size of the first k numbers -/
def szF (p : Nat → Int) (k : Nat) : Int := sumF (fun j => abz (p j)) k
theorem szF_bd {p : Nat → Int} {n : Nat} {M : Int} (h : ∀ j, j < n → -M ≤ p j ∧ p j ≤ M) : ∀ k, k ≤ n → 0 ≤ szF p k ∧ szF p k ≤ k * M
  | 0, _ => by simp [szF, sumF]
  | k + 1, hk => by
    obtain ⟨a, b⟩ := szF_bd h k (by omega)
    obtain ⟨c, d⟩ := h k (by omega)
    have e : szF p (k + 1) = szF p k + abz (p k) := rfl
    have e2 : ((k + 1 : Nat) : Int) * M = k * M + M := by rw [Int.natCast_add, Int.add_mul]; simp
    rw [e, e2]
    unfold abz
    omega
set_option maxHeartbeats 400000 in
theorem sl5Size_any (a : Option Addr) (n c : Nat) (p : Nat → Int) (w : World) (h : Ls w a n p) (hn : n ≤ 100) (hb : ∀ j, j < n → -10000000 ≤ p j ∧ p j ≤ 10000000) :
    Calls Tryd.prog 54 #[.slice a n c] w fun e w' => e = .returned (.int .i64 (szF p n)) ∧ Mid 0 0 w w' := by
  have H := Lib.hid h; have Bd := Lib.hid (fun k hk => szF_bd (M := 10000000) hb k hk); have Hb := Lib.hid hb; clear h hb
  go_enter Tryd.func54, Tryd.ntmps54
  go_wp2_with fail
  go_loopw [3, 4] (fun x i wr => ∃ k q : Nat, i = .int .i64 k ∧ k ≤ n ∧ x = .int .i64 (szF p k) ∧ wr = w.drewN q) (fun _ i _ => n - (intOf i).toNat)
  case atStart => exact ⟨0, 0, rfl, by omega, rfl, rfl⟩
  case round =>
    obtain ⟨k, q, rfl, hk, rfl, rfl⟩ := hrel
    by_cases hlt : k < n
    · obtain ⟨b1, o1, rfl, hb1, hc1⟩ := H.out k hlt
      obtain ⟨v1, v2⟩ := Bd.out k (by omega)
      obtain ⟨v3, v4⟩ := Hb.out k hlt
      have Hst : Hid (szF p (k + 1) = szF p k + abz (p k)) := rfl
      have hab : abz (p k) = max (p k) (0 - p k) := rfl
      rw [hab] at Hst
      clear hab
      generalize szF p k = V at *
      generalize p k = y at *
      go_wp2_with fail
      go_quiet (fail)
      obtain ⟨Z, hZ⟩ : ∃ Z, (if y < -y then -y else y) = Z := ⟨_, rfl⟩
      rw [hZ]
      have HZ : Hid (szF p (k + 1) = V + Z) := Lib.hid (by rw [Hst.out, ← hZ]; split <;> omega)
      clear hZ
      go_wp2_with fail
      go_roundw
      case rel => exact ⟨k + 1, _, by go_num, by omega, by rw [HZ.out], rfl⟩
      case measure => simp [intOf]; omega
    · obtain rfl : k = n := by omega
      go_wp2_with fail
      go_ret
      exact ⟨rfl, (Mid.refl _ _ _).drewN _⟩
/-- rows that a call grows -/
def GrL (base : Nat) (w : World) (g cap : Nat) (xs : List Int) : Prop := w.ownsRow base 3 1 (.slice (some ⟨g, 0, none⟩) xs.length cap) xs.length (xs.map (Value.int .i64))
theorem GrL.ls {base : Nat} {w : World} {g cap : Nat} {xs : List Int} (h : GrL base w g cap xs) : Ls w (some ⟨g, 0, none⟩) xs.length (fun j => xs.getD j 0) := fun k hk => by
  rcases h.2 with ⟨he, _⟩ | ⟨g', cap', cur, he, hb, hg, hc1, hc2, hc3, htk⟩
  · cases he
  · injection he with e1 e2 e3
    injection e1 with e4
    injection e4 with e5
    subst e5
    refine ⟨g, 0, rfl, lt_of_block' hg, ?_⟩
    rw [Nat.zero_add, World.ownsRow.cellAt h k (by omega)]
    simp [hk]
theorem GrL.below {base : Nat} {w w' : World} {g cap : Nat} {xs : List Int} (h : GrL base w g cap xs) (gr : Below w.heap.size w w') : GrL base w' g cap xs :=
  World.ownsRow.kept h (row := none) ⟨gr.os, gr.tape, gr.output, gr.size, fun k hk _ => gr.block k hk⟩ (.inr (by simp [Value.ownBlock]))
theorem GrL.lo {base base' : Nat} {w : World} {g cap : Nat} {xs : List Int} (h : GrL base w g cap xs) (hb : base' ≤ base) : GrL base' w g cap xs :=
  ⟨h.1, h.2.imp id fun ⟨g, cap, cur, h1, h2, h3⟩ => ⟨g, cap, cur, h1, Nat.le_trans hb h2, h3⟩⟩
theorem GrL.lit (w : World) (x : Int) : GrL w.heap.size (w.alloc (.cells #[.int .i64 x] 3)) w.heap.size 1 [x] := World.ownsRow_lit w #[.int .i64 x] 1 (Nat.le_refl _) (by decide) rfl
theorem cells_int (D : List Int) : ∀ u ∈ D.map (Value.int .i64), u.oneCell' = true := by
  intro u hu
  obtain ⟨y, _, rfl⟩ := List.mem_map.1 hu
  rfl
theorem news_int {w : World} {b : Nat} {D : List Int} (h : Ls w (some ⟨b, 0, none⟩) D.length (fun j => D.getD j 0)) : ∀ (j : Nat) u, (D.map (Value.int .i64))[j]? = some u → w.cell? ((⟨b, 0, none⟩ : Addr).add j) = some u := by
  intro j u hu
  have hj : j < D.length := by
    rcases Nat.lt_or_ge j D.length with h | h
    · exact h
    · rw [List.getElem?_eq_none (by simpa using h)] at hu; cases hu
  have e : (⟨b, 0, none⟩ : Addr).add j = ⟨b, j, none⟩ := by unfold Addr.add; split <;> simp_all
  obtain ⟨b', o', e', _, hc⟩ := h j hj
  injection e' with e1
  injection e1 with e2 e3
  subst e2 e3
  rw [Nat.zero_add] at hc
  rw [e, hc, ← hu]
  simp [hj]
/-- what l5Of hands back -/
def TkR (w : World) (xs : List Int) (w' : World) (e : Ending) : Prop := ∃ g cap, e = .returned (.slice (some ⟨g, 0, none⟩) xs.length cap) ∧ GrL w.heap.size w' g cap xs ∧ Below w.heap.size w w'
theorem szL_szF : ∀ l : List Int, szL l = szF (fun j => l.getD j 0) l.length
  | [] => rfl
  | x :: l => by
    have hc : ∀ (g : Nat → Int) k, sumF g (k + 1) = g 0 + sumF (fun j => g (j + 1)) k := fun g k => by
      induction k with
      | zero => simp [sumF]
      | succ k ih => rw [sumF, ih]; simp only [sumF]; omega
    rw [szL, szL_szF l, List.length_cons]
    unfold szF
    rw [hc]
    rfl
theorem app_post {w0 W w4 : World} {gL capL m : Nat} {v' : Value} {r : Int} {D : List Int} (hL : GrL w0.heap.size W gL capL [r]) (hB : Below w0.heap.size w0 W) (ho : w4.ownsRow w0.heap.size 3 1 v' (1 + m) ([r].map (Value.int .i64) ++ D.map (Value.int .i64)))
    (hg : W.grownBy w4 (Value.slice (some ⟨gL, 0, none⟩) 1 capL).ownBlock) : ∃ g' cap', v' = .slice (some ⟨g', 0, none⟩) (D.length + 1) cap' ∧ GrL w0.heap.size w4 g' cap' (r :: D) ∧ Below w0.heap.size w0 w4 := by
  have hm : 1 + m = D.length + 1 := by have := ho.1; simp at this; omega
  rw [hm] at ho
  obtain ⟨g', cap', rfl, _, _⟩ := ho.form (by omega)
  exact ⟨g', cap', rfl, ho, hB.grown hg hB.size (fun j hj => (hL.lt j hj).1)⟩
set_option maxRecDepth 100000 in
set_option maxHeartbeats 1000000 in
theorem sl5Of_any (a : Option Addr) (n c : Nat) (f : Nat → Int) (hs : SysF f n) (hn : n ≤ 6) (hf : ∀ j, j < n → f j ≤ 1000000) (k : Nat) : ∀ (i : Nat) (N : Int) (w : World), i + k + 1 = n → 0 ≤ N → N ≤ 1000000 → Ls w a n f →
    Calls Tryd.prog 47 #[.slice a n c, .int .i64 i, .int .i64 N] w fun e w' => TkR w (tkL f k i N) w' e := by
  induction k with
  | zero =>
    intro i N w hi h0 h1 h
    have hq : ((i : Int) == (n : Int) - 1) = true := by rw [beq_iff_eq]; omega
    have HL := Lib.hid (GrL.lit w N)
    clear hi h
    go_enter Tryd.func47, Tryd.ntmps47
    go_wp2_with fail
    go_ret
    exact ⟨w.heap.size, 1, rfl, HL.out, (Below.refl _ _).alloc (Nat.le_refl _) _⟩
  | succ k ih =>
    intro i N w hi h0 h1 h
    obtain ⟨i0, hi0, hz0, hz1, hz2⟩ := info_parts info_int
    have hq : ((i : Int) == (n : Int) - 1) = false := by rw [beq_eq_false_iff_ne]; omega
    obtain ⟨b, o, rfl, hb, hc1⟩ := h i (by omega)
    have hc2 : w.cell? ⟨b, o + (i + 1), none⟩ = some (.int .i64 (f (i + 1))) := by
      obtain ⟨b', o', e', _, hc⟩ := h (i + 1) (by omega)
      injection e' with e1
      injection e1 with e2 e3
      subst e2 e3
      exact hc
    have s2 := hs.rat_two (j := i) (by omega)
    have f1 := hs.pos i (by omega)
    have f2 := hf i (by omega)
    have f3 := hs.pos (i + 1) (by omega)
    have f4 := hf (i + 1) (by omega)
    have s3 : rat f i ≤ 1000000 := Int.le_trans (Int.ediv_le_self _ (by omega)) f4
    have hdv : (f (i + 1)).tdiv (f i) = rat f i := Int.tdiv_eq_ediv_of_nonneg (by omega)
    have hq0 := Int.ediv_nonneg h0 (show 0 ≤ rat f i by omega)
    have hq1 : N / rat f i ≤ 500000 := by
      have hd := Int.emod_add_mul_ediv N (rat f i)
      have r0 := Int.emod_nonneg N (show rat f i ≠ 0 by omega)
      have := Int.mul_le_mul_of_nonneg_right s2 hq0
      omega
    have hr0 := Int.emod_nonneg N (show rat f i ≠ 0 by omega)
    have hr1 := Int.emod_lt_of_pos N (show 0 < rat f i by omega)
    have I1 := Lib.hid (fun w (hw : Ls w (some ⟨b, o, none⟩) n f) => ih (i + 1) (N / rat f i) w (by omega) hq0 (by omega) hw)
    have I2 := Lib.hid (fun w (hw : Ls w (some ⟨b, o, none⟩) n f) => ih (i + 1) (N / rat f i + 1) w (by omega) (by omega) (by omega) hw)
    rw [show ((i + 1 : Nat) : Int) = (i : Int) + 1 by omega] at I1 I2
    have hm1 : N.tmod (rat f i) = N % rat f i := Int.tmod_eq_emod_of_nonneg h0
    have hm2 : N.tdiv (rat f i) = N / rat f i := Int.tdiv_eq_ediv_of_nonneg h0
    have hi1 : i + 1 < n := by omega
    have hk6 : k + 1 ≤ 6 := by omega
    have Hlen1 := tkL_len f k (i + 1) (N / rat f i)
    have Hlen2 := tkL_len f k (i + 1) (N / rat f i + 1)
    rw [show tkL f (k + 1) i N = if N % rat f i = 0 then (N % rat f i) :: tkL f k (i + 1) (N / rat f i)
      else if szL ((N % rat f i - rat f i) :: tkL f k (i + 1) (N / rat f i + 1)) < szL ((N % rat f i) :: tkL f k (i + 1) (N / rat f i)) then (N % rat f i - rat f i) :: tkL f k (i + 1) (N / rat f i + 1)
      else (N % rat f i) :: tkL f k (i + 1) (N / rat f i) from rfl]
    have Bd1 := tkL_mem f k (i + 1) (fun j h1 h2 => ⟨hs.rat_two (by omega), Int.le_trans (Int.ediv_le_self _ (by have := hs.pos (j + 1) (by omega); omega)) (hf (j + 1) (by omega))⟩) (N / rat f i) hq0 (by omega)
    have Bd2 := tkL_mem f k (i + 1) (fun j h1 h2 => ⟨hs.rat_two (by omega), Int.le_trans (Int.ediv_le_self _ (by have := hs.pos (j + 1) (by omega); omega)) (hf (j + 1) (by omega))⟩) (N / rat f i + 1) (by omega) (by omega)
    have H := Lib.hid h; have B1 := Lib.hid Bd1; have B2 := Lib.hid Bd2
    clear h hs hf ih Bd1 Bd2 hi
    generalize tkL f k (i + 1) (N / rat f i) = A at *
    generalize tkL f k (i + 1) (N / rat f i + 1) = B at *
    generalize rat f i = s at *
    generalize hr : N % s = r at *
    generalize hqq : N / s = q at *
    have HL1 := Lib.hid Hlen1; have HL2 := Lib.hid Hlen2
    have hA : A.length ≤ 6 := by omega
    have hB : B.length ≤ 6 := by omega
    clear Hlen1 Hlen2 hk6
    have hz : ¬ f (i + 1) = 0 := by omega
    have hz' : ¬ f i = 0 := by omega
    have hws : IntKind.i64.wrap s = s := IntWalk.i64_in _ (by omega)
    have hwi : IntKind.i64.wrap ((i : Int) + 1) = (i : Int) + 1 := IntWalk.i64_in _ (by omega)
    generalize f (i + 1) = y at *
    generalize f i = x at *
    obtain ⟨X, hX⟩ : ∃ X, (if r = 0 then r :: A else if szL ((r - s) :: B) < szL (r :: A) then (r - s) :: B else r :: A) = X := ⟨_, rfl⟩
    rw [hX]
    have HX := Lib.hid hX
    clear hX
    have ht : (r == 0) = true ∧ r = 0 ∨ (r == 0) = false ∧ ¬ r = 0 := by
      by_cases h : r = 0
      · exact .inl ⟨by rw [h]; rfl, h⟩
      · exact .inr ⟨by rw [beq_eq_false_iff_ne]; exact h, h⟩
    rcases ht with ⟨ht, hrz⟩ | ⟨ht, hrz⟩
    all_goals
      have HRZ := Lib.hid hrz
      clear hrz
      go_enter Tryd.func47, Tryd.ntmps47
      go_wp2_with fail
      go_quiet (fail)
      clear hdv hws hwi hc1 hc2 hz hz' f1 f2 f3 f4
      go_wp2_with fail
      have hlt : b < w.heap.size := hb
      have HB1 : Hid (Below w.heap.size w ((w.drewN nq).alloc (.cells #[.int .i64 r] 3))) := Lib.hid ((((Mid.refl 0 0 w).drewN nq).bel0).alloc (Nat.le_refl _) _)
      have HL0 : Hid (GrL w.heap.size ((w.drewN nq).alloc (.cells #[.int .i64 r] 3)) w.heap.size 1 [r]) := Lib.hid (GrL.lit (w.drewN nq) r)
      refine (I1.out _ (H.out.below HB1.out)).mono ?_
      rintro e w2 ⟨g, cap, rfl, hga, hb2⟩
      have HB2 : Hid (Below w.heap.size w w2) := Lib.hid (HB1.out.trans (hb2.mono HB1.out.size))
      have HL2' : Hid (GrL w.heap.size w2 w.heap.size 1 [r]) := Lib.hid (HL0.out.below hb2)
      have HGA := Lib.hid hga
      clear hga hb2 HL0 HB1 I1
      go_wp2_with (at_builtin; refine wpList_append_own _ rfl _ _ 23 rfl w.heap.size 3 i0 (.int .i64 0) 1 8 Tryd.underlying23 hi0 hz0 hz1 hz2 rfl (by decide) _ 1 _ rfl HL2'.out ⟨g, 0, none⟩ A.length cap (A.map (Value.int .i64)) rfl (by simp) (news_int HGA.out.ls) (cells_int A) (by unfold maxLen; omega) (by omega) HB2.out.size ?_
                   intro v' w4 hown4 hg4 _
                   obtain ⟨g1, cap1, rfl, h5, h6⟩ := app_post HL2'.out HB2.out hown4 hg4
                   have HG4 := Lib.hid h5
                   have HB4 := Lib.hid h6
                   clear h5 h6 hown4 hg4)
    · go_ret
      rw [← HX.out, if_pos HRZ.out]
      exact ⟨g1, cap1, rfl, HG4.out, HB4.out⟩
    · have HB5 : Hid (Below w4.heap.size w4 (w4.alloc (.cells #[.int .i64 (r - s)] 3))) := Lib.hid ((Below.refl _ _).alloc (Nat.le_refl _) _)
      have HL5 : Hid (GrL w4.heap.size (w4.alloc (.cells #[.int .i64 (r - s)] 3)) w4.heap.size 1 [r - s]) := Lib.hid (GrL.lit w4 (r - s))
      refine (I2.out _ ((H.out.below HB4.out).below HB5.out)).mono ?_
      rintro e w6 ⟨g', cap', rfl, hga, hb6⟩
      have HB6 : Hid (Below w4.heap.size w4 w6) := Lib.hid (HB5.out.trans (hb6.mono HB5.out.size))
      have HL6 : Hid (GrL w4.heap.size w6 w4.heap.size 1 [r - s]) := Lib.hid (HL5.out.below hb6)
      have HGB := Lib.hid hga
      clear hga hb6 HL5 HB5 I2
      go_wp2_with (at_builtin; refine wpList_append_own _ rfl _ _ 23 rfl w4.heap.size 3 i0 (.int .i64 0) 1 8 Tryd.underlying23 hi0 hz0 hz1 hz2 rfl (by decide) _ 1 _ rfl HL6.out ⟨g', 0, none⟩ B.length cap' (B.map (Value.int .i64)) rfl (by simp) (news_int HGB.out.ls) (cells_int B) (by unfold maxLen; omega) (by omega) HB6.out.size ?_
                   intro v' w8 hown8 hg8 _
                   obtain ⟨g2, cap2, rfl, h5, h6⟩ := app_post HL6.out HB6.out hown8 hg8
                   have HG8 := Lib.hid h5
                   have HB8 := Lib.hid h6
                   clear h5 h6 hown8 hg8)
      have HA8 : Hid (GrL w.heap.size w8 g1 cap1 (r :: A)) := Lib.hid (HG4.out.below HB8.out)
      have Z1 := Lib.hid (sl5Size_any (some ⟨g2, 0, none⟩) (B.length + 1) cap2 (fun j => ((r - s) :: B).getD j 0) w8 (by have := HG8.out.ls; rwa [List.length_cons] at this) (by omega) (fun j hj => by
        rcases j with _ | j
        · simp; omega
        · have := B2.out (B.getD j 0) (by rw [List.getD_eq_getElem?_getD, List.getElem?_eq_getElem (by omega)]; exact List.getElem_mem _)
          rw [List.getD_cons_succ]; omega))
      have Z2 := Lib.hid (fun w9 (g : Mid 0 0 w8 w9) => sl5Size_any (some ⟨g1, 0, none⟩) (A.length + 1) cap1 (fun j => (r :: A).getD j 0) w9 (by have := (HA8.out.below g.bel0).ls; rwa [List.length_cons] at this) (by omega) (fun j hj => by
        rcases j with _ | j
        · simp; omega
        · have := B1.out (A.getD j 0) (by rw [List.getD_eq_getElem?_getD, List.getElem?_eq_getElem (by omega)]; exact List.getElem_mem _)
          rw [List.getD_cons_succ]; omega))
      rw [show szF (fun j => ((r - s) :: B).getD j 0) (B.length + 1) = szL ((r - s) :: B) from (szL_szF ((r - s) :: B)).symm] at Z1
      rw [show szF (fun j => (r :: A).getD j 0) (A.length + 1) = szL (r :: A) from (szL_szF (r :: A)).symm] at Z2
      have HXX : Hid (X = if szL ((r - s) :: B) < szL (r :: A) then (r - s) :: B else r :: A) := Lib.hid (by rw [← HX.out, if_neg HRZ.out])
      clear HX
      generalize szL ((r - s) :: B) = zb at *
      generalize szL (r :: A) = za at *
      refine Z1.out.mono ?_
      rintro e w9 ⟨rfl, m9⟩
      have M9 := Lib.hid m9; clear m9
      go_wp2_with fail
      refine (Z2.out _ M9.out).mono ?_
      rintro e w10 ⟨rfl, m10⟩
      have M10 := Lib.hid (M9.out.trans m10); clear m10
      by_cases hlt2 : zb < za
      · have HXe : Hid (X = (r - s) :: B) := Lib.hid (by rw [HXX.out, if_pos hlt2])
        go_wp2_with fail
        go_ret
        rw [HXe.out]
        exact ⟨g2, cap2, rfl, (HG8.out.lo HB4.out.size).below M10.out.bel0, HB4.out.trans ((HB8.out.trans (M10.out.bel0)).mono HB4.out.size)⟩
      · have HXe : Hid (X = r :: A) := Lib.hid (by rw [HXX.out, if_neg hlt2])
        go_wp2_with fail
        go_ret
        rw [HXe.out]
        exact ⟨g1, cap1, rfl, HA8.out.below M10.out.bel0, HB4.out.trans ((HB8.out.trans (M10.out.bel0)).mono HB4.out.size)⟩
end Go.Proofs.YtgcalmenlcpjpaaDoor
