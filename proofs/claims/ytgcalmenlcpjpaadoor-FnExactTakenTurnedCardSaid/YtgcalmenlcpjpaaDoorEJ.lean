/- The program's shortFrom, shortOf: by induction (printed by gene.py). -/
import Derived.Test.YtgcalmenlcpjpaaDoorEI
import Derived.Deep.DeepCutAuto
namespace Go.Proofs.YtgcalmenlcpjpaaDoor
open Go.RowKit
set_option linter.unusedVariables false
set_option linter.unusedSimpArgs false
set_option maxRecDepth 100000
theorem yields_load_as {P : Program} {ops : Array Oper} {S : World → Prop} {o : Oper} {a : Act} (hgd : o.guard = none) (ty : TypeId) (x : Operand) (ho : o.op = .load ty x)
    (T : TypeId) (b N off n : Nat) (v : Nat → Value) (d : TypeDesc) (A : Array Value) (hA : (vals (fun j => v (off + j)) n).toArray = A) (hx : a.eval x = .pointer (some ⟨b, off, none⟩)) (hS : ∀ w, S w → VRow T w b N v) (hn : off + n ≤ N) (hu : P.underlying ty = some d) (hd : d.isRow = true) (hi : (P.info? ty).map (·.size) = some n) :
    YieldsIf P ops S o (.agg A) a := by
  subst hA
  exact yields_load_vals hgd ty x ho T b N off n v d hx hS hn hu hd hi
/-- the numbers without signs, and the marks, of a list that lies from place i on -/
def shP (l : List Int) (i j : Nat) : Int := if i ≤ j then abz (l.getD (j - i) 0) else 0
def shT (l : List Int) (i j : Nat) : Bool := if i ≤ j then decide (l.getD (j - i) 0 < 0) else false
def shA (l : List Int) (i : Nat) : Array Value := sgA (shP l i) (shT l i)
theorem sh_cons (x : Int) (l : List Int) (i : Nat) : sgA (putN (shP l (i + 1)) i (abz x)) (putB (shT l (i + 1)) i (decide (x < 0))) = shA (x :: l) i := by
  unfold shA
  refine sgA_congr (fun j _ => ?_) (fun j _ => ?_)
  · unfold putN shP
    by_cases e : j = i
    · subst e; simp
    · rw [if_neg e]
      by_cases g : i + 1 ≤ j
      · rw [if_pos g, if_pos (by omega)]
        obtain ⟨d, rfl⟩ : ∃ d, j = i + 1 + d := ⟨j - (i + 1), by omega⟩
        rw [show i + 1 + d - (i + 1) = d by omega, show i + 1 + d - i = d + 1 by omega]
        simp
      · rw [if_neg g, if_neg (by omega)]
  · unfold putB shT
    by_cases e : j = i
    · subst e; simp
    · rw [if_neg e]
      by_cases g : i + 1 ≤ j
      · rw [if_pos g, if_pos (by omega)]
        obtain ⟨d, rfl⟩ : ∃ d, j = i + 1 + d := ⟨j - (i + 1), by omega⟩
        rw [show i + 1 + d - (i + 1) = d by omega, show i + 1 + d - i = d + 1 by omega]
        simp
      · rw [if_neg g, if_neg (by omega)]
theorem sh_one (N : Int) (i : Nat) (h : 0 ≤ N) : sgA (putN (fun _ => 0) i N) (putB (fun _ => false) i false) = shA [N] i := by
  rw [← sh_cons N [] i, abz_of h]
  refine sgA_congr (fun j _ => ?_) (fun j _ => ?_)
  · unfold putN shP
    split
    · rfl
    · simp [abz]
  · unfold putB shT
    split
    · exact (decide_eq_false (by omega)).symm
    · simp
theorem sh_sum (l : List Int) (i : Nat) : ∀ k, sumF (shP l i) k = szF (fun j => l.getD j 0) (k - i)
  | 0 => by rw [Nat.zero_sub]; rfl
  | k + 1 => by
    rw [sumF, sh_sum l i k]
    by_cases g : i ≤ k
    · rw [show k + 1 - i = (k - i) + 1 by omega]
      unfold szF
      rw [sumF]
      congr 1
      unfold shP
      rw [if_pos g]
    · rw [show k + 1 - i = k - i by omega]
      unfold shP
      rw [if_neg g]
      omega
theorem szF_tail (l : List Int) : ∀ k, l.length ≤ k → szF (fun j => l.getD j 0) k = szF (fun j => l.getD j 0) l.length
  | 0, h => by rw [show l.length = 0 by omega]
  | k + 1, h => by
    by_cases e : l.length = k + 1
    · rw [e]
    · have ih := szF_tail l k (by omega)
      have hs : szF (fun j => l.getD j 0) (k + 1) = szF (fun j => l.getD j 0) k + abz (l.getD k 0) := rfl
      have hz : l.getD k 0 = 0 := by simp [List.getD_eq_getElem?_getD, List.getElem?_eq_none (show l.length ≤ k by omega)]
      rw [hs, ih, hz]
      simp [abz]
theorem sh_size (l : List Int) (i : Nat) (h : i + l.length ≤ 6) : sumF (shP l i) 6 = szL l := by
  rw [sh_sum, szF_tail l _ (by omega), szL_szF]
theorem sh_bd {l : List Int} {M : Int} (h : ∀ x ∈ l, -M ≤ x ∧ x ≤ M) (hM : 0 ≤ M) (i j : Nat) : 0 ≤ shP l i j ∧ shP l i j ≤ M := by
  unfold shP
  split
  · refine ⟨abz_nonneg _, ?_⟩
    rw [List.getD_eq_getElem?_getD]
    rcases Nat.lt_or_ge (j - i) l.length with g | g
    · rw [List.getElem?_eq_getElem g]
      have := h _ (List.getElem_mem g)
      simp only [Option.getD_some]
      unfold abz; omega
    · rw [List.getElem?_eq_none g]; simp [abz]; exact hM
  · omega
/-- while shortFrom runs: its system, its answer's block -/
def SF (w : World) (f : Nat → Int) (n : Nat) (w' : World) : Prop := Blk 41 w' w.heap.size 7 (sysF f n) ∧ Sg w' (w.heap.size + 1) (fun _ => 0) (fun _ => false) ∧ Below w.heap.size w w'
section
variable {w w' w'' : World} {f : Nat → Int} {n : Nat}
theorem SF.lt (h : SF w f n w') : w.heap.size + 1 < w'.heap.size := VRow.lt h.2.1
theorem SF.below (h : SF w f n w') (g : Below w'.heap.size w' w'') : SF w f n w'' := ⟨h.1.below g, VRow.below h.2.1 g, h.2.2.trans (g.mono h.2.2.size)⟩
theorem SF.alloc (h : SF w f n w') (o : Obj) : SF w f n (w'.alloc o) := h.below ((Below.refl _ _).alloc (Nat.le_refl _) _)
theorem SF.mid {b : Nat} (h : SF w f n w') (g : Mid b (b + 1) w' w'') (hb : w.heap.size + 1 < b) : SF w f n w'' := ⟨h.1.mid g (by omega), VRow.mid h.2.1 g (by omega), g.bel h.2.2 (by omega)⟩
end

set_option maxHeartbeats 4000000 in
theorem shortFrom_any (f : Nat → Int) (n : Nat) (hs : SysF f n) (hn : n ≤ 6) (hf : ∀ j, j < n → f j ≤ 1000000) (k : Nat) : ∀ (i : Nat) (N : Int) (w : World), i + k + 1 = n → 0 ≤ N → N ≤ 1000000 →
    Calls Tryd.prog 66 #[.agg (arr7 f n), .int .i64 i, .int .i64 N] w fun e w' => e = .returned (.agg (shA (tkL f k i N) i)) ∧ Below w.heap.size w w' := by
  induction k with
  | zero =>
    intro i N w hi h0 h1
    obtain ⟨w1, hw1, hb1, hb2, hbel, hsz⟩ := boxes w (arr7 f n) zero12 41 50
    have HF1 : Hid (SF w f n w1) := Lib.hid ⟨hb1, by rw [zero12_eq] at hb2; exact hb2, hbel⟩
    have hc6 : w1.cell? ⟨w.heap.size, 6, none⟩ = some (.int .i64 n) := by
      have h := HF1.out.1.cell 6 (by omega)
      rw [sysF_count f n hn] at h; exact h
    have C := Lib.hid (with_any (fun _ => 0) (fun _ => false) i (by omega) N false w1)
    rw [sh_one N i h0, ← zero12_eq] at C
    have HE : Hid (shA (tkL f 0 i N) i = shA [N] i) := Lib.hid rfl
    have HA : Hid (shA [N] i = (vals (sgV (shP [N] i) (shT [N] i)) 12).toArray) := Lib.hid rfl
    rw [HE.out]
    have hq : ((i : Int) == (n : Int) - 1) = true := by rw [beq_iff_eq]; omega
    clear hb1 hb2 hbel hsz hi
    unfold zero12 at C hw1
    generalize shA [N] i = A at *
    generalize arr7 f n = Y at *
    have Hw1 := Lib.hid hw1
    clear hw1
    go_enter Tryd.func66, Tryd.ntmps66
    go_wp2_with (first
      | ((with_reducible refine here ⟨some 13, .load _ _, _, _, _, _⟩ ?_)
         rw [← Hw1.out]))
    refine C.out.mono ?_
    rintro e w2 ⟨rfl, g2⟩
    have HF2 := Lib.hid (HF1.out.below g2)
    clear g2
    go_wp2_with (first
      | ((with_reducible refine here ⟨none, .store 50 (.tmp 6) (.tmp 19), _, _, _, _⟩ ?_)
         refine wpList_store_vals rfl 50 (.tmp 6) (.tmp 19) rfl 50 (w.heap.size + 1) 12 0 12 _ (sgV (shP [N] i) (shT [N] i)) rfl (by rw [← HA.out]; rfl) HF2.out.2.1 (by omega) szSg (sgV_one _ _ 12) ?_
         intro w4 hb4 hm4
         have HB4 := Lib.hid hb4; have HM4 := Lib.hid (hm4.bel HF2.out.2.2 (by omega)); clear hb4 hm4))
    refine bodyPost_ret (results_vals1 Tryd.results66 _ _ 50 (w.heap.size + 1) 12 _ _ rfl HB4.out Tryd.underlying50 rfl szSg) rfl ⟨?_, HM4.out⟩
    rw [HA.out, vals_congr (fun j hj => ovr_all _ _ 12 j hj)]
  | succ k ih =>
    intro i N w hi h0 h1
    have s2 : 2 ≤ rat f i := hs.rat_two (by omega)
    have x1 := hs.pos i (by omega)
    have y1 := hs.pos (i + 1) (by omega)
    have y2 := hf (i + 1) (by omega)
    have x2 := hf i (by omega)
    have s3 : rat f i ≤ 1000000 := Int.le_trans (Int.ediv_le_self _ (by omega)) y2
    have hrt : ∀ j, i + 1 ≤ j → j < i + 1 + k → 2 ≤ rat f j ∧ rat f j ≤ 1000000 := fun j _ hj => ⟨hs.rat_two (by omega), Int.le_trans (Int.ediv_le_self _ (by have := hs.pos (j + 1) (by omega); omega)) (hf (j + 1) (by omega))⟩
    have hr0 : 0 ≤ N % rat f i := Int.emod_nonneg _ (by omega)
    have hr1 : N % rat f i < rat f i := Int.emod_lt_of_pos _ (by omega)
    have hq0 : 0 ≤ N / rat f i := Int.ediv_nonneg h0 (by omega)
    have hq1 : N / rat f i ≤ 500000 := by
      have hd := Int.emod_add_mul_ediv N (rat f i)
      have := Int.mul_le_mul_of_nonneg_right s2 hq0
      omega
    have MA := tkL_mem f k (i + 1) hrt (N / rat f i) hq0 (by omega)
    have MB := tkL_mem f k (i + 1) hrt (N / rat f i + 1) (by omega) (by omega)
    have LA := tkL_len f k (i + 1) (N / rat f i)
    have LB := tkL_len f k (i + 1) (N / rat f i + 1)
    have hlip := (sz_lip f k (i + 1) (fun j a b => by have := hrt j a b; omega) (N / rat f i) hq0).2
    have IA := Lib.hid (fun w => ih (i + 1) (N / rat f i) w (by omega) hq0 (by omega))
    have IB := Lib.hid (fun w => ih (i + 1) (N / rat f i + 1) w (by omega) (by omega) (by omega))
    have hT0 : tkL f (k + 1) i N = if N % rat f i = 0 then (N % rat f i) :: tkL f k (i + 1) (N / rat f i) else if szL ((N % rat f i - rat f i) :: tkL f k (i + 1) (N / rat f i + 1)) < szL ((N % rat f i) :: tkL f k (i + 1) (N / rat f i)) then (N % rat f i - rat f i) :: tkL f k (i + 1) (N / rat f i + 1) else (N % rat f i) :: tkL f k (i + 1) (N / rat f i) := rfl
    have hT : tkL f (k + 1) i N = if szL ((N % rat f i - rat f i) :: tkL f k (i + 1) (N / rat f i + 1)) < szL ((N % rat f i) :: tkL f k (i + 1) (N / rat f i)) then (N % rat f i - rat f i) :: tkL f k (i + 1) (N / rat f i + 1) else (N % rat f i) :: tkL f k (i + 1) (N / rat f i) := by
      rw [hT0]
      by_cases e : N % rat f i = 0
      · rw [if_pos e, if_neg]
        unfold sz at hlip
        show ¬ (abz (N % rat f i - rat f i) + szL (tkL f k (i + 1) (N / rat f i + 1)) < abz (N % rat f i) + szL (tkL f k (i + 1) (N / rat f i)))
        rw [e]
        unfold abz
        omega
      · rw [if_neg e]
    have HT := Lib.hid hT
    unfold sz at hlip
    clear ih hT hT0 hlip hrt
    have hwq : IntKind.i64.wrap (N / rat f i) = N / rat f i := IntWalk.i64_in _ (by omega)
    have hwq1 : IntKind.i64.wrap (N / rat f i + 1) = N / rat f i + 1 := IntWalk.i64_in _ (by omega)
    have hws : IntKind.i64.wrap (rat f i) = rat f i := IntWalk.i64_in _ (by omega)
    have hwd : IntKind.i64.wrap (rat f i - N % rat f i) = rat f i - N % rat f i := IntWalk.i64_in _ (by omega)
    have hwi : IntKind.i64.wrap ((i : Int) + 1) = (i : Int) + 1 := IntWalk.i64_in _ (by omega)
    have hdv : (f (i + 1)).tdiv (f i) = rat f i := Int.tdiv_eq_ediv_of_nonneg (by omega)
    have hnd : N.tdiv (rat f i) = N / rat f i := Int.tdiv_eq_ediv_of_nonneg h0
    have hnm : N.tmod (rat f i) = N % rat f i := Int.tmod_eq_emod_of_nonneg h0
    have hcast : ((i + 1 : Nat) : Int) = (i : Int) + 1 := by omega
    rw [hcast] at IA IB
    have ea : abz (N % rat f i) = N % rat f i := abz_of hr0
    have eb : abz (N % rat f i - rat f i) = rat f i - N % rat f i := by unfold abz; omega
    have WA := Lib.hid (fun w => with_any (shP (tkL f k (i + 1) (N / rat f i)) (i + 1)) (shT (tkL f k (i + 1) (N / rat f i)) (i + 1)) i (by omega) (N % rat f i) false w)
    have WB := Lib.hid (fun w => with_any (shP (tkL f k (i + 1) (N / rat f i + 1)) (i + 1)) (shT (tkL f k (i + 1) (N / rat f i + 1)) (i + 1)) i (by omega) (rat f i - N % rat f i) true w)
    have cA := sh_cons (N % rat f i) (tkL f k (i + 1) (N / rat f i)) i
    have cB := sh_cons (N % rat f i - rat f i) (tkL f k (i + 1) (N / rat f i + 1)) i
    rw [ea, decide_eq_false (show ¬ N % rat f i < 0 by omega)] at cA
    rw [eb, decide_eq_true (show N % rat f i - rat f i < 0 by omega)] at cB
    rw [cA] at WA
    rw [cB] at WB
    have LA' : ((N % rat f i) :: tkL f k (i + 1) (N / rat f i)).length = k + 2 := by rw [List.length_cons, LA]
    have LB' : ((N % rat f i - rat f i) :: tkL f k (i + 1) (N / rat f i + 1)).length = k + 2 := by rw [List.length_cons, LB]
    have MA' : ∀ x ∈ ((N % rat f i) :: tkL f k (i + 1) (N / rat f i)), -1000000 ≤ x ∧ x ≤ 1000000 := by
      intro x hx
      rcases List.mem_cons.1 hx with rfl | hx
      · omega
      · exact MA x hx
    have MB' : ∀ x ∈ ((N % rat f i - rat f i) :: tkL f k (i + 1) (N / rat f i + 1)), -1000000 ≤ x ∧ x ≤ 1000000 := by
      intro x hx
      rcases List.mem_cons.1 hx with rfl | hx
      · omega
      · exact MB x hx
    have ZA := Lib.hid (fun w => size_any (shP ((N % rat f i) :: tkL f k (i + 1) (N / rat f i)) i) w (fun j _ => (sh_bd MA' (by omega) i j).1) (fun j _ => (sh_bd MA' (by omega) i j).2))
    have ZB := Lib.hid (fun w => size_any (shP ((N % rat f i - rat f i) :: tkL f k (i + 1) (N / rat f i + 1)) i) w (fun j _ => (sh_bd MB' (by omega) i j).1) (fun j _ => (sh_bd MB' (by omega) i j).2))
    rw [sh_size _ i (by rw [LA']; omega)] at ZA
    rw [sh_size _ i (by rw [LB']; omega)] at ZB
    clear LA LB MA MB cA cB LA' LB' MA' MB' ea eb hcast
    generalize tkL f (k + 1) i N = R at *
    generalize hlA : ((N % rat f i) :: tkL f k (i + 1) (N / rat f i)) = lA at *
    generalize hlB : ((N % rat f i - rat f i) :: tkL f k (i + 1) (N / rat f i + 1)) = lB at *
    clear hlA hlB
    have HIA : Hid (shA (tkL f k (i + 1) (N / rat f i)) (i + 1) = sgA (shP (tkL f k (i + 1) (N / rat f i)) (i + 1)) (shT (tkL f k (i + 1) (N / rat f i)) (i + 1))) := Lib.hid rfl
    have HIB : Hid (shA (tkL f k (i + 1) (N / rat f i + 1)) (i + 1) = sgA (shP (tkL f k (i + 1) (N / rat f i + 1)) (i + 1)) (shT (tkL f k (i + 1) (N / rat f i + 1)) (i + 1))) := Lib.hid rfl
    rw [HIA.out] at IA
    rw [HIB.out] at IB
    generalize sgA (shP (tkL f k (i + 1) (N / rat f i)) (i + 1)) (shT (tkL f k (i + 1) (N / rat f i)) (i + 1)) = TA at *
    generalize sgA (shP (tkL f k (i + 1) (N / rat f i + 1)) (i + 1)) (shT (tkL f k (i + 1) (N / rat f i + 1)) (i + 1)) = TB at *
    clear HIA HIB
    have HAA : Hid (shA lA i = (vals (sgV (shP lA i) (shT lA i)) 12).toArray) := Lib.hid rfl
    have HAB : Hid (shA lB i = (vals (sgV (shP lB i) (shT lB i)) 12).toArray) := Lib.hid rfl
    have HNA := Lib.hid (sg_num6 (shP lA i) (shT lA i))
    have HNB := Lib.hid (sg_num6 (shP lB i) (shT lB i))
    have HVA : Hid ((vals (fun j => sgV (shP lA i) (shT lA i) (0 + j)) 12).toArray = shA lA i) := Lib.hid (sg_all _ _)
    have HVB : Hid ((vals (fun j => sgV (shP lB i) (shT lB i) (0 + j)) 12).toArray = shA lB i) := Lib.hid (sg_all _ _)
    have HRA : Hid (¬ szL lB < szL lA → shA R i = shA lA i) := Lib.hid (fun h => by rw [HT.out, if_neg h])
    have HRB : Hid (szL lB < szL lA → shA R i = shA lB i) := Lib.hid (fun h => by rw [HT.out, if_pos h])
    clear HT
    obtain ⟨w1, hw1, hb1, hb2, hbel, hsz⟩ := boxes w (arr7 f n) zero12 41 50
    have HF1 : Hid (SF w f n w1) := Lib.hid ⟨hb1, by rw [zero12_eq] at hb2; exact hb2, hbel⟩
    have hc6 : w1.cell? ⟨w.heap.size, 6, none⟩ = some (.int .i64 n) := by
      have h := HF1.out.1.cell 6 (by omega)
      rw [sysF_count f n hn] at h; exact h
    have hci : w1.cell? ⟨w.heap.size, i, none⟩ = some (.int .i64 (f i)) := by
      have h := HF1.out.1.cell i (by omega)
      rw [sysF_at f n i (by omega)] at h; exact h
    have hcj : w1.cell? ⟨w.heap.size, i + 1, none⟩ = some (.int .i64 (f (i + 1))) := by
      have h := HF1.out.1.cell (i + 1) (by omega)
      rw [sysF_at f n (i + 1) (by omega)] at h; exact h
    have hi6 : i + 1 < 6 := by omega
    have hi5 : i < 6 := by omega
    have hq : ((i : Int) == (n : Int) - 1) = false := by rw [beq_eq_false_iff_ne]; omega
    have HYv : Hid ((vals (fun j => (fun k => Value.int .i64 (sysF f n k)) (0 + j)) 7).toArray = arr7 f n) := Lib.hid (by simp only [Nat.zero_add]; rfl)
    have hz : ¬ f i = 0 := by omega
    have hz2 : ¬ rat f i = 0 := by omega
    clear hb1 hb2 hbel hsz hi hs hf
    generalize shA R i = AR at *
    generalize shA lA i = AA at *
    generalize shA lB i = AB at *
    generalize arr6 (shP lA i) = NA at *
    generalize arr6 (shP lB i) = NB at *
    generalize szL lA = zA at *
    generalize szL lB = zB at *
    generalize arr7 f n = Y at *
    unfold zero12 at hw1
    have Hw1 := Lib.hid hw1
    clear hw1
    generalize N / rat f i = q at *
    generalize N % rat f i = r at *
    generalize rat f i = s at *
    generalize f (i + 1) = y at *
    generalize f i = x at *
    go_enter Tryd.func66, Tryd.ntmps66
    go_wp2_with (first
      | ((with_reducible refine here ⟨some 13, .load _ _, _, _, _, _⟩ ?_)
         rw [← Hw1.out]))
    go_quiet (fail)
    have HFw3 : Hid (SF w f n (w1.drewN nq)) := Lib.hid ⟨HF1.out.1, HF1.out.2.1, bel_drewN HF1.out.2.2 nq⟩
    clear hc6 hci hcj
    generalize w1.drewN nq = w3 at *
    go_upto_region 5 with fail
    go_cut [9] (fun s9 wx => ∃ g, s9 = .pointer (some ⟨g, 0, none⟩) ∧ SF w f n wx ∧ w.heap.size + 1 < g ∧ Sg wx g (shP lA i) (shT lA i))
    case first =>

      have HFv0 : Hid (SF w f n (World.drew w3)) := Lib.hid ⟨HFw3.out.1, HFw3.out.2.1, HFw3.out.2.2.drew⟩
      refine wp_region_held_drew (S := fun w' => SF w f n w') (by kernel_rfl) HFv0.out (fun hH => ?_)
      generalize World.drew w3 = v0 at *
      refine wpAnyH_take (i := 0) rfl (by kernel_rfl) (by kernel_rfl) (by kernel_rfl) (fun _ _ _ h => h) (yields_load_as rfl 41 (.tmp 3) rfl 41 w.heap.size 7 0 7 (fun k => .int .i64 (sysF f n k)) _ Y HYv.out rfl (fun _ h => h.1) (by omega) Tryd.underlying41 rfl szSys) hH ?_
      try simp only [Act.put, List.setIfInBounds_toArray, List.set_cons_zero, List.set_cons_succ]
      refine wpAnyH_take (i := 1) (v := ?_) rfl (by kernel_rfl) (by kernel_rfl) (by kernel_rfl) (fun _ _ _ h => h) (Or.inl ⟨by rfl, ?_⟩) hH ?_
      rotate_left
      · intro w _; go_simp; try with_reducible rfl
      try simp only [Act.put, List.setIfInBounds_toArray, List.set_cons_zero, List.set_cons_succ]
      refine wpAnyH_take (i := 2) (v := ?_) rfl (by kernel_rfl) (by kernel_rfl) (by kernel_rfl) (fun _ _ _ h => h) (Or.inl ⟨by rfl, ?_⟩) hH ?_
      rotate_left
      · intro w _; go_simp; try with_reducible rfl
      try simp only [Act.put, List.setIfInBounds_toArray, List.set_cons_zero, List.set_cons_succ]
      refine wpAnyH_take (i := 3) (v := ?_) rfl (by kernel_rfl) (by kernel_rfl) (by kernel_rfl) (fun _ _ _ h => h) (Or.inl ⟨by rfl, ?_⟩) hH ?_
      rotate_left
      · intro w _; go_simp; try with_reducible rfl
      try simp only [Act.put, List.setIfInBounds_toArray, List.set_cons_zero, List.set_cons_succ]
      refine wpAnyH_take (i := 4) (v := ?_) rfl (by kernel_rfl) (by kernel_rfl) (by kernel_rfl) (fun _ _ _ h => h) (Or.inl ⟨by rfl, ?_⟩) hH ?_
      rotate_left
      · intro w _; go_simp; try with_reducible rfl
      try simp only [Act.put, List.setIfInBounds_toArray, List.set_cons_zero, List.set_cons_succ]
      refine wpAnyH_take (i := 5) (v := ?_) rfl (by kernel_rfl) (by kernel_rfl) (by kernel_rfl) (fun _ _ _ h => h) (Or.inl ⟨by rfl, ?_⟩) hH ?_
      rotate_left
      · intro w _; go_simp; try with_reducible rfl
      try simp only [Act.put, List.setIfInBounds_toArray, List.set_cons_zero, List.set_cons_succ]
      refine wpAnyH_take (i := 7) (v := ?_) rfl (by kernel_rfl) (by kernel_rfl) (by kernel_rfl) (fun _ _ _ h => h) (Or.inl ⟨by rfl, ?_⟩) hH ?_
      rotate_left
      · intro w _; go_simp; try with_reducible rfl
      try simp only [Act.put, List.setIfInBounds_toArray, List.set_cons_zero, List.set_cons_succ]
      refine wpAnyH_take (i := 8) (v := ?_) rfl (by kernel_rfl) (by kernel_rfl) (by kernel_rfl) (fun _ _ _ h => h) (Or.inl ⟨by rfl, ?_⟩) hH ?_
      rotate_left
      · intro w _; go_simp; try with_reducible rfl
      try simp only [Act.put, List.setIfInBounds_toArray, List.set_cons_zero, List.set_cons_succ]
      refine wpAnyH_ready (rs := [6, 10]) (by kernel_rfl) (by simp) ?_
      refine AllReadyH.cons rfl (fun K hK => ?_) ( AllReadyH.cons rfl (fun K hK => ?_) AllReadyH.nil)
      · go_simp
        refine (IA.out _).mono ?_
        rintro e v1 ⟨rfl, gg⟩
        have HFv1 := Lib.hid (HFv0.out.below gg)
        clear gg
        refine hK.out _ _ HFv1.out (fun hH => ?_)
        clear hK K
        try simp only [Act.put, List.setIfInBounds_toArray, List.set_cons_zero, List.set_cons_succ]
        refine wpAnyH_ready (rs := [9, 10]) (by kernel_rfl) (by simp) ?_
        refine AllReadyH.cons rfl (fun K hK => ?_) ( AllReadyH.cons rfl (fun K hK => ?_) AllReadyH.nil)
        · go_simp
          refine (WA.out _).mono ?_
          rintro e v2 ⟨rfl, gg⟩
          have HFv2 := Lib.hid (HFv1.out.below gg)
          clear gg
          refine hK.out _ _ HFv2.out (fun hH => ?_)
          clear hK K
          try simp only [Act.put, List.setIfInBounds_toArray, List.set_cons_zero, List.set_cons_succ]
          refine wpAnyH_ready (rs := [10]) (by kernel_rfl) (by simp) ?_
          refine AllReadyH.cons rfl (fun K hK => ?_) AllReadyH.nil
          go_simp
          have HFv3 := Lib.hid (HFv2.out.alloc (.cells zero12 50))
          have HGv3 := Lib.hid (sg_zero v2)
          have hgt := HFv2.out.lt
          unfold zero12 at HFv3 HGv3
          refine hK.out _ _ HFv3.out (fun hH => ?_)
          generalize v2.alloc (.cells #[.int .i64 0, .int .i64 0, .int .i64 0, .int .i64 0, .int .i64 0, .int .i64 0, .bool false, .bool false, .bool false, .bool false, .bool false, .bool false] 50) = v3 at *
          clear hK K
          try simp only [Act.put, List.setIfInBounds_toArray, List.set_cons_zero, List.set_cons_succ]
          refine wpAnyH_ready (rs := [11]) (by kernel_rfl) (by simp) ?_
          refine AllReadyH.cons rfl (fun K hK => ?_) AllReadyH.nil
          refine step_store_vals rfl 50 (.tmp 9) (.tmp 42) rfl 50 v2.heap.size 12 0 12 _ (sgV (shP lA i) (shT lA i)) rfl (by rw [← HAA.out]; rfl) HGv3.out (by omega) szSg (sgV_one _ _ 12) ?_
          intro v4 hb hm
          have HGv4 : Hid (Sg v4 (v2.heap.size) (shP lA i) (shT lA i)) := Lib.hid (VRow.congr hb (fun j hj => ovr_all _ _ 12 j hj))
          have HFv4 := Lib.hid (HFv3.out.mid hm hgt)
          clear hb hm
          refine hK.out _ _ HFv4.out (fun hH => ?_)
          clear hK K
          try simp only [Act.put, List.setIfInBounds_toArray, List.set_cons_zero, List.set_cons_succ]
          refine wpAnyH_done (by kernel_rfl) ?_ _
          clear hH
          go_wp2_with fail
          go_meet
          exact ⟨_, rfl, HFv4.out, hgt, HGv4.out⟩
        · go_simp
          have HFv2 := Lib.hid (HFv1.out.alloc (.cells zero12 50))
          have HGv2 := Lib.hid (sg_zero v1)
          have hgt := HFv1.out.lt
          unfold zero12 at HFv2 HGv2
          refine hK.out _ _ HFv2.out (fun hH => ?_)
          generalize v1.alloc (.cells #[.int .i64 0, .int .i64 0, .int .i64 0, .int .i64 0, .int .i64 0, .int .i64 0, .bool false, .bool false, .bool false, .bool false, .bool false, .bool false] 50) = v2 at *
          clear hK K
          try simp only [Act.put, List.setIfInBounds_toArray, List.set_cons_zero, List.set_cons_succ]
          refine wpAnyH_ready (rs := [9]) (by kernel_rfl) (by simp) ?_
          refine AllReadyH.cons rfl (fun K hK => ?_) AllReadyH.nil
          go_simp
          refine (WA.out _).mono ?_
          rintro e v3 ⟨rfl, gg⟩
          have HFv3 := Lib.hid (HFv2.out.below gg)
          have HGv3 := Lib.hid (VRow.below HGv2.out gg)
          clear gg
          refine hK.out _ _ HFv3.out (fun hH => ?_)
          clear hK K
          try simp only [Act.put, List.setIfInBounds_toArray, List.set_cons_zero, List.set_cons_succ]
          refine wpAnyH_ready (rs := [11]) (by kernel_rfl) (by simp) ?_
          refine AllReadyH.cons rfl (fun K hK => ?_) AllReadyH.nil
          refine step_store_vals rfl 50 (.tmp 9) (.tmp 42) rfl 50 v1.heap.size 12 0 12 _ (sgV (shP lA i) (shT lA i)) rfl (by rw [← HAA.out]; rfl) HGv3.out (by omega) szSg (sgV_one _ _ 12) ?_
          intro v4 hb hm
          have HGv4 : Hid (Sg v4 (v1.heap.size) (shP lA i) (shT lA i)) := Lib.hid (VRow.congr hb (fun j hj => ovr_all _ _ 12 j hj))
          have HFv4 := Lib.hid (HFv3.out.mid hm hgt)
          clear hb hm
          refine hK.out _ _ HFv4.out (fun hH => ?_)
          clear hK K
          try simp only [Act.put, List.setIfInBounds_toArray, List.set_cons_zero, List.set_cons_succ]
          refine wpAnyH_done (by kernel_rfl) ?_ _
          clear hH
          go_wp2_with fail
          go_meet
          exact ⟨_, rfl, HFv4.out, hgt, HGv4.out⟩
      · go_simp
        have HFv1 := Lib.hid (HFv0.out.alloc (.cells zero12 50))
        have HGv1 := Lib.hid (sg_zero v0)
        have hgt := HFv0.out.lt
        unfold zero12 at HFv1 HGv1
        refine hK.out _ _ HFv1.out (fun hH => ?_)
        generalize v0.alloc (.cells #[.int .i64 0, .int .i64 0, .int .i64 0, .int .i64 0, .int .i64 0, .int .i64 0, .bool false, .bool false, .bool false, .bool false, .bool false, .bool false] 50) = v1 at *
        clear hK K
        try simp only [Act.put, List.setIfInBounds_toArray, List.set_cons_zero, List.set_cons_succ]
        refine wpAnyH_ready (rs := [6]) (by kernel_rfl) (by simp) ?_
        refine AllReadyH.cons rfl (fun K hK => ?_) AllReadyH.nil
        go_simp
        refine (IA.out _).mono ?_
        rintro e v2 ⟨rfl, gg⟩
        have HFv2 := Lib.hid (HFv1.out.below gg)
        have HGv2 := Lib.hid (VRow.below HGv1.out gg)
        clear gg
        refine hK.out _ _ HFv2.out (fun hH => ?_)
        clear hK K
        try simp only [Act.put, List.setIfInBounds_toArray, List.set_cons_zero, List.set_cons_succ]
        refine wpAnyH_ready (rs := [9]) (by kernel_rfl) (by simp) ?_
        refine AllReadyH.cons rfl (fun K hK => ?_) AllReadyH.nil
        go_simp
        refine (WA.out _).mono ?_
        rintro e v3 ⟨rfl, gg⟩
        have HFv3 := Lib.hid (HFv2.out.below gg)
        have HGv3 := Lib.hid (VRow.below HGv2.out gg)
        clear gg
        refine hK.out _ _ HFv3.out (fun hH => ?_)
        clear hK K
        try simp only [Act.put, List.setIfInBounds_toArray, List.set_cons_zero, List.set_cons_succ]
        refine wpAnyH_ready (rs := [11]) (by kernel_rfl) (by simp) ?_
        refine AllReadyH.cons rfl (fun K hK => ?_) AllReadyH.nil
        refine step_store_vals rfl 50 (.tmp 9) (.tmp 42) rfl 50 v0.heap.size 12 0 12 _ (sgV (shP lA i) (shT lA i)) rfl (by rw [← HAA.out]; rfl) HGv3.out (by omega) szSg (sgV_one _ _ 12) ?_
        intro v4 hb hm
        have HGv4 : Hid (Sg v4 (v0.heap.size) (shP lA i) (shT lA i)) := Lib.hid (VRow.congr hb (fun j hj => ovr_all _ _ 12 j hj))
        have HFv4 := Lib.hid (HFv3.out.mid hm hgt)
        clear hb hm
        refine hK.out _ _ HFv4.out (fun hH => ?_)
        clear hK K
        try simp only [Act.put, List.setIfInBounds_toArray, List.set_cons_zero, List.set_cons_succ]
        refine wpAnyH_done (by kernel_rfl) ?_ _
        clear hH
        go_wp2_with fail
        go_meet
        exact ⟨_, rfl, HFv4.out, hgt, HGv4.out⟩
    case rest =>
      obtain ⟨gA, rfl, hsf, hga, hsg⟩ := hcut
      generalize wc = w5 at *
      have HFw5 := Lib.hid hsf; have HXw5 := Lib.hid hsg
      clear hsf hsg
      go_upto_region 6 with fail
      go_cut [10] (fun s10 wx => ∃ g, s10 = .pointer (some ⟨g, 0, none⟩) ∧ SF w f n wx ∧ w.heap.size + 1 < g ∧ Sg wx g (shP lB i) (shT lB i) ∧ Sg wx gA (shP lA i) (shT lA i))
      case first =>
        have HFv0 : Hid (SF w f n (World.drew w5)) := Lib.hid ⟨HFw5.out.1, HFw5.out.2.1, HFw5.out.2.2.drew⟩
        have HXv0 : Hid (Sg (World.drew w5) gA (shP lA i) (shT lA i)) := Lib.hid HXw5.out
        refine wp_region_held_drew (S := fun w' => SF w f n w' ∧ Sg w' gA (shP lA i) (shT lA i)) (by kernel_rfl) ⟨HFv0.out, HXv0.out⟩ (fun hH => ?_)
        generalize World.drew w5 = v0 at *
        refine wpAnyH_take (i := 0) rfl (by kernel_rfl) (by kernel_rfl) (by kernel_rfl) (fun _ _ _ h => h) (yields_load_as rfl 41 (.tmp 3) rfl 41 w.heap.size 7 0 7 (fun k => .int .i64 (sysF f n k)) _ Y HYv.out rfl (fun _ h => h.1.1) (by omega) Tryd.underlying41 rfl szSys) hH ?_
        try simp only [Act.put, List.setIfInBounds_toArray, List.set_cons_zero, List.set_cons_succ]
        refine wpAnyH_take (i := 1) (v := ?_) rfl (by kernel_rfl) (by kernel_rfl) (by kernel_rfl) (fun _ _ _ h => h) (Or.inl ⟨by rfl, ?_⟩) hH ?_
        rotate_left
        · intro w _; go_simp; try with_reducible rfl
        try simp only [Act.put, List.setIfInBounds_toArray, List.set_cons_zero, List.set_cons_succ]
        refine wpAnyH_take (i := 2) (v := ?_) rfl (by kernel_rfl) (by kernel_rfl) (by kernel_rfl) (fun _ _ _ h => h) (Or.inl ⟨by rfl, ?_⟩) hH ?_
        rotate_left
        · intro w _; go_simp; try with_reducible rfl
        try simp only [Act.put, List.setIfInBounds_toArray, List.set_cons_zero, List.set_cons_succ]
        refine wpAnyH_take (i := 3) (v := ?_) rfl (by kernel_rfl) (by kernel_rfl) (by kernel_rfl) (fun _ _ _ h => h) (Or.inl ⟨by rfl, ?_⟩) hH ?_
        rotate_left
        · intro w _; go_simp; try with_reducible rfl
        try simp only [Act.put, List.setIfInBounds_toArray, List.set_cons_zero, List.set_cons_succ]
        refine wpAnyH_take (i := 4) (v := ?_) rfl (by kernel_rfl) (by kernel_rfl) (by kernel_rfl) (fun _ _ _ h => h) (Or.inl ⟨by rfl, ?_⟩) hH ?_
        rotate_left
        · intro w _; go_simp; try with_reducible rfl
        try simp only [Act.put, List.setIfInBounds_toArray, List.set_cons_zero, List.set_cons_succ]
        refine wpAnyH_take (i := 5) (v := ?_) rfl (by kernel_rfl) (by kernel_rfl) (by kernel_rfl) (fun _ _ _ h => h) (Or.inl ⟨by rfl, ?_⟩) hH ?_
        rotate_left
        · intro w _; go_simp; try with_reducible rfl
        try simp only [Act.put, List.setIfInBounds_toArray, List.set_cons_zero, List.set_cons_succ]
        refine wpAnyH_take (i := 6) (v := ?_) rfl (by kernel_rfl) (by kernel_rfl) (by kernel_rfl) (fun _ _ _ h => h) (Or.inl ⟨by rfl, ?_⟩) hH ?_
        rotate_left
        · intro w _; go_simp; try with_reducible rfl
        try simp only [Act.put, List.setIfInBounds_toArray, List.set_cons_zero, List.set_cons_succ]
        refine wpAnyH_take (i := 8) (v := ?_) rfl (by kernel_rfl) (by kernel_rfl) (by kernel_rfl) (fun _ _ _ h => h) (Or.inl ⟨by rfl, ?_⟩) hH ?_
        rotate_left
        · intro w _; go_simp; try with_reducible rfl
        try simp only [Act.put, List.setIfInBounds_toArray, List.set_cons_zero, List.set_cons_succ]
        refine wpAnyH_take (i := 9) (v := ?_) rfl (by kernel_rfl) (by kernel_rfl) (by kernel_rfl) (fun _ _ _ h => h) (Or.inl ⟨by rfl, ?_⟩) hH ?_
        rotate_left
        · intro w _; go_simp; try with_reducible rfl
        try simp only [Act.put, List.setIfInBounds_toArray, List.set_cons_zero, List.set_cons_succ]
        refine wpAnyH_take (i := 10) (v := ?_) rfl (by kernel_rfl) (by kernel_rfl) (by kernel_rfl) (fun _ _ _ h => h) (Or.inl ⟨by rfl, ?_⟩) hH ?_
        rotate_left
        · intro w _; go_simp; try with_reducible rfl
        try simp only [Act.put, List.setIfInBounds_toArray, List.set_cons_zero, List.set_cons_succ]
        refine wpAnyH_take (i := 11) (v := ?_) rfl (by kernel_rfl) (by kernel_rfl) (by kernel_rfl) (fun _ _ _ h => h) (Or.inl ⟨by rfl, ?_⟩) hH ?_
        rotate_left
        · intro w _; go_simp; try with_reducible rfl
        try simp only [Act.put, List.setIfInBounds_toArray, List.set_cons_zero, List.set_cons_succ]
        refine wpAnyH_ready (rs := [7, 13]) (by kernel_rfl) (by simp) ?_
        refine AllReadyH.cons rfl (fun K hK => ?_) ( AllReadyH.cons rfl (fun K hK => ?_) AllReadyH.nil)
        · go_simp
          refine (IB.out _).mono ?_
          rintro e v1 ⟨rfl, gg⟩
          have HFv1 := Lib.hid (HFv0.out.below gg)
          have HXv1 := Lib.hid (VRow.below HXv0.out gg)
          clear gg
          refine hK.out _ _ ⟨HFv1.out, HXv1.out⟩ (fun hH => ?_)
          clear hK K
          try simp only [Act.put, List.setIfInBounds_toArray, List.set_cons_zero, List.set_cons_succ]
          refine wpAnyH_ready (rs := [12, 13]) (by kernel_rfl) (by simp) ?_
          refine AllReadyH.cons rfl (fun K hK => ?_) ( AllReadyH.cons rfl (fun K hK => ?_) AllReadyH.nil)
          · go_simp
            refine (WB.out _).mono ?_
            rintro e v2 ⟨rfl, gg⟩
            have HFv2 := Lib.hid (HFv1.out.below gg)
            have HXv2 := Lib.hid (VRow.below HXv1.out gg)
            clear gg
            refine hK.out _ _ ⟨HFv2.out, HXv2.out⟩ (fun hH => ?_)
            clear hK K
            try simp only [Act.put, List.setIfInBounds_toArray, List.set_cons_zero, List.set_cons_succ]
            refine wpAnyH_ready (rs := [13]) (by kernel_rfl) (by simp) ?_
            refine AllReadyH.cons rfl (fun K hK => ?_) AllReadyH.nil
            go_simp
            have HFv3 := Lib.hid (HFv2.out.alloc (.cells zero12 50))
            have HXv3 := Lib.hid (VRow.alloc HXv2.out (.cells zero12 50))
            have HGv3 := Lib.hid (sg_zero v2)
            have hgt := HFv2.out.lt
            unfold zero12 at HFv3 HXv3 HGv3
            refine hK.out _ _ ⟨HFv3.out, HXv3.out⟩ (fun hH => ?_)
            generalize v2.alloc (.cells #[.int .i64 0, .int .i64 0, .int .i64 0, .int .i64 0, .int .i64 0, .int .i64 0, .bool false, .bool false, .bool false, .bool false, .bool false, .bool false] 50) = v3 at *
            clear hK K
            try simp only [Act.put, List.setIfInBounds_toArray, List.set_cons_zero, List.set_cons_succ]
            refine wpAnyH_ready (rs := [14]) (by kernel_rfl) (by simp) ?_
            refine AllReadyH.cons rfl (fun K hK => ?_) AllReadyH.nil
            refine step_store_vals rfl 50 (.tmp 10) (.tmp 55) rfl 50 v2.heap.size 12 0 12 _ (sgV (shP lB i) (shT lB i)) rfl (by rw [← HAB.out]; rfl) HGv3.out (by omega) szSg (sgV_one _ _ 12) ?_
            intro v4 hb hm
            have HGv4 : Hid (Sg v4 (v2.heap.size) (shP lB i) (shT lB i)) := Lib.hid (VRow.congr hb (fun j hj => ovr_all _ _ 12 j hj))
            have HFv4 := Lib.hid (HFv3.out.mid hm hgt)
            have HXv4 := Lib.hid (VRow.mid HXv3.out hm (by have := VRow.lt HXv2.out; omega))
            clear hb hm
            refine hK.out _ _ ⟨HFv4.out, HXv4.out⟩ (fun hH => ?_)
            clear hK K
            try simp only [Act.put, List.setIfInBounds_toArray, List.set_cons_zero, List.set_cons_succ]
            refine wpAnyH_done (by kernel_rfl) ?_ _
            clear hH
            go_wp2_with fail
            go_meet
            exact ⟨_, rfl, HFv4.out, hgt, HGv4.out, HXv4.out⟩
          · go_simp
            have HFv2 := Lib.hid (HFv1.out.alloc (.cells zero12 50))
            have HXv2 := Lib.hid (VRow.alloc HXv1.out (.cells zero12 50))
            have HGv2 := Lib.hid (sg_zero v1)
            have hgt := HFv1.out.lt
            unfold zero12 at HFv2 HXv2 HGv2
            refine hK.out _ _ ⟨HFv2.out, HXv2.out⟩ (fun hH => ?_)
            generalize v1.alloc (.cells #[.int .i64 0, .int .i64 0, .int .i64 0, .int .i64 0, .int .i64 0, .int .i64 0, .bool false, .bool false, .bool false, .bool false, .bool false, .bool false] 50) = v2 at *
            clear hK K
            try simp only [Act.put, List.setIfInBounds_toArray, List.set_cons_zero, List.set_cons_succ]
            refine wpAnyH_ready (rs := [12]) (by kernel_rfl) (by simp) ?_
            refine AllReadyH.cons rfl (fun K hK => ?_) AllReadyH.nil
            go_simp
            refine (WB.out _).mono ?_
            rintro e v3 ⟨rfl, gg⟩
            have HFv3 := Lib.hid (HFv2.out.below gg)
            have HXv3 := Lib.hid (VRow.below HXv2.out gg)
            have HGv3 := Lib.hid (VRow.below HGv2.out gg)
            clear gg
            refine hK.out _ _ ⟨HFv3.out, HXv3.out⟩ (fun hH => ?_)
            clear hK K
            try simp only [Act.put, List.setIfInBounds_toArray, List.set_cons_zero, List.set_cons_succ]
            refine wpAnyH_ready (rs := [14]) (by kernel_rfl) (by simp) ?_
            refine AllReadyH.cons rfl (fun K hK => ?_) AllReadyH.nil
            refine step_store_vals rfl 50 (.tmp 10) (.tmp 55) rfl 50 v1.heap.size 12 0 12 _ (sgV (shP lB i) (shT lB i)) rfl (by rw [← HAB.out]; rfl) HGv3.out (by omega) szSg (sgV_one _ _ 12) ?_
            intro v4 hb hm
            have HGv4 : Hid (Sg v4 (v1.heap.size) (shP lB i) (shT lB i)) := Lib.hid (VRow.congr hb (fun j hj => ovr_all _ _ 12 j hj))
            have HFv4 := Lib.hid (HFv3.out.mid hm hgt)
            have HXv4 := Lib.hid (VRow.mid HXv3.out hm (by have := VRow.lt HXv1.out; omega))
            clear hb hm
            refine hK.out _ _ ⟨HFv4.out, HXv4.out⟩ (fun hH => ?_)
            clear hK K
            try simp only [Act.put, List.setIfInBounds_toArray, List.set_cons_zero, List.set_cons_succ]
            refine wpAnyH_done (by kernel_rfl) ?_ _
            clear hH
            go_wp2_with fail
            go_meet
            exact ⟨_, rfl, HFv4.out, hgt, HGv4.out, HXv4.out⟩
        · go_simp
          have HFv1 := Lib.hid (HFv0.out.alloc (.cells zero12 50))
          have HXv1 := Lib.hid (VRow.alloc HXv0.out (.cells zero12 50))
          have HGv1 := Lib.hid (sg_zero v0)
          have hgt := HFv0.out.lt
          unfold zero12 at HFv1 HXv1 HGv1
          refine hK.out _ _ ⟨HFv1.out, HXv1.out⟩ (fun hH => ?_)
          generalize v0.alloc (.cells #[.int .i64 0, .int .i64 0, .int .i64 0, .int .i64 0, .int .i64 0, .int .i64 0, .bool false, .bool false, .bool false, .bool false, .bool false, .bool false] 50) = v1 at *
          clear hK K
          try simp only [Act.put, List.setIfInBounds_toArray, List.set_cons_zero, List.set_cons_succ]
          refine wpAnyH_ready (rs := [7]) (by kernel_rfl) (by simp) ?_
          refine AllReadyH.cons rfl (fun K hK => ?_) AllReadyH.nil
          go_simp
          refine (IB.out _).mono ?_
          rintro e v2 ⟨rfl, gg⟩
          have HFv2 := Lib.hid (HFv1.out.below gg)
          have HXv2 := Lib.hid (VRow.below HXv1.out gg)
          have HGv2 := Lib.hid (VRow.below HGv1.out gg)
          clear gg
          refine hK.out _ _ ⟨HFv2.out, HXv2.out⟩ (fun hH => ?_)
          clear hK K
          try simp only [Act.put, List.setIfInBounds_toArray, List.set_cons_zero, List.set_cons_succ]
          refine wpAnyH_ready (rs := [12]) (by kernel_rfl) (by simp) ?_
          refine AllReadyH.cons rfl (fun K hK => ?_) AllReadyH.nil
          go_simp
          refine (WB.out _).mono ?_
          rintro e v3 ⟨rfl, gg⟩
          have HFv3 := Lib.hid (HFv2.out.below gg)
          have HXv3 := Lib.hid (VRow.below HXv2.out gg)
          have HGv3 := Lib.hid (VRow.below HGv2.out gg)
          clear gg
          refine hK.out _ _ ⟨HFv3.out, HXv3.out⟩ (fun hH => ?_)
          clear hK K
          try simp only [Act.put, List.setIfInBounds_toArray, List.set_cons_zero, List.set_cons_succ]
          refine wpAnyH_ready (rs := [14]) (by kernel_rfl) (by simp) ?_
          refine AllReadyH.cons rfl (fun K hK => ?_) AllReadyH.nil
          refine step_store_vals rfl 50 (.tmp 10) (.tmp 55) rfl 50 v0.heap.size 12 0 12 _ (sgV (shP lB i) (shT lB i)) rfl (by rw [← HAB.out]; rfl) HGv3.out (by omega) szSg (sgV_one _ _ 12) ?_
          intro v4 hb hm
          have HGv4 : Hid (Sg v4 (v0.heap.size) (shP lB i) (shT lB i)) := Lib.hid (VRow.congr hb (fun j hj => ovr_all _ _ 12 j hj))
          have HFv4 := Lib.hid (HFv3.out.mid hm hgt)
          have HXv4 := Lib.hid (VRow.mid HXv3.out hm (by have := VRow.lt HXv0.out; omega))
          clear hb hm
          refine hK.out _ _ ⟨HFv4.out, HXv4.out⟩ (fun hH => ?_)
          clear hK K
          try simp only [Act.put, List.setIfInBounds_toArray, List.set_cons_zero, List.set_cons_succ]
          refine wpAnyH_done (by kernel_rfl) ?_ _
          clear hH
          go_wp2_with fail
          go_meet
          exact ⟨_, rfl, HFv4.out, hgt, HGv4.out, HXv4.out⟩
      case rest =>
        obtain ⟨gB, rfl, hsf, hgb, hsg, hsx⟩ := hcut
        generalize wc = w6 at *
        have HFw6 := Lib.hid hsf; have HXw6 := Lib.hid hsx; have HYw6 := Lib.hid hsg
        clear hsf hsg hsx
        generalize hdz : decide (zB < zA) = dz at *
        have Hdz := Lib.hid hdz
        clear hdz
        go_upto_region 7 with fail
        go_cut [62] (fun s62 wx => s62 = .bool dz ∧ SF w f n wx ∧ Sg wx gB (shP lB i) (shT lB i) ∧ Sg wx gA (shP lA i) (shT lA i))
        case first =>
          have HFv0 : Hid (SF w f n w6.drew) := Lib.hid ⟨HFw6.out.1, HFw6.out.2.1, HFw6.out.2.2.drew⟩
          have HXv0 : Hid (Sg w6.drew gA (shP lA i) (shT lA i)) := Lib.hid HXw6.out
          have HYv0 : Hid (Sg w6.drew gB (shP lB i) (shT lB i)) := Lib.hid HYw6.out
          refine wp_region_held_drew (S := fun w' => SF w f n w' ∧ Sg w' gB (shP lB i) (shT lB i) ∧ Sg w' gA (shP lA i) (shT lA i)) (by kernel_rfl) ⟨HFv0.out, HYv0.out, HXv0.out⟩ (fun hH => ?_)
          generalize w6.drew = v0 at *
          refine wpAnyH_take (i := 0) (v := ?_) rfl (by kernel_rfl) (by kernel_rfl) (by kernel_rfl) (fun _ _ _ h => h) (Or.inl ⟨by rfl, ?_⟩) hH ?_
          rotate_left
          · intro w _; go_simp; try with_reducible rfl
          try simp only [Act.put, List.setIfInBounds_toArray, List.set_cons_zero, List.set_cons_succ]
          refine wpAnyH_take (i := 1) rfl (by kernel_rfl) (by kernel_rfl) (by kernel_rfl) (fun _ _ _ h => h) (yields_load_as rfl 47 (.tmp 56) rfl 50 gB 12 0 6 (sgV (shP lB i) (shT lB i)) _ NB HNB.out rfl (fun _ h => h.2.1) (by omega) Tryd.underlying47 rfl szPile) hH ?_
          try simp only [Act.put, List.setIfInBounds_toArray, List.set_cons_zero, List.set_cons_succ]
          refine wpAnyH_take (i := 3) (v := ?_) rfl (by kernel_rfl) (by kernel_rfl) (by kernel_rfl) (fun _ _ _ h => h) (Or.inl ⟨by rfl, ?_⟩) hH ?_
          rotate_left
          · intro w _; go_simp; try with_reducible rfl
          try simp only [Act.put, List.setIfInBounds_toArray, List.set_cons_zero, List.set_cons_succ]
          refine wpAnyH_take (i := 4) rfl (by kernel_rfl) (by kernel_rfl) (by kernel_rfl) (fun _ _ _ h => h) (yields_load_as rfl 47 (.tmp 59) rfl 50 gA 12 0 6 (sgV (shP lA i) (shT lA i)) _ NA HNA.out rfl (fun _ h => h.2.2) (by omega) Tryd.underlying47 rfl szPile) hH ?_
          try simp only [Act.put, List.setIfInBounds_toArray, List.set_cons_zero, List.set_cons_succ]
          refine wpAnyH_ready (rs := [2]) (by kernel_rfl) (by simp) ?_
          refine AllReadyH.cons rfl (fun K hK => ?_) AllReadyH.nil
          go_simp
          refine (ZB.out _).mono ?_
          rintro e v1 ⟨rfl, gg⟩
          have HFv1 := Lib.hid (HFv0.out.below gg)
          have HXv1 := Lib.hid (VRow.below HXv0.out gg)
          have HYv1 := Lib.hid (VRow.below HYv0.out gg)
          clear gg
          refine hK.out _ _ ⟨HFv1.out, HYv1.out, HXv1.out⟩ (fun hH => ?_)
          clear hK K
          try simp only [Act.put, List.setIfInBounds_toArray, List.set_cons_zero, List.set_cons_succ]
          refine wpAnyH_ready (rs := [5]) (by kernel_rfl) (by simp) ?_
          refine AllReadyH.cons rfl (fun K hK => ?_) AllReadyH.nil
          go_simp
          refine (ZA.out _).mono ?_
          rintro e v2 ⟨rfl, gg⟩
          have HFv2 := Lib.hid (HFv1.out.below gg)
          have HXv2 := Lib.hid (VRow.below HXv1.out gg)
          have HYv2 := Lib.hid (VRow.below HYv1.out gg)
          clear gg
          refine hK.out _ _ ⟨HFv2.out, HYv2.out, HXv2.out⟩ (fun hH => ?_)
          clear hK K
          try simp only [Act.put, List.setIfInBounds_toArray, List.set_cons_zero, List.set_cons_succ]
          refine wpAnyH_ready (rs := [6]) (by kernel_rfl) (by simp) ?_
          refine AllReadyH.cons rfl (fun K hK => ?_) AllReadyH.nil
          go_simp
          rw [Hdz.out]
          refine hK.out _ _ ⟨HFv2.out, HYv2.out, HXv2.out⟩ (fun hH => ?_)
          clear hK K
          try simp only [Act.put, List.setIfInBounds_toArray, List.set_cons_zero, List.set_cons_succ]
          refine wpAnyH_done (by kernel_rfl) ?_ _
          clear hH
          go_wp2_with fail
          go_meet
          exact ⟨rfl, HFv2.out, HYv2.out, HXv2.out⟩
        case rest =>
          obtain ⟨rfl, hsf, hsg, hsx⟩ := hcut
          generalize wc = w7 at *
          have HFw7 := Lib.hid hsf; have HXw7 := Lib.hid hsx; have HYw7 := Lib.hid hsg
          clear hsf hsg hsx
          cases dz with
          | true =>
            have HE := Lib.hid (HRB.out (of_decide_eq_true Hdz.out))
            go_wp2_with (first
              | ((with_reducible refine here ⟨some 63, _, _, _, _, _⟩ ?_)
                 refine wpList_load_vals rfl 50 (.tmp 10) rfl 50 gB 12 0 12 _ _ rfl HYw7.out (by omega) Tryd.underlying50 rfl szSg ?_)
              | ((with_reducible refine here ⟨none, .store 50 (.tmp 6) (.tmp 63), _, _, _, _⟩ ?_)
                 refine wpList_store_vals rfl 50 (.tmp 6) (.tmp 63) rfl 50 (w.heap.size + 1) 12 0 12 _ _ rfl rfl HFw7.out.2.1 (by omega) szSg (fun j hj => sgV_one _ _ 12 (0 + j) (by omega)) ?_
                 intro w8 hb8 hm8
                 have HB8 := Lib.hid hb8; have HM8 := Lib.hid (hm8.bel HFw7.out.2.2 (by omega)); clear hb8 hm8))
            refine bodyPost_ret (results_vals1 Tryd.results66 _ _ 50 (w.heap.size + 1) 12 _ _ rfl HB8.out Tryd.underlying50 rfl szSg) rfl ⟨?_, HM8.out⟩
            rw [HE.out, vals_congr (fun j hj => ovr_all _ _ 12 j hj), HVB.out]
          | false =>
            have HE := Lib.hid (HRA.out (by have := of_decide_eq_false Hdz.out; omega))
            go_wp2_with (first
              | ((with_reducible refine here ⟨some 64, _, _, _, _, _⟩ ?_)
                 refine wpList_load_vals rfl 50 (.tmp 9) rfl 50 gA 12 0 12 _ _ rfl HXw7.out (by omega) Tryd.underlying50 rfl szSg ?_)
              | ((with_reducible refine here ⟨none, .store 50 (.tmp 6) (.tmp 64), _, _, _, _⟩ ?_)
                 refine wpList_store_vals rfl 50 (.tmp 6) (.tmp 64) rfl 50 (w.heap.size + 1) 12 0 12 _ _ rfl rfl HFw7.out.2.1 (by omega) szSg (fun j hj => sgV_one _ _ 12 (0 + j) (by omega)) ?_
                 intro w8 hb8 hm8
                 have HB8 := Lib.hid hb8; have HM8 := Lib.hid (hm8.bel HFw7.out.2.2 (by omega)); clear hb8 hm8))
            refine bodyPost_ret (results_vals1 Tryd.results66 _ _ 50 (w.heap.size + 1) 12 _ _ rfl HB8.out Tryd.underlying50 rfl szSg) rfl ⟨?_, HM8.out⟩
            rw [HE.out, vals_congr (fun j hj => ovr_all _ _ 12 j hj), HVA.out]
theorem shortOf_any (f : Nat → Int) (n : Nat) (N : Int) (w : World) (hs : SysF f n) (hn : n ≤ 6) (hf : ∀ j, j < n → f j ≤ 1000000) (h0 : 0 ≤ N) (h1 : N ≤ 1000000) :
    Calls Tryd.prog 43 #[.agg (arr7 f n), .int .i64 N] w fun e w' => e = .returned (.agg (shA (tkL f (n - 1) 0 N) 0)) ∧ Below w.heap.size w w' := by
  obtain ⟨w1, hw1, hb1, hb2, hbel, hsz⟩ := boxes w (arr7 f n) zero12 41 50
  have HF1 : Hid (SF w f n w1) := Lib.hid ⟨hb1, by rw [zero12_eq] at hb2; exact hb2, hbel⟩
  have hl := hs.len
  have C := Lib.hid (fun w => shortFrom_any f n hs hn hf (n - 1) 0 N w (by omega) h0 h1)
  have HC : Hid (arr7 f n = (intCells (sysF f n) 7).toArray) := Lib.hid rfl
  have HA : Hid (shA (tkL f (n - 1) 0 N) 0 = (vals (sgV (shP (tkL f (n - 1) 0 N) 0) (shT (tkL f (n - 1) 0 N) 0)) 12).toArray) := Lib.hid rfl
  clear hb1 hb2 hbel hsz hs hf
  generalize arr7 f n = Y at *
  generalize shA (tkL f (n - 1) 0 N) 0 = A at *
  generalize shP (tkL f (n - 1) 0 N) 0 = P0 at *
  generalize shT (tkL f (n - 1) 0 N) 0 = T0 at *
  unfold zero12 at hw1
  have Hw1 := Lib.hid hw1
  clear hw1
  go_enter Tryd.func43, Tryd.ntmps43
  go_wp2_with (first
    | ((with_reducible refine here ⟨some 5, _, _, _, _, _⟩ ?_)
       rw [← Hw1.out]
       refine wpList_load_blk rfl 41 (.tmp 2) rfl 41 w.heap.size 7 _ _ rfl HF1.out.1 Tryd.underlying41 rfl szSys ?_
       rw [← HC.out]))
  refine (C.out _).mono ?_
  rintro e w2 ⟨rfl, g2⟩
  have HF2 := Lib.hid (HF1.out.below g2)
  clear g2
  go_wp2_with (first
    | ((with_reducible refine here ⟨none, .store 50 (.tmp 4) (.tmp 7), _, _, _, _⟩ ?_)
       refine wpList_store_vals rfl 50 (.tmp 4) (.tmp 7) rfl 50 (w.heap.size + 1) 12 0 12 _ (sgV P0 T0) rfl (by rw [← HA.out]; rfl) HF2.out.2.1 (by omega) szSg (sgV_one _ _ 12) ?_
       intro w4 hb4 hm4
       have HB4 := Lib.hid hb4; have HM4 := Lib.hid (hm4.bel HF2.out.2.2 (by omega)); clear hb4 hm4))
  refine bodyPost_ret (results_vals1 Tryd.results43 _ _ 50 (w.heap.size + 1) 12 _ _ rfl HB4.out Tryd.underlying50 rfl szSg) rfl ⟨?_, HM4.out⟩
  rw [HA.out, vals_congr (fun j hj => ovr_all _ _ 12 j hj)]
end Go.Proofs.YtgcalmenlcpjpaaDoor
