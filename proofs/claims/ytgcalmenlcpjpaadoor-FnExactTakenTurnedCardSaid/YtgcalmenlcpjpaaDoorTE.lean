/- The model's chapter 5 (package spec): TakenSaved, TakenMost, TakenTurned. -/
import Derived.Test.YtgcalmenlcpjpaaDoorTD
namespace Go.Proofs.YtgcalmenlcpjpaaDoor
open Go.RowKit
set_option linter.unusedVariables false
set_option maxRecDepth 100000
/-- how much is saved -/
def svR (f : Nat → Int) (n : Nat) (N : Int) : Int := if ofB f n N = true then szF (pl f n N) n - szF (tkF f n N) n else 0
set_option maxHeartbeats 400000 in
theorem sTakenSaved_any (a : Option Addr) (n c : Nat) (f : Nat → Int) (N : Int) (w : World) (h : Ls w a n f) (hn : n ≤ 10000000) :
    Calls Tryd.prog 28 #[.slice a n c, .int .i64 N] w fun e w' => e = .returned (.tuple #[.int .i64 (svR f n N), .bool (ofB f n N)]) ∧ Below w.heap.size w w' := by
  have H := Lib.hid h; clear h
  have C1 := Lib.hid (sTakenOf_any a n c f N w H.out hn)
  by_cases ho : ofB f n N = true
  · obtain ⟨h1, h2, h3⟩ := ofB_spec.1 ho
    obtain ⟨s1, s2, s3⟩ := sysB_sys h1
    have hbd := tkF_bd ho
    have C2 := Lib.hid (fun w (hw : Ls w a n f) => sl2Of_any a n c f N w hw s1 s2 s3 h2 h3)
    have C3 := Lib.hid (fun (p : Option Addr) (m c : Nat) w (hw : Ls w p n (pl f n N)) => sl5Size_any p n c (pl f n N) w hw (by omega) (fun j hj => ⟨by have := pl_nonneg s1 N h2 j hj; omega, by have := pl_le s1 N h2 j hj; omega⟩))
    have C4 := Lib.hid (fun (p : Option Addr) (c : Nat) w (hw : Ls w p n (tkF f n N)) => sl5Size_any p n c (tkF f n N) w hw (by omega) (fun j hj => by have := hbd j hj; omega))
    have b1 := szF_bd (p := pl f n N) (n := n) (M := 1000000) (fun j hj => ⟨by have := pl_nonneg s1 N h2 j hj; omega, by have := pl_le s1 N h2 j hj; omega⟩) n (Nat.le_refl _)
    have b2 := szF_bd (p := tkF f n N) (n := n) (M := 1000000) (fun j hj => hbd j hj) n (Nat.le_refl _)
    have HV : Hid (svR f n N = szF (pl f n N) n - szF (tkF f n N) n) := by show _ = _; unfold svR; rw [if_pos ho]
    rw [HV.out]
    rw [ho] at C1 ⊢
    clear ho h1 h2 h3 s1 s3 hbd HV
    generalize szF (pl f n N) n = x at *
    generalize szF (tkF f n N) n = y at *
    obtain ⟨b1, b3⟩ := b1
    obtain ⟨b2, b4⟩ := b2
    have b5 : x ≤ 6000000 := by omega
    have b6 : y ≤ 6000000 := by omega
    clear b3 b4
    go_enter Tryd.func28, Tryd.ntmps28
    go_wp2_with fail
    refine C1.out.mono ?_
    rintro e w1 ⟨p, m, c1, rfl, hm, hr, g1⟩
    obtain rfl : n = m := hm.symm
    have G1 := Lib.hid g1; have R1 := Lib.hid hr; clear g1 hr hm C1
    go_wp2_with fail
    refine (C2.out _ (H.out.below G1.out)).mono ?_
    rintro e w2 ⟨rfl, hown, g2, hsz⟩
    have G2 := Lib.hid (G1.out.trans (g2.mono G1.out.size)); have R2 := Lib.hid (R1.out.below g2); have O2 := Lib.hid hown.ls; clear g2 hown hsz R1 C2
    go_wp2_with fail
    refine (C3.out _ n _ _ O2.out).mono ?_
    rintro e w3 ⟨rfl, m3⟩
    have G3 := Lib.hid (G2.out.trans m3.bel0); have R3 := Lib.hid (R2.out.below m3.bel0); clear m3 C3 R2 O2
    go_wp2_with fail
    refine (C4.out _ _ _ R3.out.ls).mono ?_
    rintro e w4 ⟨rfl, m4⟩
    have G4 := Lib.hid (G3.out.trans m4.bel0); clear m4 C4 R3
    go_wp2_with fail
    go_ret2
    exact ⟨rfl, G4.out⟩
  · have ho : ofB f n N = false := by simpa using ho
    have HV : Hid (svR f n N = 0) := by show _ = _; unfold svR; rw [ho]; rfl
    rw [HV.out]
    rw [ho] at C1 ⊢
    clear ho HV
    go_enter Tryd.func28, Tryd.ntmps28
    go_wp2_with fail
    refine C1.out.mono ?_
    rintro e w1 ⟨p, m, c1, rfl, hm, hr, g1⟩
    have G1 := Lib.hid g1; clear g1 hr hm C1
    go_wp2_with fail
    go_ret2
    exact ⟨rfl, G1.out⟩
/-- the first number with the greatest s up to k -/
def bst (s : Nat → Int) : Nat → Nat
  | 0 => 0
  | k + 1 => if s (bst s k) < s (k + 1) then k + 1 else bst s k
theorem bst_le (s : Nat → Int) : ∀ k, bst s k ≤ k
  | 0 => Nat.le_refl _
  | k + 1 => by have := bst_le s k; unfold bst; split <;> omega
theorem bst_most (s : Nat → Int) : ∀ k j, j ≤ k → s j ≤ s (bst s k) ∧ (j < bst s k → s j < s (bst s k))
  | 0, j, h => by obtain rfl : j = 0 := by omega
                  exact ⟨Int.le_refl _, fun h => by simp [bst] at h⟩
  | k + 1, j, h => by
    unfold bst
    split
    · rename_i hlt
      by_cases e : j = k + 1
      · subst e; exact ⟨Int.le_refl _, fun h => by omega⟩
      · have := (bst_most s k j (by omega)).1
        exact ⟨by omega, fun _ => by omega⟩
    · rename_i hlt
      by_cases e : j = k + 1
      · subst e; exact ⟨by omega, fun h => by have := bst_le s k; omega⟩
      · exact bst_most s k j (by omega)
/-- does TakenMost give a number? -/
def mstB (f : Nat → Int) (n : Nat) (N : Int) : Bool := sysB f n && decide (0 ≤ N ∧ N ≤ 2000)
theorem mstB_spec {f : Nat → Int} {n : Nat} {N : Int} : mstB f n N = true ↔ sysB f n = true ∧ 0 ≤ N ∧ N ≤ 2000 := by
  unfold mstB
  rw [Bool.and_eq_true, decide_eq_true_eq]
/-- the size of a number's short pile -/
def sTk (f : Nat → Int) (n : Nat) (k : Nat) : Int := szL (tkL f (n - 1) 0 k)
def mstR (f : Nat → Int) (n : Nat) (N : Int) : Int := if mstB f n N = true then (bst (sTk f n) N.toNat : Nat) else 0
set_option maxHeartbeats 1000000 in
theorem sTakenMost_any (a : Option Addr) (n c : Nat) (f : Nat → Int) (N : Int) (w : World) (h : Ls w a n f) (hn : n ≤ 10000000) :
    Calls Tryd.prog 33 #[.slice a n c, .int .i64 N] w fun e w' => e = .returned (.tuple #[.int .i64 (mstR f n N), .bool (mstB f n N)]) ∧ Below w.heap.size w w' := by
  have H := Lib.hid h; clear h
  have C1 := Lib.hid (sPileIn_any a n c f w H.out hn)
  have C2 := Lib.hid (in_any N 0 2000)
  by_cases hs : sysB f n = true
  · by_cases hN : 0 ≤ N ∧ N ≤ 2000
    · have ho := mstB_spec.2 ⟨hs, hN⟩
      have HV : Hid (mstR f n N = (bst (sTk f n) N.toNat : Nat)) := by show _ = _; unfold mstR; rw [if_pos ho]
      rw [HV.out]
      rw [ho]
      obtain ⟨s1, s2, s3⟩ := sysB_sys hs
      have s4 := s1.len
      obtain ⟨hN0, hN1⟩ := hN
      obtain ⟨K, rfl⟩ := Int.eq_ofNat_of_zero_le hN0
      have hK : K ≤ 2000 := by omega
      rw [hs] at C1
      rw [show decide (0 ≤ (K : Int) ∧ (K : Int) ≤ 2000) = true from decide_eq_true ⟨hN0, hN1⟩] at C2
      have C3 := Lib.hid (fun (j : Nat) (hj : j ≤ 2000) w (hw : Ls w a n f) => sl5Of_any a n c f s1 s2 s3 (n - 1) 0 j w (by omega) (by omega) (by omega) hw)
      have C4 := Lib.hid (fun (j : Nat) (hj : j ≤ 2000) (g cap B : Nat) w (hw : GrL B w g cap (tkL f (n - 1) 0 j)) => by
        have hb := tkF_bd (f := f) (n := n) (N := j) (ofB_spec.2 ⟨hs, by omega, by omega⟩)
        have := sl5Size_any (some ⟨g, 0, none⟩) (tkL f (n - 1) 0 j).length cap (fun i => (tkL f (n - 1) 0 j).getD i 0) w hw.ls (by rw [tkL_len]; omega) (fun i hi => by rw [tkL_len] at hi; have := hb i (by omega); unfold tkF at this; omega)
        rw [← szL_szF] at this
        exact this)
      have Hst := Lib.hid (fun j => show bst (sTk f n) (j + 1) = if sTk f n (bst (sTk f n) j) < sTk f n (j + 1) then j + 1 else bst (sTk f n) j from rfl)
      have Hbl := Lib.hid (bst_le (sTk f n))
      rw [Int.toNat_natCast]
      clear ho hs s1 s3 hN0 hN1 HV
      go_enter Tryd.func33, Tryd.ntmps33
      go_wp2_with fail
      refine C1.out.mono ?_
      rintro e w1 ⟨rfl, g1⟩
      have G1 := Lib.hid g1; clear g1
      go_wp2_with fail
      refine (C2.out _).mono ?_
      rintro e w2 ⟨rfl, rfl⟩
      go_wp2_with fail
      go_loopw [6, 7] (fun x k wr => ∃ j : Nat, k = .int .i64 ((j : Int) + 1) ∧ j ≤ K ∧ x = .int .i64 (bst (sTk f n) j : Nat) ∧ Below w.heap.size w wr) (fun _ k _ => K + 1 - (intOf k).toNat)
      case atStart => exact ⟨0, rfl, by omega, rfl, G1.out.bel0⟩
      case round =>
        clear C1 C2 G1
        obtain ⟨j, rfl, hj, rfl, hbel⟩ := hrel
        have HB := Lib.hid hbel; clear hbel
        have hbj := Hbl.out j
        by_cases hlt : j < K
        · have D1 := Lib.hid (C3.out (j + 1) (by omega) wr (H.out.below HB.out))
          rw [show ((j + 1 : Nat) : Int) = (j : Int) + 1 by omega] at D1
          have D2 := Lib.hid (C4.out (j + 1) (by omega))
          have D3 := Lib.hid (C3.out (bst (sTk f n) j) (by omega))
          have D4 := Lib.hid (C4.out (bst (sTk f n) j) (by omega))
          have HS := Lib.hid (Hst.out j)
          rw [show szL (tkL f (n - 1) 0 ((j + 1 : Nat) : Int)) = sTk f n (j + 1) from rfl] at D2
          rw [show szL (tkL f (n - 1) 0 ((bst (sTk f n) j : Nat) : Int)) = sTk f n (bst (sTk f n) j) from rfl] at D4
          rw [show ((j + 1 : Nat) : Int) = (j : Int) + 1 by omega] at D2
          generalize sTk f n (j + 1) = za at *
          generalize sTk f n (bst (sTk f n) j) = zb at *
          go_wp2_with fail
          refine D1.out.mono ?_
          rintro e w1 ⟨g, cap, rfl, hg, g1⟩
          have G1 := Lib.hid (HB.out.trans (g1.mono HB.out.size)); have R1 := Lib.hid hg; clear hg g1 D1
          go_wp2_with fail
          refine (D2.out _ _ _ _ R1.out).mono ?_
          rintro e w2 ⟨rfl, m2⟩
          have G2 := Lib.hid (G1.out.trans m2.bel0); clear m2 D2 R1
          go_wp2_with fail
          refine (D3.out _ (H.out.below G2.out)).mono ?_
          rintro e w3 ⟨g', cap', rfl, hg, g3⟩
          have G3 := Lib.hid (G2.out.trans (g3.mono G2.out.size)); have R3 := Lib.hid hg; clear hg g3 D3
          go_wp2_with fail
          refine (D4.out _ _ _ _ R3.out).mono ?_
          rintro e w4 ⟨rfl, m4⟩
          have G4 := Lib.hid (G3.out.trans m4.bel0); clear m4 D4 R3
          by_cases hz : zb < za
          · have HS2 : Hid (bst (sTk f n) (j + 1) = j + 1) := Lib.hid (by rw [HS.out, if_pos hz])
            clear HS
            go_wp2_with fail
            go_roundw
            case rel => exact ⟨j + 1, by go_num, by omega, by rw [HS2.out]; go_num, G4.out⟩
            case measure => simp [intOf]; omega
          · have HS2 : Hid (bst (sTk f n) (j + 1) = bst (sTk f n) j) := Lib.hid (by rw [HS.out, if_neg hz])
            clear HS
            go_wp2_with fail
            go_roundw
            case rel => exact ⟨j + 1, by go_num, by omega, by rw [HS2.out], G4.out⟩
            case measure => simp [intOf]; omega
        · obtain rfl : j = K := by omega
          go_wp2_with fail
          go_ret2
          exact ⟨rfl, HB.out⟩
    · have ho : mstB f n N = false := by rw [Bool.eq_false_iff]; exact fun h => hN (mstB_spec.1 h).2
      have HV : Hid (mstR f n N = 0) := by show _ = _; unfold mstR; rw [ho]; rfl
      rw [HV.out, ho]
      rw [hs] at C1
      rw [show decide (0 ≤ N ∧ N ≤ 2000) = false from decide_eq_false hN] at C2
      clear ho HV hs hN
      go_enter Tryd.func33, Tryd.ntmps33
      go_wp2_with fail
      refine C1.out.mono ?_
      rintro e w1 ⟨rfl, g1⟩
      have G1 := Lib.hid g1; clear g1
      go_wp2_with fail
      refine (C2.out _).mono ?_
      rintro e w2 ⟨rfl, rfl⟩
      go_wp2_with fail
      go_ret2
      exact ⟨rfl, G1.out.bel0⟩
  · have ho : mstB f n N = false := by rw [Bool.eq_false_iff]; exact fun h => hs (mstB_spec.1 h).1
    have HV : Hid (mstR f n N = 0) := by show _ = _; unfold mstR; rw [ho]; rfl
    rw [HV.out, ho]
    rw [show sysB f n = false by simpa using hs] at C1
    clear ho HV hs
    go_enter Tryd.func33, Tryd.ntmps33
    go_wp2_with fail
    refine C1.out.mono ?_
    rintro e w1 ⟨rfl, g1⟩
    have G1 := Lib.hid g1; clear g1
    go_wp2_with fail
    go_ret2
    exact ⟨rfl, G1.out.bel0⟩
/-- the first k numbers, turned -/
def tnL (p : Nat → Int) (k : Nat) : List Int := (List.range k).map fun j => -p j
theorem tnL_len (p : Nat → Int) (k : Nat) : (tnL p k).length = k := by simp [tnL]
theorem tnL_succ (p : Nat → Int) (k : Nat) : tnL p (k + 1) = tnL p k ++ [-p k] := by simp [tnL, List.range_succ]
theorem tnL_at (p : Nat → Int) (k j : Nat) (h : j < k) : (tnL p k).getD j 0 = -p j := by simp [tnL, h]
theorem one_int {w : World} {y : Int} : ∀ (j : Nat) u, ([.int .i64 y] : List Value)[j]? = some u → (w.alloc (.cells #[.int .i64 y] 3)).cell? ((⟨w.heap.size, 0, none⟩ : Addr).add j) = some u := by
  intro j u hu
  rcases j with _ | j
  · simp at hu
    subst hu
    exact cell_at (heap_alloc_new w _) rfl
  · simp at hu
theorem cell_int {y : Int} : ∀ u ∈ ([.int .i64 y] : List Value), u.oneCell' = true := by intro u hu; simp at hu; subst hu; rfl
theorem GrL.app {B : Nat} {w0 W w4 : World} {g cap n : Nat} {v' : Value} {xs : List Int} {y : Int} (hL : GrL B W g cap xs) (hn : n = xs.length) (hB : Below B w0 W) (hs : B ≤ W.heap.size) (ho : w4.ownsRow B 3 1 v' (n + 1) (xs.map (Value.int .i64) ++ [.int .i64 y]))
    (hg : W.grownBy w4 (Value.slice (some ⟨g, 0, none⟩) n cap).ownBlock) : ∃ g' cap', v' = .slice (some ⟨g', 0, none⟩) (n + 1) cap' ∧ GrL B w4 g' cap' (xs ++ [y]) ∧ Below B w0 w4 := by
  obtain ⟨g', cap', rfl, _, _⟩ := ho.form (by omega)
  refine ⟨g', cap', rfl, ?_, hB.grown hg hs (fun j hj => (hL.lt j hj).1)⟩
  unfold GrL
  rw [show xs.map (Value.int .i64) ++ [.int .i64 y] = (xs ++ [y]).map (Value.int .i64) by simp] at ho
  rw [show (xs ++ [y]).length = n + 1 by simp [hn]]
  exact ho
set_option maxHeartbeats 400000 in
theorem sTakenTurned_any (a b : Option Addr) (n m c d : Nat) (f p : Nat → Int) (w : World) (h : Ls w a n f) (h' : Ls w b m p) (hn : n ≤ 10000000) (hm : m ≤ 10000000) :
    Calls Tryd.prog 35 #[.slice a n c, .slice b m d] w fun e w' => RowR w w' (fun j => -p j) n (sgnB f n p m) e := by
  have H := Lib.hid h; have H' := Lib.hid h'; clear h h'
  obtain ⟨i0, hi, hz0, hz1, hz2⟩ := info_parts info_int
  have HB0 : Hid (Below w.heap.size w (w.alloc (.cells #[] 3))) := Lib.hid ((Below.refl _ _).alloc (Nat.le_refl _) _)
  have HE0 : Hid (GrL w.heap.size (w.alloc (.cells #[] 3)) w.heap.size 0 []) := Lib.hid (World.ownsRow_lit w #[] 0 (Nat.le_refl _) (by decide) rfl)
  have C1 := Lib.hid (sl5Pile_any a b n m c d f p _ (H.out.below HB0.out) (H'.out.below HB0.out) hn hm)
  by_cases hp : sgnB f n p m = true
  · obtain ⟨s1, s2, s3, hmn, s4, s5⟩ := sgnB_sys hp
    obtain rfl : m = n := hmn
    rw [hp] at C1 ⊢
    have Hb := Lib.hid (fun j (hj : j < m) => (⟨s4 j hj, s5 j hj⟩ : -1000000 ≤ p j ∧ p j ≤ 1000000))
    clear hp s1 s3 s4 s5
    go_enter Tryd.func35, Tryd.ntmps35
    go_wp2_with fail
    refine C1.out.mono ?_
    rintro e w1 ⟨rfl, g1⟩
    have G1 := Lib.hid (HB0.out.trans g1.bel0); have E1 := Lib.hid (HE0.out.below g1.bel0); have HS1 := Lib.hid (HB0.out.trans g1.bel0).size; clear g1 C1 HB0 HE0
    go_wp2_with fail
    go_loopw [6, 7] (fun v i wr => ∃ k g cap : Nat, i = .int .i64 k ∧ k ≤ m ∧ v = .slice (some ⟨g, 0, none⟩) k cap ∧ GrL w.heap.size wr g cap (tnL p k) ∧ Below w.heap.size w wr) (fun _ i _ => m - (intOf i).toNat)
    case atStart => exact ⟨0, _, _, rfl, by omega, rfl, E1.out, G1.out⟩
    case round =>
      clear E1 G1
      obtain ⟨k, g, cap, rfl, hk, rfl, hg, hbel⟩ := hrel
      have HG := Lib.hid hg; have HB := Lib.hid hbel; clear hg hbel
      by_cases hlt : k < m
      · obtain ⟨b1, o1, rfl, hb1, hc1⟩ := H'.out.below HB.out k hlt
        obtain ⟨v1, v2⟩ := Hb.out k hlt
        have Hsu := Lib.hid (tnL_succ p k)
        have Hle := Lib.hid (tnL_len p k)
        generalize p k = y at *
        generalize tnL p k = T at *
        have HA : Hid (GrL w.heap.size (wr.alloc (.cells #[.int .i64 (-y)] 3)) g cap T) := Lib.hid (HG.out.alloc _)
        have HAw : Hid ((wr.alloc (.cells #[.int .i64 (-y)] 3)).ownsRow w.heap.size 3 1 (.slice (some ⟨g, 0, none⟩) k cap) k (T.map (Value.int .i64))) := Lib.hid (by have := HA.out; unfold GrL at this; rwa [Hle.out] at this)
        have HBA : Hid (Below w.heap.size w (wr.alloc (.cells #[.int .i64 (-y)] 3))) := Lib.hid (HB.out.alloc HB.out.size _)
        go_wp2_with (at_builtin; refine wpList_append_own _ rfl _ _ 23 rfl w.heap.size 3 i0 (.int .i64 0) 1 8 Tryd.underlying23 hi hz0 hz1 hz2 rfl (by decide) _ k _ rfl HAw.out ⟨wr.heap.size, 0, none⟩ 1 1 [.int .i64 (-y)] rfl rfl one_int cell_int (by unfold maxLen; omega) (by omega) HBA.out.size ?_
                     intro v' w4 hown4 hg4 _
                     obtain ⟨g', cap', rfl, h5, h6⟩ := HA.out.app Hle.out.symm HBA.out HBA.out.size hown4 hg4
                     have HG4 := Lib.hid h5
                     have HB4 := Lib.hid h6
                     clear h5 h6 hown4 hg4)
        go_roundw
        case rel => exact ⟨k + 1, g', cap', by go_num, by omega, rfl, by rw [Hsu.out]; exact HG4.out, HB4.out⟩
        case measure => simp [intOf]; omega
      · obtain rfl : k = m := by omega
        have HR : Hid (RowR w wr (fun j => -p j) k true (.returned (.tuple #[.slice (some ⟨g, 0, none⟩) k cap, .bool true]))) := Lib.hid ⟨_, _, _, rfl, (if_pos rfl).symm, by
          have := HG.out.rsp
          rw [tnL_len] at this
          exact this.congr fun j hj => tnL_at p k j hj, HB.out⟩
        go_wp2_with fail
        go_ret2
        exact HR.out
  · rw [show sgnB f n p m = false by simpa using hp] at C1 ⊢
    clear hp
    go_enter Tryd.func35, Tryd.ntmps35
    go_wp2_with fail
    refine C1.out.mono ?_
    rintro e w1 ⟨rfl, g1⟩
    have G1 := Lib.hid (HB0.out.trans g1.bel0); clear g1 C1 HB0 HE0
    go_wp2_with fail
    go_ret2
    exact ⟨_, _, _, rfl, rfl, Rsp.none_ _ _ _ _ _, G1.out⟩
end Go.Proofs.YtgcalmenlcpjpaaDoor
