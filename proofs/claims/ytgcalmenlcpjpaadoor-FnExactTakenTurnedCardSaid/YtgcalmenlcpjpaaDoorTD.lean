/- The model's chapter 5 (package spec): TakenOf, TakenValue, TakenSize, TakenSaved. -/
import Derived.Test.YtgcalmenlcpjpaaDoorTC
namespace Go.Proofs.YtgcalmenlcpjpaaDoor
open Go.RowKit
set_option linter.unusedVariables false
set_option maxRecDepth 100000
/-- the numbers of the short pile -/
def tkF (f : Nat → Int) (n : Nat) (N : Int) (j : Nat) : Int := (tkL f (n - 1) 0 N).getD j 0
theorem GrL.rsp {base g cap : Nat} {w : World} {xs : List Int} (h : GrL base w g cap xs) : Rsp w base w.heap.size (some ⟨g, 0, none⟩) xs.length (fun k => xs.getD k 0) := by
  obtain ⟨a, c, e1, _, h3⟩ := Rsp.of_own h
  injection e1 with e3 _ _
  rw [e3]
  exact h3
theorem tkF_len {f : Nat → Int} {n : Nat} {N : Int} (hn : 1 ≤ n) : (tkL f (n - 1) 0 N).length = n := by rw [tkL_len]; omega
theorem sysB_rat {f : Nat → Int} {n : Nat} (h : sysB f n = true) : ∀ j, 0 ≤ j → j < 0 + (n - 1) → 2 ≤ rat f j ∧ rat f j ≤ 1000000 := fun j _ hj => by
  obtain ⟨s1, s2, s3⟩ := sysB_sys h
  exact ⟨s1.rat_two (by omega), Int.le_trans (Int.ediv_le_self _ (by have := s1.pos (j + 1) (by omega); omega)) (s3 (j + 1) (by omega))⟩
theorem tkF_bd {f : Nat → Int} {n : Nat} {N : Int} (h : ofB f n N = true) : ∀ j, j < n → -1000000 ≤ tkF f n N j ∧ tkF f n N j ≤ 1000000 := fun j hj => by
  obtain ⟨h1, h2, h3⟩ := ofB_spec.1 h
  have hl : (tkL f (n - 1) 0 N).length = n := tkF_len (by omega)
  have := tkL_mem f (n - 1) 0 (sysB_rat h1) N h2 h3 ((tkL f (n - 1) 0 N).getD j 0) (by rw [List.getD_eq_getElem?_getD, List.getElem?_eq_getElem (by omega)]; exact List.getElem_mem _)
  exact this
theorem tkF_sz {f : Nat → Int} {n : Nat} {N : Int} (hn : 1 ≤ n) : szF (tkF f n N) n = szL (tkL f (n - 1) 0 N) := by
  rw [szL_szF, tkF_len hn]; rfl
set_option maxHeartbeats 400000 in
theorem sTakenOf_any (a : Option Addr) (n c : Nat) (f : Nat → Int) (N : Int) (w : World) (h : Ls w a n f) (hn : n ≤ 10000000) :
    Calls Tryd.prog 17 #[.slice a n c, .int .i64 N] w fun e w' => RowR w w' (tkF f n N) n (ofB f n N) e := by
  have H := Lib.hid h; clear h
  have C1 := Lib.hid (sPileIn_any a n c f w H.out hn)
  by_cases hs : sysB f n = true
  · obtain ⟨s1, s2, s3⟩ := sysB_sys hs
    have s4 := s1.len
    rw [hs] at C1
    have C2 := Lib.hid (in_any N 0 1000000)
    by_cases hN : 0 ≤ N ∧ N ≤ 1000000
    · have HO := Lib.hid (ofB_spec.2 ⟨hs, hN⟩)
      obtain ⟨hN0, hN1⟩ := hN
      have C3 := Lib.hid (fun w (hw : Ls w a n f) => sl5Of_any a n c f s1 s2 s3 (n - 1) 0 N w (by omega) hN0 hN1 hw)
      rw [show decide (0 ≤ N ∧ N ≤ 1000000) = true from decide_eq_true ⟨hN0, hN1⟩] at C2
      have HL := Lib.hid (tkF_len (f := f) (N := N) s4)
      clear hs s1 s3
      rw [HO.out]
      go_enter Tryd.func17, Tryd.ntmps17
      go_wp2_with fail
      refine C1.out.mono ?_
      rintro e w1 ⟨rfl, g1⟩
      have G1 := Lib.hid g1; clear g1
      go_wp2_with fail
      refine (C2.out _).mono ?_
      rintro e w2 ⟨rfl, rfl⟩
      go_wp2_with fail
      refine (C3.out _ (H.out.below G1.out.bel0)).mono ?_
      rintro e w2 ⟨g, cap, rfl, hg, g2⟩
      have HR : Hid (RowR w w2 (tkF f n N) n true (.returned (.tuple #[.slice (some ⟨g, 0, none⟩) (tkL f (n - 1) 0 N).length cap, .bool true]))) := Lib.hid
        ⟨_, _, _, rfl, by rw [HL.out, if_pos rfl], hg.rsp.mono (Nat.le_of_eq G1.out.size.symm) (Nat.le_refl _), G1.out.bel0.trans (g2.mono (Nat.le_of_eq G1.out.size.symm))⟩
      clear hg g2 C3 C1
      generalize (tkL f (n - 1) 0 N).length = m at *
      go_wp2_with fail
      go_ret2
      exact HR.out
    · have HO : Hid (ofB f n N = false) := by
        show _ = _
        rw [Bool.eq_false_iff]
        exact fun h => hN (ofB_spec.1 h).2
      rw [show decide (0 ≤ N ∧ N ≤ 1000000) = false from decide_eq_false hN] at C2
      clear hs hN s1 s3
      rw [HO.out]
      go_enter Tryd.func17, Tryd.ntmps17
      go_wp2_with fail
      refine C1.out.mono ?_
      rintro e w1 ⟨rfl, g1⟩
      have G1 := Lib.hid g1; clear g1
      go_wp2_with fail
      refine (C2.out _).mono ?_
      rintro e w2 ⟨rfl, rfl⟩
      go_wp2_with fail
      go_ret2
      exact ⟨_, _, _, rfl, rfl, Rsp.none_ _ _ _ _ _, G1.out.bel0.alloc (Nat.le_of_eq G1.out.size.symm) _⟩
  · have HO : Hid (ofB f n N = false) := by
      show _ = _
      rw [Bool.eq_false_iff]
      exact fun h => hs (ofB_spec.1 h).1
    rw [show sysB f n = false by simpa using hs] at C1
    clear hs
    rw [HO.out]
    go_enter Tryd.func17, Tryd.ntmps17
    go_wp2_with fail
    refine C1.out.mono ?_
    rintro e w1 ⟨rfl, g1⟩
    have G1 := Lib.hid g1; clear g1
    go_wp2_with fail
    go_ret2
    exact ⟨_, _, _, rfl, rfl, Rsp.none_ _ _ _ _ _, G1.out.bel0.alloc (Nat.le_of_eq G1.out.size.symm) _⟩
/-- does TakenValue give a value? -/
def tvB (f : Nat → Int) (n : Nat) (p : Nat → Int) (m : Nat) : Bool := sgnB f n p m && decide (-1000000 ≤ val f p n ∧ val f p n ≤ 1000000)
theorem tvB_spec {f : Nat → Int} {n : Nat} {p : Nat → Int} {m : Nat} : tvB f n p m = true ↔ sgnB f n p m = true ∧ -1000000 ≤ val f p n ∧ val f p n ≤ 1000000 := by
  unfold tvB
  rw [Bool.and_eq_true, decide_eq_true_eq]
def tvR (f : Nat → Int) (n : Nat) (p : Nat → Int) (m : Nat) : Int := if tvB f n p m = true then val f p n else 0
theorem sTakenValue_any (a b : Option Addr) (n m c d : Nat) (f p : Nat → Int) (w : World) (h : Ls w a n f) (h' : Ls w b m p) (hn : n ≤ 10000000) (hm : m ≤ 10000000) :
    Calls Tryd.prog 21 #[.slice a n c, .slice b m d] w fun e w' => e = .returned (.tuple #[.int .i64 (tvR f n p m), .bool (tvB f n p m)]) ∧ Mid 0 0 w w' := by
  have H := Lib.hid h; have H' := Lib.hid h'; clear h h'
  have C1 := Lib.hid (sl5Pile_any a b n m c d f p w H.out H'.out hn hm)
  by_cases hp : sgnB f n p m = true
  · obtain rfl : m = n := (sgnB_spec.1 hp).2.1
    have C2 : Hid (∀ w1, Mid 0 0 w w1 → Calls Tryd.prog 52 #[.slice a m c, .slice b m d] w1 fun e w' => e = .returned (.int .i64 (val f p m)) ∧ Mid 0 0 w1 w') := fun w1 g => sl2Value_sgn a b m c d f p w1 (H.out.below g.bel0) (H'.out.below g.bel0) hp
    rw [hp] at C1
    have C3 := Lib.hid (in_any (val f p m) (-1000000) 1000000)
    by_cases hv : -1000000 ≤ val f p m ∧ val f p m ≤ 1000000
    · have HB := Lib.hid (tvB_spec.2 ⟨hp, hv⟩)
      have HV : Hid (tvR f m p m = val f p m) := by show _ = _; unfold tvR; rw [if_pos HB.out]
      rw [show decide (-1000000 ≤ val f p m ∧ val f p m ≤ 1000000) = true from decide_eq_true hv] at C3
      rw [HB.out, HV.out]
      clear hp hv HV
      generalize val f p m = V at *
      go_enter Tryd.func21, Tryd.ntmps21
      go_wp2_with fail
      refine C1.out.mono ?_
      rintro e w1 ⟨rfl, g1⟩
      have G1 := Lib.hid g1; clear g1
      go_wp2_with fail
      refine (C2.out _ G1.out).mono ?_
      rintro e w2 ⟨rfl, g2⟩
      have G2 := Lib.hid (G1.out.trans g2); clear g2
      go_wp2_with fail
      refine (C3.out _).mono ?_
      rintro e w3 ⟨rfl, rfl⟩
      go_wp2_with fail
      refine (C2.out _ G2.out).mono ?_
      rintro e w3 ⟨rfl, g3⟩
      have G3 := Lib.hid (G2.out.trans g3); clear g3
      go_wp2_with fail
      go_ret2
      exact ⟨rfl, G3.out⟩
    · have HB : Hid (tvB f m p m = false) := Lib.hid (by rw [Bool.eq_false_iff]; exact fun h => hv (tvB_spec.1 h).2)
      have HV : Hid (tvR f m p m = 0) := by show _ = _; unfold tvR; rw [HB.out]; rfl
      rw [show decide (-1000000 ≤ val f p m ∧ val f p m ≤ 1000000) = false from decide_eq_false hv] at C3
      rw [HB.out, HV.out]
      clear hp hv HV
      generalize val f p m = V at *
      go_enter Tryd.func21, Tryd.ntmps21
      go_wp2_with fail
      refine C1.out.mono ?_
      rintro e w1 ⟨rfl, g1⟩
      have G1 := Lib.hid g1; clear g1
      go_wp2_with fail
      refine (C2.out _ G1.out).mono ?_
      rintro e w2 ⟨rfl, g2⟩
      have G2 := Lib.hid (G1.out.trans g2); clear g2
      go_wp2_with fail
      refine (C3.out _).mono ?_
      rintro e w3 ⟨rfl, rfl⟩
      go_wp2_with fail
      go_ret2
      exact ⟨rfl, G2.out⟩
  · have HB : Hid (tvB f n p m = false) := Lib.hid (by rw [Bool.eq_false_iff]; exact fun h => hp (tvB_spec.1 h).1)
    have HV : Hid (tvR f n p m = 0) := by show _ = _; unfold tvR; rw [HB.out]; rfl
    rw [show sgnB f n p m = false by simpa using hp] at C1
    rw [HB.out, HV.out]
    clear hp HV
    go_enter Tryd.func21, Tryd.ntmps21
    go_wp2_with fail
    refine C1.out.mono ?_
    rintro e w1 ⟨rfl, g1⟩
    have G1 := Lib.hid g1; clear g1
    go_wp2_with fail
    go_ret2
    exact ⟨rfl, G1.out⟩
/-- the size of a signed pile, 0 of another list -/
def tzR (f : Nat → Int) (n : Nat) (p : Nat → Int) (m : Nat) : Int := if sgnB f n p m = true then szF p n else 0
theorem sTakenSize_any (a b : Option Addr) (n m c d : Nat) (f p : Nat → Int) (w : World) (h : Ls w a n f) (h' : Ls w b m p) (hn : n ≤ 10000000) (hm : m ≤ 10000000) :
    Calls Tryd.prog 24 #[.slice a n c, .slice b m d] w fun e w' => e = .returned (.tuple #[.int .i64 (tzR f n p m), .bool (sgnB f n p m)]) ∧ Mid 0 0 w w' := by
  have H := Lib.hid h; have H' := Lib.hid h'; clear h h'
  have C1 := Lib.hid (sl5Pile_any a b n m c d f p w H.out H'.out hn hm)
  by_cases hp : sgnB f n p m = true
  · obtain ⟨s1, s2, s3, hmn, s4, s5⟩ := sgnB_sys hp
    obtain rfl : m = n := hmn
    have C2 : Hid (∀ w1, Mid 0 0 w w1 → Calls Tryd.prog 54 #[.slice b m d] w1 fun e w' => e = .returned (.int .i64 (szF p m)) ∧ Mid 0 0 w1 w') := fun w1 g => sl5Size_any b m d p w1 (H'.out.below g.bel0) (by omega) (fun j hj => ⟨by have := s4 j hj; omega, by have := s5 j hj; omega⟩)
    have HV : Hid (tzR f m p m = szF p m) := by show _ = _; unfold tzR; rw [if_pos hp]
    rw [HV.out]
    rw [hp] at C1 ⊢
    clear hp HV s1 s3 s4 s5
    generalize szF p m = V at *
    go_enter Tryd.func24, Tryd.ntmps24
    go_wp2_with fail
    refine C1.out.mono ?_
    rintro e w1 ⟨rfl, g1⟩
    have G1 := Lib.hid g1; clear g1
    go_wp2_with fail
    refine (C2.out _ G1.out).mono ?_
    rintro e w2 ⟨rfl, g2⟩
    have G2 := Lib.hid (G1.out.trans g2); clear g2
    go_wp2_with fail
    go_ret2
    exact ⟨rfl, G2.out⟩
  · have HV : Hid (tzR f n p m = 0) := by show _ = _; unfold tzR; rw [if_neg hp]
    rw [HV.out]
    rw [show sgnB f n p m = false by simpa using hp] at C1 ⊢
    clear hp HV
    go_enter Tryd.func24, Tryd.ntmps24
    go_wp2_with fail
    refine C1.out.mono ?_
    rintro e w1 ⟨rfl, g1⟩
    have G1 := Lib.hid g1; clear g1
    go_wp2_with fail
    go_ret2
    exact ⟨rfl, G1.out⟩
end Go.Proofs.YtgcalmenlcpjpaaDoor
