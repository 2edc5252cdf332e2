/- The model's chapter 2 (package spec): PileOf, l2Value, PileValue, PilePlain, PileSum, PileLess. -/
import Derived.Test.YtbepcmjjgpbgaaaBT
namespace Go.Proofs.Ytbepcmjjgpbgaaa
open Go.RowKit
set_option linter.unusedVariables false
set_option maxRecDepth 100000
/-- does PileOf give a pile? -/
def ofB (f : Nat → Int) (n : Nat) (N : Int) : Bool := sysB f n && decide (0 ≤ N ∧ N ≤ 1000000)
theorem ofB_spec {f : Nat → Int} {n : Nat} {N : Int} : ofB f n N = true ↔ sysB f n = true ∧ 0 ≤ N ∧ N ≤ 1000000 := by
  unfold ofB
  rw [Bool.and_eq_true, decide_eq_true_eq]
/-- a slice and a bool that a call returns: the plain pile of N, or none -/
def PileR (w w' : World) (f : Nat → Int) (n : Nat) (N : Int) (ok : Bool) (e : Ending) : Prop :=
  ∃ (a : Option Addr) (m c : Nat), e = .returned (.tuple #[.slice a m c, .bool ok]) ∧ m = (if ok = true then n else 0) ∧ Res w' w.heap.size w'.heap.size a m (pl f n N) ∧ Below w.heap.size w w'
theorem sPileOf_any (a : Option Addr) (n c : Nat) (f : Nat → Int) (N : Int) (w : World) (h : Ls w a n f) (hn : n ≤ 10000000) :
    Calls Try.prog 25 #[.slice a n c, .int .i64 N] w fun e w' => PileR w w' f n N (ofB f n N) e := by
  have H := Lib.hid h; clear h
  have C1 := Lib.hid (sPileIn_any a n c f w H.out hn)
  by_cases hs : sysB f n = true
  · obtain ⟨s1, s2, s3⟩ := sysB_sys hs
    have S1 := Lib.hid s1; have S3 := Lib.hid s3; clear s1 s3
    rw [hs] at C1
    have C2 := Lib.hid (in_any N 0 1000000)
    by_cases hN : 0 ≤ N ∧ N ≤ 1000000
    · have HO := Lib.hid (ofB_spec.2 ⟨hs, hN⟩)
      obtain ⟨hN0, hN1⟩ := hN
      rw [show decide (0 ≤ N ∧ N ≤ 1000000) = true from decide_eq_true ⟨hN0, hN1⟩] at C2
      clear hs
      go_enter Try.func25, Try.ntmps25
      go_wp2_with fail
      refine C1.out.mono ?_
      rintro e w1 ⟨rfl, g1⟩
      have G1 := Lib.hid g1; clear g1
      go_wp2_with fail
      refine (C2.out _).mono ?_
      rintro e w2 ⟨rfl, rfl⟩
      go_wp2_with fail
      refine (sl2Of_any a n c f N _ (H.out.below G1.out.bel0) S1.out s2 S3.out hN0 hN1).mono ?_
      rintro e w2 ⟨rfl, hown, g2, hsz⟩
      have Hown := Lib.hid hown; have G2 := Lib.hid g2; have Hsz := Lib.hid hsz; clear hown g2 hsz
      go_wp2_with fail
      go_ret2
      refine ⟨_, n, n, by rw [HO.out]; rfl, by rw [HO.out, if_pos rfl], ?_, G1.out.bel0.trans (G2.out.mono (Nat.le_of_eq G1.out.size.symm))⟩
      exact (Hown.out.res).mono (Nat.le_of_eq G1.out.size.symm) (by rw [Hsz.out]; exact Nat.le_refl _)
    · have HO : Hid (ofB f n N = false) := by
        show _ = _
        rw [Bool.eq_false_iff]
        exact fun h => hN (ofB_spec.1 h).2
      rw [show decide (0 ≤ N ∧ N ≤ 1000000) = false from decide_eq_false hN] at C2
      clear hs hN
      go_enter Try.func25, Try.ntmps25
      go_wp2_with fail
      refine C1.out.mono ?_
      rintro e w1 ⟨rfl, g1⟩
      have G1 := Lib.hid g1; clear g1
      go_wp2_with fail
      refine (C2.out _).mono ?_
      rintro e w2 ⟨rfl, rfl⟩
      go_wp2_with fail
      go_ret2
      exact ⟨_, _, _, by rw [HO.out]; rfl, by rw [HO.out]; rfl, Res.none_ _ _ _ _ _, G1.out.bel0.alloc (Nat.le_of_eq G1.out.size.symm) _⟩
  · have HO : Hid (ofB f n N = false) := by
      show _ = _
      rw [Bool.eq_false_iff]
      exact fun h => hs (ofB_spec.1 h).1
    rw [show sysB f n = false by simpa using hs] at C1
    clear hs
    go_enter Try.func25, Try.ntmps25
    go_wp2_with fail
    refine C1.out.mono ?_
    rintro e w1 ⟨rfl, g1⟩
    have G1 := Lib.hid g1; clear g1
    go_wp2_with fail
    go_ret2
    exact ⟨_, _, _, by rw [HO.out]; rfl, by rw [HO.out]; rfl, Res.none_ _ _ _ _ _, G1.out.bel0.alloc (Nat.le_of_eq G1.out.size.symm) _⟩
theorem val_bd {f p : Nat → Int} {n : Nat} (g0 : ∀ j, j < n → 1 ≤ f j) (g1 : ∀ j, j < n → f j ≤ 1000000) (h0 : ∀ j, j < n → 0 ≤ p j) (h1 : ∀ j, j < n → p j ≤ 1000000) (hn : n ≤ 6) (k : Nat) (hk : k ≤ n) :
    0 ≤ val f p k ∧ val f p k ≤ 6000000000000 ∧ (k < n → 0 ≤ f k * p k ∧ f k * p k ≤ 1000000000000) := by
  refine ⟨sumF_nonneg k fun j hj => Int.mul_nonneg (by have := g0 j (by omega); omega) (h0 j (by omega)), ?_, fun hlt => ⟨Int.mul_nonneg (by have := g0 k hlt; omega) (h0 k hlt), ?_⟩⟩
  · have h := val_le (v := f) (p := p) (V := 1000000) (M := 1000000) h0 h1 (fun j hj => by have := g0 j hj; omega) g1 (by omega) k hk
    have : (k : Int) * (1000000 * 1000000) ≤ 6 * (1000000 * 1000000) := Int.mul_le_mul_of_nonneg_right (by omega) (by omega)
    omega
  · have := Int.mul_le_mul_of_nonneg_right (g1 k hlt) (h0 k hlt)
    have := h1 k hlt
    omega
set_option maxHeartbeats 400000 in
theorem sl2Value_any (a b : Option Addr) (n c d : Nat) (f p : Nat → Int) (w : World) (h : Ls w a n f) (h' : Ls w b n p) (hp : pilB f n p n = true) :
    Calls Try.prog 62 #[.slice a n c, .slice b n d] w fun e w' => e = .returned (.int .i64 (val f p n)) ∧ Mid 0 0 w w' := by
  have H := Lib.hid h; have H' := Lib.hid h'; clear h h'
  obtain ⟨s1, s2, s3, _, s4, s5⟩ := pilB_sys hp
  have Bd := Lib.hid (fun k hk => val_bd (p := p) s1.pos s3 s4 s5 s2 k hk)
  clear s1 s3 s4 s5 hp
  go_enter Try.func62, Try.ntmps62
  go_wp2_with fail
  go_loopw [5, 6] (fun x i wr => ∃ k q : Nat, i = .int .i64 k ∧ k ≤ n ∧ x = .int .i64 (val f p k) ∧ wr = w.drewN q) (fun _ i _ => n - (intOf i).toNat)
  case atStart => exact ⟨0, 0, rfl, by omega, rfl, rfl⟩
  case round =>
    obtain ⟨k, q, rfl, hk, rfl, rfl⟩ := hrel
    by_cases hlt : k < n
    · obtain ⟨b1, o1, rfl, hb1, hc1⟩ := H.out k hlt
      obtain ⟨b2, o2, rfl, hb2, hc2⟩ := H'.out k hlt
      obtain ⟨v1, v2, v3⟩ := Bd.out k (by omega)
      obtain ⟨v3, v4⟩ := v3 hlt
      have Hst : Hid (val f p (k + 1) = val f p k + f k * p k) := rfl
      have hw1 : IntKind.i64.wrap (f k * p k) = f k * p k := IntWalk.i64_in _ (by omega)
      have hw2 : IntKind.i64.wrap (val f p k + f k * p k) = val f p k + f k * p k := IntWalk.i64_in _ (by omega)
      generalize val f p k = V at *
      generalize f k = x at *
      generalize p k = y at *
      go_wp2_with fail
      go_quiet (fail)
      go_wp2_with fail
      go_roundw
      case rel => exact ⟨k + 1, _, by go_num, by omega, by rw [Hst.out], rfl⟩
      case measure => simp [intOf]; omega
    · obtain rfl : k = n := by omega
      go_wp2_with fail
      go_ret
      exact ⟨rfl, (Mid.refl _ _ _).drewN _⟩
/-- does PileValue give a value? -/
def valB (f : Nat → Int) (n : Nat) (p : Nat → Int) (m : Nat) : Bool := pilB f n p m && decide (val f p n ≤ 1000000)
theorem valB_spec {f : Nat → Int} {n : Nat} {p : Nat → Int} {m : Nat} : valB f n p m = true ↔ pilB f n p m = true ∧ val f p n ≤ 1000000 := by
  unfold valB
  rw [Bool.and_eq_true, decide_eq_true_eq]
def valR (f : Nat → Int) (n : Nat) (p : Nat → Int) (m : Nat) : Int := if valB f n p m = true then val f p n else 0
theorem ret_int_bool {a b : Int} {x y : Bool} (h : a = b) (k : x = y) : Ending.returned (.tuple #[.int .i64 a, .bool x]) = .returned (.tuple #[.int .i64 b, .bool y]) := by rw [h, k]
theorem sPileValue_any (a b : Option Addr) (n m c d : Nat) (f p : Nat → Int) (w : World) (h : Ls w a n f) (h' : Ls w b m p) (hn : n ≤ 10000000) (hm : m ≤ 10000000) :
    Calls Try.prog 30 #[.slice a n c, .slice b m d] w fun e w' => e = .returned (.tuple #[.int .i64 (valR f n p m), .bool (valB f n p m)]) ∧ Mid 0 0 w w' := by
  have H := Lib.hid h; have H' := Lib.hid h'; clear h h'
  have C1 := Lib.hid (sl2Pile_any a b n m c d f p w H.out H'.out hn hm)
  by_cases hp : pilB f n p m = true
  · obtain rfl : m = n := (pilB_spec.1 hp).2.1
    have C2 : Hid (∀ w1, Mid 0 0 w w1 → Calls Try.prog 62 #[.slice a m c, .slice b m d] w1 fun e w' => e = .returned (.int .i64 (val f p m)) ∧ Mid 0 0 w1 w') := fun w1 g => sl2Value_any a b m c d f p w1 (H.out.below g.bel0) (H'.out.below g.bel0) hp
    rw [hp] at C1
    by_cases hv : val f p m ≤ 1000000
    · have HB := Lib.hid (valB_spec.2 ⟨hp, hv⟩)
      have HV : Hid (valR f m p m = val f p m) := by show _ = _; unfold valR; rw [if_pos HB.out]
      clear hp
      generalize val f p m = V at *
      go_enter Try.func30, Try.ntmps30
      go_wp2_with fail
      refine C1.out.mono ?_
      rintro e w1 ⟨rfl, g1⟩
      have G1 := Lib.hid g1; clear g1
      go_wp2_with fail
      refine (C2.out _ G1.out).mono ?_
      rintro e w2 ⟨rfl, g2⟩
      have G2 := Lib.hid (G1.out.trans g2); clear g2
      go_wp2_with fail
      refine (C2.out _ G2.out).mono ?_
      rintro e w3 ⟨rfl, g3⟩
      have G3 := Lib.hid (G2.out.trans g3); clear g3
      go_wp2_with fail
      go_ret2
      exact ⟨ret_int_bool HV.out.symm HB.out.symm, G3.out⟩
    · have HB : Hid (valB f m p m = false) := by
        show _ = _
        rw [Bool.eq_false_iff]
        exact fun h => hv (valB_spec.1 h).2
      have HV : Hid (valR f m p m = 0) := by show _ = _; unfold valR; rw [HB.out]; rfl
      clear hp
      generalize val f p m = V at *
      go_enter Try.func30, Try.ntmps30
      go_wp2_with fail
      refine C1.out.mono ?_
      rintro e w1 ⟨rfl, g1⟩
      have G1 := Lib.hid g1; clear g1
      go_wp2_with fail
      refine (C2.out _ G1.out).mono ?_
      rintro e w2 ⟨rfl, g2⟩
      have G2 := Lib.hid (G1.out.trans g2); clear g2
      go_wp2_with fail
      go_ret2
      exact ⟨ret_int_bool HV.out.symm HB.out.symm, G2.out⟩
  · have HB : Hid (valB f n p m = false) := by
      show _ = _
      rw [Bool.eq_false_iff]
      exact fun h => hp (valB_spec.1 h).1
    have HV : Hid (valR f n p m = 0) := by show _ = _; unfold valR; rw [HB.out]; rfl
    rw [show pilB f n p m = false by simpa using hp] at C1
    clear hp
    go_enter Try.func30, Try.ntmps30
    go_wp2_with fail
    refine C1.out.mono ?_
    rintro e w1 ⟨rfl, g1⟩
    have G1 := Lib.hid g1; clear g1
    go_wp2_with fail
    go_ret2
    exact ⟨ret_int_bool HV.out.symm HB.out.symm, G1.out⟩
end Go.Proofs.Ytbepcmjjgpbgaaa
