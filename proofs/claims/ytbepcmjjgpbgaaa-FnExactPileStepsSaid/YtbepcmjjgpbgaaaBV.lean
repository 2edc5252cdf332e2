/- The model's chapter 2 (package spec): PilePlain, PileSum, PileLess, PileSize, PileSteps. -/
import Derived.Test.YtbepcmjjgpbgaaaBU
namespace Go.Proofs.Ytbepcmjjgpbgaaa
open Go.RowKit
set_option linter.unusedVariables false
set_option maxRecDepth 100000
/-- is a list a plain pile of a system? -/
def plB (f : Nat → Int) (n : Nat) (p : Nat → Int) (m : Nat) : Bool := pilB f n p m && decide (∀ j, j < n - 1 → p j < rat f j)
theorem plB_spec {f : Nat → Int} {n : Nat} {p : Nat → Int} {m : Nat} : plB f n p m = true ↔ pilB f n p m = true ∧ Plain f p n := by
  unfold plB
  rw [Bool.and_eq_true, decide_eq_true_eq]
  constructor
  · rintro ⟨a, b⟩; exact ⟨a, fun j hj => b j (by omega)⟩
  · rintro ⟨a, b⟩; exact ⟨a, fun j hj => b j (by omega)⟩
theorem quo_bd (x y : Int) (hx : 1 ≤ x) (hy : 1 ≤ y) (hy2 : y ≤ 1000000) : y.tdiv x = y / x ∧ 0 ≤ y / x ∧ y / x ≤ 1000000 :=
  ⟨Int.tdiv_eq_ediv_of_nonneg (by omega), Int.ediv_nonneg (by omega) (by omega), Int.le_trans (Int.ediv_le_self _ (by omega)) hy2⟩
set_option maxHeartbeats 800000 in
theorem sPilePlain_any (a b : Option Addr) (n m c d : Nat) (f p : Nat → Int) (w : World) (h : Ls w a n f) (h' : Ls w b m p) (hn : n ≤ 10000000) (hm : m ≤ 10000000) :
    Calls Try.prog 32 #[.slice a n c, .slice b m d] w fun e w' => e = .returned (.bool (plB f n p m)) ∧ Mid 0 0 w w' := by
  have H := Lib.hid h; have H' := Lib.hid h'; clear h h'
  have C1 := Lib.hid (sl2Pile_any a b n m c d f p w H.out H'.out hn hm)
  by_cases hp : pilB f n p m = true
  · obtain ⟨s1, s2, s3, rfl, s4, s5⟩ := pilB_sys hp
    have S1 := Lib.hid s1; have S3 := Lib.hid s3; have S4 := Lib.hid s4; have S5 := Lib.hid s5; have Hp := Lib.hid hp
    rw [hp] at C1
    have s6 := s1.len
    clear s1 s3 s4 s5 hp
    go_enter Try.func32, Try.ntmps32
    go_wp2_with fail
    refine C1.out.mono ?_
    rintro e w1 ⟨rfl, g1⟩
    have G1 := Lib.hid g1; clear g1
    go_wp2_with fail
    go_loopw [5] (fun i wr => ∃ k q : Nat, i = .int .i64 k ∧ k + 1 ≤ m ∧ wr = w1.drewN q ∧ ∀ j, j < k → p j < rat f j) (fun i _ => m - (intOf i).toNat)
    case atStart => exact ⟨0, 0, rfl, by omega, rfl, fun j hj => by omega⟩
    case round =>
      obtain ⟨k, q, rfl, hk, rfl, hall⟩ := hrel
      have Ha := Lib.hid hall; clear hall
      by_cases hlt : k + 1 < m
      · have hlt' : (k : Int) + 1 < m := by omega
        obtain ⟨b1, o1, rfl, hb1, hc1⟩ := (H.out.below G1.out.bel0).pos (by omega)
        obtain ⟨b2, o2, rfl, hb2, hc2⟩ := H'.out.below G1.out.bel0 k (by omega)
        have hck := hc1 k (by omega)
        have hcl := hc1 (k + 1) hlt
        have x1 := S1.out.pos k (by omega)
        have y1 := S1.out.pos (k + 1) hlt
        have y2 := S3.out (k + 1) hlt
        obtain ⟨q1, q2, q3⟩ := quo_bd (f k) (f (k + 1)) x1 y1 y2
        have Hr : Hid (rat f k = f (k + 1) / f k) := rfl
        clear hc1
        by_cases hpk : p k < rat f k
        · have Ha' : Hid (∀ j, j < k + 1 → p j < rat f j) := fun j hj => by
            by_cases e : j = k
            · subst e; exact hpk
            · exact Ha.out j (by omega)
          rw [Hr.out] at hpk
          have hd : decide (f (k + 1) / f k ≤ p k) = false := decide_eq_false (by omega)
          clear hpk
          generalize f (k + 1) = y at *
          generalize f k = x at *
          go_wp2_with fail
          go_quiet (fail)
          go_wp2_with fail
          go_roundw
          case rel => exact ⟨k + 1, _, by go_num, by omega, rfl, Ha'.out⟩
          case measure => simp [intOf]; omega
        · have HR : Hid (plB f m p m = false) := by
            show _ = _
            rw [Bool.eq_false_iff]
            exact fun h => hpk ((plB_spec.1 h).2 k hlt)
          rw [Hr.out] at hpk
          have hd : decide (f (k + 1) / f k ≤ p k) = true := decide_eq_true (by omega)
          clear hpk
          generalize f (k + 1) = y at *
          generalize f k = x at *
          go_wp2_with fail
          go_quiet (fail)
          go_wp2_with fail
          go_ret
          exact ⟨ret_bool HR.out.symm, (G1.out.drewN _).drewN _⟩
      · have hlt' : ¬ (k : Int) + 1 < m := by omega
        have HR : Hid (plB f m p m = true) := plB_spec.2 ⟨Hp.out, fun j hj => Ha.out j (by omega)⟩
        go_wp2_with fail
        go_ret
        exact ⟨ret_bool HR.out.symm, G1.out.drewN _⟩
  · have HR : Hid (plB f n p m = false) := by
      show _ = _
      rw [Bool.eq_false_iff]
      exact fun h => hp (plB_spec.1 h).1
    rw [show pilB f n p m = false by simpa using hp] at C1
    clear hp
    go_enter Try.func32, Try.ntmps32
    go_wp2_with fail
    refine C1.out.mono ?_
    rintro e w1 ⟨rfl, g1⟩
    have G1 := Lib.hid g1; clear g1
    go_wp2_with fail
    go_ret
    exact ⟨ret_bool HR.out.symm, G1.out⟩
end Go.Proofs.Ytbepcmjjgpbgaaa
