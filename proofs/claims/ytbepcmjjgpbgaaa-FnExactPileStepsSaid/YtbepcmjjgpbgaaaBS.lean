/- The model's chapter 2 (package spec): PileIn. -/
import Derived.Test.YtbepcmjjgpbgaaaBL
import Derived.Test.YtbepcmjjgpbgaaaBM
namespace Go.Proofs.Ytbepcmjjgpbgaaa
open Go.RowKit
set_option linter.unusedVariables false
set_option maxRecDepth 100000
/-- what PileIn has looked at when it comes to number k -/
def Chk (f : Nat → Int) (k : Nat) : Prop := (0 < k → f 0 = 1) ∧ (∀ j, j < k → 1 ≤ f j ∧ f j ≤ 1000000) ∧ ∀ j, j + 1 < k → f j < f (j + 1) ∧ f (j + 1) % f j = 0
theorem Chk.mono {f : Nat → Int} {k n : Nat} (h : Chk f n) (hk : k ≤ n) : Chk f k := ⟨fun h0 => h.1 (by omega), fun j hj => h.2.1 j (by omega), fun j hj => h.2.2 j (by omega)⟩
/-- a list is a system -/
def sysB (f : Nat → Int) (n : Nat) : Bool :=
  decide (1 ≤ n ∧ n ≤ 6 ∧ f 0 = 1 ∧ (∀ j, j < n → 1 ≤ f j ∧ f j ≤ 1000000) ∧ ∀ j, j < n - 1 → f j < f (j + 1) ∧ f (j + 1) % f j = 0)
theorem sysB_chk (f : Nat → Int) (n : Nat) : sysB f n = true ↔ Chk f n ∧ 1 ≤ n ∧ n ≤ 6 := by
  unfold sysB
  rw [decide_eq_true_eq]
  constructor
  · rintro ⟨h1, h2, h3, h4, h5⟩
    exact ⟨⟨fun _ => h3, h4, fun j hj => h5 j (by omega)⟩, h1, h2⟩
  · rintro ⟨⟨h3, h4, h5⟩, h1, h2⟩
    exact ⟨h1, h2, h3 (by omega), h4, fun j hj => h5 j (by omega)⟩
theorem sysB_sys {f : Nat → Int} {n : Nat} (h : sysB f n = true) : SysF f n ∧ n ≤ 6 ∧ ∀ j, j < n → f j ≤ 1000000 := by
  obtain ⟨⟨h3, h4, h5⟩, h1, h2⟩ := (sysB_chk f n).1 h
  exact ⟨⟨h1, h3 (by omega), fun j hj => (h4 j hj).1, h5⟩, h2, fun j hj => (h4 j hj).2⟩
theorem sysB_not {f : Nat → Int} {n k : Nat} (hk : k ≤ n) (h : ¬ Chk f k) : sysB f n = false := by
  rw [Bool.eq_false_iff]
  intro h'
  exact h (((sysB_chk f n).1 h').1.mono hk)
theorem sysB_congr {f g : Nat → Int} {n : Nat} (h : ∀ j, j < n → f j = g j) : sysB f n = sysB g n := by
  rw [Bool.eq_iff_iff, sysB_chk, sysB_chk]
  have key : ∀ {f g : Nat → Int}, (∀ j, j < n → f j = g j) → Chk f n → Chk g n := by
    intro f g h c
    refine ⟨fun h0 => by rw [← h 0 h0]; exact c.1 h0, fun j hj => by rw [← h j hj]; exact c.2.1 j hj, fun j hj => by rw [← h j (by omega), ← h (j + 1) hj]; exact c.2.2 j hj⟩
  constructor
  · rintro ⟨c, r⟩; exact ⟨key h c, r⟩
  · rintro ⟨c, r⟩; exact ⟨key (fun j hj => (h j hj).symm) c, r⟩
theorem ret_bool {a b : Bool} (h : a = b) : Ending.returned (.bool a) = .returned (.bool b) := by rw [h]
theorem in_any (n a b : Int) (w : World) : Calls Try.prog 51 #[.int .i64 n, .int .i64 a, .int .i64 b] w fun e w' => e = .returned (.bool (decide (a ≤ n ∧ n ≤ b))) ∧ w = w' := by
  by_cases h1 : a ≤ n
  · by_cases h2 : n ≤ b
    · go_enter Try.func51, Try.ntmps51
      go_wp2
      go_ret
      simp [h1, h2]
    · go_enter Try.func51, Try.ntmps51
      go_wp2
      go_ret
      simp
      omega
  · go_enter Try.func51, Try.ntmps51
    go_wp2
    go_ret
    simp
    omega
set_option maxHeartbeats 1000000 in
theorem sPileIn_any (a : Option Addr) (n c : Nat) (f : Nat → Int) (w : World) (h : Ls w a n f) (hn : n ≤ 10000000) :
    Calls Try.prog 21 #[.slice a n c] w fun e w' => e = .returned (.bool (sysB f n)) ∧ Mid 0 0 w w' := by
  have H := Lib.hid h; clear h
  go_enter Try.func21, Try.ntmps21
  go_wp2_with fail
  go_loopw [3] (fun i wr => ∃ k q : Nat, i = .int .i64 k ∧ k ≤ n ∧ wr = w.drewN q ∧ Chk f k) (fun i _ => n - (intOf i).toNat)
  case atStart => exact ⟨0, 0, rfl, by omega, rfl, ⟨fun h => by omega, fun j hj => by omega, fun j hj => by omega⟩⟩
  case round =>
    obtain ⟨k, q, rfl, hk, rfl, hchk⟩ := hrel
    have Hc := Lib.hid hchk; clear hchk
    by_cases hlt : k < n
    · rcases k with _ | j
      · obtain ⟨b, off, rfl, hb, hc⟩ := H.out 0 hlt
        rw [Nat.add_zero] at hc
        by_cases h1 : f 0 = 1
        · rw [h1] at hc
          have H1 := Lib.hid h1; clear h1
          go_wp2_with fail
          refine (in_any _ _ _ _).mono ?_
          rintro e w1 ⟨rfl, rfl⟩
          go_wp2_with fail
          go_quiet (fail)
          go_wp2_with fail
          go_roundw
          case rel => exact ⟨1, _, by go_num, by omega, rfl, ⟨fun _ => H1.out, fun j hj => by obtain rfl : j = 0 := by { omega }; rw [H1.out]; omega, fun j hj => by omega⟩⟩
          case measure => simp [intOf]; omega
        · have h1' : (f 0 == 1) = false := by rw [beq_eq_false_iff_ne]; exact h1
          have Hr : Hid (sysB f n = false) := sysB_not (k := 1) (by omega) (fun c => h1 (c.1 (by omega)))
          go_wp2_with fail
          go_ret
          exact ⟨ret_bool Hr.out.symm, (Mid.refl _ _ _).drewN _⟩
      · obtain ⟨b, off, rfl, hb, hc⟩ := (H.out).pos (by omega)
        have hck := hc (j + 1) hlt
        have hcj := hc j (by omega)
        have hj := Hc.out.2.1 j (by omega)
        have hno : ¬ Chk f (j + 2) → sysB f n = false := sysB_not (by omega)
        have hyes : f j < f (j + 1) → f (j + 1) % f j = 0 → 1 ≤ f (j + 1) → f (j + 1) ≤ 1000000 → Chk f (j + 2) := fun e1 e2 e3 e4 =>
          ⟨fun _ => Hc.out.1 (by omega), fun i hi => by
            by_cases e : i = j + 1
            · subst e; exact ⟨e3, e4⟩
            · exact Hc.out.2.1 i (by omega), fun i hi => by
            by_cases e : i = j
            · subst e; exact ⟨e1, e2⟩
            · exact Hc.out.2.2 i (by omega)⟩
        have hno1 : ¬ (1 ≤ f (j + 1) ∧ f (j + 1) ≤ 1000000) → sysB f n = false := fun e => hno fun c => e (c.2.1 (j + 1) (by omega))
        have hno2 : ¬ (f j < f (j + 1)) → sysB f n = false := fun e => hno fun c => e (c.2.2 j (by omega)).1
        have hno3 : ¬ (f (j + 1) % f j = 0) → sysB f n = false := fun e => hno fun c => e (c.2.2 j (by omega)).2
        have Hno1 := Lib.hid hno1; have Hno2 := Lib.hid hno2; have Hno3 := Lib.hid hno3; have Hyes := Lib.hid hyes
        clear hno hno1 hno2 hno3 hyes hc
        generalize f (j + 1) = y at *
        generalize f j = x at *
        obtain ⟨hj1, hj2⟩ := hj
        by_cases hin : 1 ≤ y ∧ y ≤ 1000000
        · obtain ⟨hy1, hy2⟩ := hin
          by_cases h1 : x < y
          · have h1' : decide (y ≤ x) = false := decide_eq_false (by omega)
            have htm : y.tmod x = y % x := Int.tmod_eq_emod_of_nonneg (by omega)
            by_cases h2 : y % x = 0
            · have HC := Lib.hid (Hyes.out h1 h2 hy1 hy2)
              go_wp2_with fail
              refine (in_any _ _ _ _).mono ?_
              rintro e w1 ⟨rfl, rfl⟩
              go_wp2_with fail
              go_quiet (fail)
              go_wp2_with fail
              go_roundw
              case rel => exact ⟨j + 2, _, by go_num, by omega, rfl, HC.out⟩
              case measure => simp [intOf]; omega
            · have Hr := Lib.hid (Hno3.out h2)
              go_wp2_with fail
              refine (in_any _ _ _ _).mono ?_
              rintro e w1 ⟨rfl, rfl⟩
              go_wp2_with fail
              go_quiet (fail)
              go_wp2_with fail
              go_ret
              exact ⟨ret_bool Hr.out.symm, ((Mid.refl _ _ _).drewN _).drewN _⟩
          · have Hr := Lib.hid (Hno2.out h1)
            have h1' : y ≤ x := by omega
            go_wp2_with fail
            refine (in_any _ _ _ _).mono ?_
            rintro e w1 ⟨rfl, rfl⟩
            go_wp2_with fail
            go_quiet (fail)
            go_wp2_with fail
            go_ret
            exact ⟨ret_bool Hr.out.symm, ((Mid.refl _ _ _).drewN _).drewN _⟩
        · have Hr := Lib.hid (Hno1.out hin)
          have Hin := Lib.hid hin
          clear hin
          go_wp2_with fail
          refine (in_any _ _ _ _).mono ?_
          rw [show (decide (1 ≤ y ∧ y ≤ 1000000)) = false from decide_eq_false Hin.out]
          rintro e w1 ⟨rfl, rfl⟩
          go_wp2_with fail
          go_ret
          exact ⟨ret_bool Hr.out.symm, (Mid.refl _ _ _).drewN _⟩
    · obtain rfl : k = n := by omega
      go_wp2_with fail
      refine (in_any _ _ _ _).mono ?_
      rintro e w1 ⟨rfl, rfl⟩
      go_wp2_with fail
      go_ret
      refine ⟨ret_bool ?_, (Mid.refl _ _ _).drewN _⟩
      rw [Bool.eq_iff_iff, sysB_chk, Bool.and_eq_true, decide_eq_true_eq, decide_eq_true_eq]
      exact ⟨fun h => ⟨Hc.out, by omega, by omega⟩, fun h => by omega⟩
end Go.Proofs.Ytbepcmjjgpbgaaa
