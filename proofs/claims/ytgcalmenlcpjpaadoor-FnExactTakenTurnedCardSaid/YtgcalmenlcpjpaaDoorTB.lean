/- The model's chapter 5 (package spec): l5Pile, values and sizes of signed piles. -/
import Derived.Test.YtgcalmenlcpjpaaDoorTA
import Derived.Test.YtgcalmenlcpjpaaDoorBV
import Derived.Test.YtgcalmenlcpjpaaDoorBO
namespace Go.Proofs.YtgcalmenlcpjpaaDoor
open Go.RowKit
set_option linter.unusedVariables false
set_option maxRecDepth 100000
/-- a list is a signed pile of a system -/
def sgnB (f : Nat → Int) (n : Nat) (p : Nat → Int) (m : Nat) : Bool := sysB f n && decide (m = n ∧ ∀ j, j < m → -1000000 ≤ p j ∧ p j ≤ 1000000)
theorem sgnB_spec {f : Nat → Int} {n : Nat} {p : Nat → Int} {m : Nat} : sgnB f n p m = true ↔ sysB f n = true ∧ m = n ∧ ∀ j, j < m → -1000000 ≤ p j ∧ p j ≤ 1000000 := by
  unfold sgnB
  rw [Bool.and_eq_true, decide_eq_true_eq]
theorem sgnB_sys {f : Nat → Int} {n : Nat} {p : Nat → Int} {m : Nat} (h : sgnB f n p m = true) : SysF f n ∧ n ≤ 6 ∧ (∀ j, j < n → f j ≤ 1000000) ∧ m = n ∧ (∀ j, j < n → -1000000 ≤ p j) ∧ ∀ j, j < n → p j ≤ 1000000 := by
  obtain ⟨h1, rfl, h2⟩ := sgnB_spec.1 h
  obtain ⟨a, b, c⟩ := sysB_sys h1
  exact ⟨a, b, c, rfl, fun j hj => (h2 j hj).1, fun j hj => (h2 j hj).2⟩
theorem sl5Pile_any (a b : Option Addr) (n m c d : Nat) (f p : Nat → Int) (w : World) (h : Ls w a n f) (h' : Ls w b m p) (hn : n ≤ 10000000) (hm : m ≤ 10000000) :
    Calls Tryd.prog 51 #[.slice a n c, .slice b m d] w fun e w' => e = .returned (.bool (sgnB f n p m)) ∧ Mid 0 0 w w' := by
  have H := Lib.hid h; have H' := Lib.hid h'; clear h h'
  have C1 := Lib.hid (sPileIn_any a n c f w H.out hn)
  by_cases hs : sysB f n = true
  · rw [hs] at C1
    by_cases hmn : m = n
    · subst hmn
      have Hp : Hid (sgnB f m p m = true ↔ ∀ j, j < m → -1000000 ≤ p j ∧ p j ≤ 1000000) := by
        show _ ↔ _
        rw [sgnB_spec]
        exact ⟨fun h => h.2.2, fun h => ⟨hs, rfl, h⟩⟩
      clear hs
      go_enter Tryd.func51, Tryd.ntmps51
      go_wp2_with fail
      refine C1.out.mono ?_
      rintro e w1 ⟨rfl, g1⟩
      have G1 := Lib.hid g1; clear g1
      go_wp2_with fail
      go_loop [5] (fun i => ∃ k : Nat, i = .int .i64 k ∧ k ≤ m ∧ ∀ j, j < k → -1000000 ≤ p j ∧ p j ≤ 1000000) (fun i => m - (intOf i).toNat)
      case atStart => exact ⟨0, rfl, by omega, fun j hj => by omega⟩
      case round =>
        obtain ⟨k, rfl, hk, hall⟩ := hrel
        have Ha := Lib.hid hall; clear hall
        by_cases hlt : k < m
        · obtain ⟨b1, o1, rfl, hb1, hc1⟩ := H'.out.below (Mid.bel0 G1.out) k hlt
          by_cases hin : -1000000 ≤ p k ∧ p k ≤ 1000000
          · have Ha' : Hid (∀ j, j < k + 1 → -1000000 ≤ p j ∧ p j ≤ 1000000) := fun j hj => by
              by_cases e : j = k
              · subst e; exact hin
              · exact Ha.out j (by omega)
            have hd : decide (-1000000 ≤ p k ∧ p k ≤ 1000000) = true := decide_eq_true hin
            clear hin
            have C := Lib.hid (in_any (p k) (-1000000) 1000000)
            rw [hd] at C
            clear hd
            go_wp2_with fail
            refine (C.out _).mono ?_
            rintro e w2 ⟨rfl, rfl⟩
            go_wp2_with fail
            go_round
            case rel => exact ⟨k + 1, by go_num, by omega, Ha'.out⟩
            case measure => simp [intOf]; omega
          · have Hr : Hid (sgnB f m p m = false) := by
              show _ = _
              rw [Bool.eq_false_iff]
              exact fun h => hin (Hp.out.1 h k hlt)
            have hd : decide (-1000000 ≤ p k ∧ p k ≤ 1000000) = false := decide_eq_false hin
            clear hin
            have C := Lib.hid (in_any (p k) (-1000000) 1000000)
            rw [hd] at C
            clear hd
            go_wp2_with fail
            refine (C.out _).mono ?_
            rintro e w2 ⟨rfl, rfl⟩
            go_wp2_with fail
            go_ret
            exact ⟨ret_bool Hr.out.symm, G1.out⟩
        · obtain rfl : k = m := by omega
          go_wp2_with fail
          go_ret
          exact ⟨ret_bool (Hp.out.2 Ha.out).symm, G1.out⟩
    · have Hr : Hid (sgnB f n p m = false) := by
        show _ = _
        rw [Bool.eq_false_iff]
        exact fun h => hmn (sgnB_spec.1 h).2.1
      clear hs
      go_enter Tryd.func51, Tryd.ntmps51
      go_wp2_with fail
      refine C1.out.mono ?_
      rintro e w1 ⟨rfl, g1⟩
      have G1 := Lib.hid g1; clear g1
      go_wp2_with fail
      go_ret
      exact ⟨ret_bool Hr.out.symm, G1.out⟩
  · have Hr : Hid (sgnB f n p m = false) := by
      show _ = _
      rw [Bool.eq_false_iff]
      exact fun h => hs (sgnB_spec.1 h).1
    rw [show sysB f n = false by simpa using hs] at C1
    clear hs
    go_enter Tryd.func51, Tryd.ntmps51
    go_wp2_with fail
    refine C1.out.mono ?_
    rintro e w1 ⟨rfl, g1⟩
    have G1 := Lib.hid g1; clear g1
    go_wp2_with fail
    go_ret
    exact ⟨ret_bool Hr.out.symm, G1.out⟩
theorem val_bds {f p : Nat → Int} {n : Nat} (g0 : ∀ j, j < n → 1 ≤ f j) (g1 : ∀ j, j < n → f j ≤ 1000000) (h0 : ∀ j, j < n → -1000000 ≤ p j) (h1 : ∀ j, j < n → p j ≤ 1000000) (hn : n ≤ 6) (k : Nat) (hk : k ≤ n) :
    -6000000000000 ≤ val f p k ∧ val f p k ≤ 6000000000000 ∧ (k < n → -1000000000000 ≤ f k * p k ∧ f k * p k ≤ 1000000000000) := by
  have one : ∀ j, j < n → -1000000000000 ≤ f j * p j ∧ f j * p j ≤ 1000000000000 := fun j hj => by
    have a := g0 j hj; have b := g1 j hj
    have e1 := Int.mul_le_mul_of_nonneg_left (h1 j hj) (show 0 ≤ f j by omega)
    have e2 := Int.mul_le_mul_of_nonneg_left (h0 j hj) (show 0 ≤ f j by omega)
    omega
  have all : ∀ k, k ≤ n → -((k : Int) * 1000000000000) ≤ val f p k ∧ val f p k ≤ (k : Int) * 1000000000000 := fun k => by
    induction k with
    | zero => intro _; simp [val, sumF]
    | succ k ih =>
      intro hk
      obtain ⟨a, b⟩ := ih (by omega)
      obtain ⟨c, d⟩ := one k (by omega)
      have e : val f p (k + 1) = val f p k + f k * p k := rfl
      rw [e]
      omega
  obtain ⟨a, b⟩ := all k hk
  exact ⟨by omega, by omega, one k⟩
set_option maxHeartbeats 400000 in
theorem sl2Value_sgn (a b : Option Addr) (n c d : Nat) (f p : Nat → Int) (w : World) (h : Ls w a n f) (h' : Ls w b n p) (hp : sgnB f n p n = true) :
    Calls Tryd.prog 52 #[.slice a n c, .slice b n d] w fun e w' => e = .returned (.int .i64 (val f p n)) ∧ Mid 0 0 w w' := by
  have H := Lib.hid h; have H' := Lib.hid h'; clear h h'
  obtain ⟨s1, s2, s3, _, s4, s5⟩ := sgnB_sys hp
  have Bd := Lib.hid (fun k hk => val_bds (p := p) s1.pos s3 s4 s5 s2 k hk)
  clear s1 s3 s4 s5 hp
  go_enter Tryd.func52, Tryd.ntmps52
  go_wp2_with fail
  go_loopw [5, 6] (fun x i wr => ∃ k q : Nat, i = .int .i64 k ∧ k ≤ n ∧ x = .int .i64 (val f p k) ∧ wr = w.drewN q) (fun _ i _ => n - (intOf i).toNat)
  case atStart => exact ⟨0, 0, rfl, by omega, rfl, rfl⟩
  case round =>
    obtain ⟨k, q, rfl, hk, rfl, rfl⟩ := hrel
    by_cases hlt : k < n
    · obtain ⟨b1, o1, rfl, hb1, hc1⟩ := H.out k hlt
      obtain ⟨b2, o2, rfl, hb2, hc2⟩ := H'.out k hlt
      obtain ⟨v1, v2, v3⟩ := Bd.out k (by omega)
      obtain ⟨v3, v4⟩ := v3 hlt
      have Hst : Hid (val f p (k + 1) = val f p k + f k * p k) := rfl
      have hw1 : IntKind.i64.wrap (f k * p k) = f k * p k := IntWalk.i64_in _ (by omega)
      have hw2 : IntKind.i64.wrap (val f p k + f k * p k) = val f p k + f k * p k := IntWalk.i64_in _ (by omega)
      generalize val f p k = V at *
      generalize f k = x at *
      generalize p k = y at *
      go_wp2_with fail
      go_quiet (fail)
      go_wp2_with fail
      go_roundw
      case rel => exact ⟨k + 1, _, by go_num, by omega, by rw [Hst.out], rfl⟩
      case measure => simp [intOf]; omega
    · obtain rfl : k = n := by omega
      go_wp2_with fail
      go_ret
      exact ⟨rfl, (Mid.refl _ _ _).drewN _⟩
end Go.Proofs.YtgcalmenlcpjpaaDoor
