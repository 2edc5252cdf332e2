/- The model's chapter 2 (package spec): PileOf, l2Value, PileValue, PilePlain, PileSum, PileLess. -/
import Derived.Test.YtgcalmenlcpjpaaDoorBT
namespace Go.Proofs.YtgcalmenlcpjpaaDoor
open Go.RowKit
set_option linter.unusedVariables false
set_option maxRecDepth 100000
/-- does PileOf give a pile? -/
def ofB (f : Nat → Int) (n : Nat) (N : Int) : Bool := sysB f n && decide (0 ≤ N ∧ N ≤ 1000000)
theorem ofB_spec {f : Nat → Int} {n : Nat} {N : Int} : ofB f n N = true ↔ sysB f n = true ∧ 0 ≤ N ∧ N ≤ 1000000 := by
  unfold ofB
  rw [Bool.and_eq_true, decide_eq_true_eq]
/-- a slice and a bool that a call returns: the plain pile of N, or none -/
def PileR (w w' : World) (f : Nat → Int) (n : Nat) (N : Int) (ok : Bool) (e : Ending) : Prop :=
  ∃ (a : Option Addr) (m c : Nat), e = .returned (.tuple #[.slice a m c, .bool ok]) ∧ m = (if ok = true then n else 0) ∧ Res w' w.heap.size w'.heap.size a m (pl f n N) ∧ Below w.heap.size w w'
theorem val_bd {f p : Nat → Int} {n : Nat} (g0 : ∀ j, j < n → 1 ≤ f j) (g1 : ∀ j, j < n → f j ≤ 1000000) (h0 : ∀ j, j < n → 0 ≤ p j) (h1 : ∀ j, j < n → p j ≤ 1000000) (hn : n ≤ 6) (k : Nat) (hk : k ≤ n) :
    0 ≤ val f p k ∧ val f p k ≤ 6000000000000 ∧ (k < n → 0 ≤ f k * p k ∧ f k * p k ≤ 1000000000000) := by
  refine ⟨sumF_nonneg k fun j hj => Int.mul_nonneg (by have := g0 j (by omega); omega) (h0 j (by omega)), ?_, fun hlt => ⟨Int.mul_nonneg (by have := g0 k hlt; omega) (h0 k hlt), ?_⟩⟩
  · have h := val_le (v := f) (p := p) (V := 1000000) (M := 1000000) h0 h1 (fun j hj => by have := g0 j hj; omega) g1 (by omega) k hk
    have : (k : Int) * (1000000 * 1000000) ≤ 6 * (1000000 * 1000000) := Int.mul_le_mul_of_nonneg_right (by omega) (by omega)
    omega
  · have := Int.mul_le_mul_of_nonneg_right (g1 k hlt) (h0 k hlt)
    have := h1 k hlt
    omega
set_option maxHeartbeats 400000 in
theorem sl2Value_any (a b : Option Addr) (n c d : Nat) (f p : Nat → Int) (w : World) (h : Ls w a n f) (h' : Ls w b n p) (hp : pilB f n p n = true) :
    Calls Tryd.prog 52 #[.slice a n c, .slice b n d] w fun e w' => e = .returned (.int .i64 (val f p n)) ∧ Mid 0 0 w w' := by
  have H := Lib.hid h; have H' := Lib.hid h'; clear h h'
  obtain ⟨s1, s2, s3, _, s4, s5⟩ := pilB_sys hp
  have Bd := Lib.hid (fun k hk => val_bd (p := p) s1.pos s3 s4 s5 s2 k hk)
  clear s1 s3 s4 s5 hp
  go_enter Tryd.func52, Tryd.ntmps52
  go_wp2_with fail
  go_loopw [5, 6] (fun x i wr => ∃ k q : Nat, i = .int .i64 k ∧ k ≤ n ∧ x = .int .i64 (val f p k) ∧ wr = w.drewN q) (fun _ i _ => n - (intOf i).toNat)
  case atStart => exact ⟨0, 0, rfl, by omega, rfl, rfl⟩
  case round =>
    obtain ⟨k, q, rfl, hk, rfl, rfl⟩ := hrel
    by_cases hlt : k < n
    · obtain ⟨b1, o1, rfl, hb1, hc1⟩ := H.out k hlt
      obtain ⟨b2, o2, rfl, hb2, hc2⟩ := H'.out k hlt
      obtain ⟨v1, v2, v3⟩ := Bd.out k (by omega)
      obtain ⟨v3, v4⟩ := v3 hlt
      have Hst : Hid (val f p (k + 1) = val f p k + f k * p k) := rfl
      have hw1 : IntKind.i64.wrap (f k * p k) = f k * p k := IntWalk.i64_in _ (by omega)
      have hw2 : IntKind.i64.wrap (val f p k + f k * p k) = val f p k + f k * p k := IntWalk.i64_in _ (by omega)
      generalize val f p k = V at *
      generalize f k = x at *
      generalize p k = y at *
      go_wp2_with fail
      go_quiet (fail)
      go_wp2_with fail
      go_roundw
      case rel => exact ⟨k + 1, _, by go_num, by omega, by rw [Hst.out], rfl⟩
      case measure => simp [intOf]; omega
    · obtain rfl : k = n := by omega
      go_wp2_with fail
      go_ret
      exact ⟨rfl, (Mid.refl _ _ _).drewN _⟩
/-- does PileValue give a value? -/
def valB (f : Nat → Int) (n : Nat) (p : Nat → Int) (m : Nat) : Bool := pilB f n p m && decide (val f p n ≤ 1000000)
theorem valB_spec {f : Nat → Int} {n : Nat} {p : Nat → Int} {m : Nat} : valB f n p m = true ↔ pilB f n p m = true ∧ val f p n ≤ 1000000 := by
  unfold valB
  rw [Bool.and_eq_true, decide_eq_true_eq]
def valR (f : Nat → Int) (n : Nat) (p : Nat → Int) (m : Nat) : Int := if valB f n p m = true then val f p n else 0
theorem ret_int_bool {a b : Int} {x y : Bool} (h : a = b) (k : x = y) : Ending.returned (.tuple #[.int .i64 a, .bool x]) = .returned (.tuple #[.int .i64 b, .bool y]) := by rw [h, k]
end Go.Proofs.YtgcalmenlcpjpaaDoor
