/- The model's chapter 4 (package spec): PlaceDays, PlaceFrom, l4Places, PlaceDigits, PlaceNumber. -/
import Derived.Test.YtejhiilkbckobaaCS
import Derived.Test.YtejhiilkbckobaaBO
import Derived.Test.YtejhiilkbckobaaBT
namespace Go.Proofs.Ytejhiilkbckobaa
open Go.RowKit
set_option linter.unusedVariables false
set_option maxRecDepth 100000
def daysF (n : Int) (k : Nat) : Int := if k = 0 then n / 144000 else if k = 1 then n / 7200 % 20 else if k = 2 then n / 360 % 20 else if k = 3 then n / 20 % 18 else n % 20
def daysB (n : Int) : Bool := decide (0 ≤ n ∧ n ≤ 2879999)
theorem sPlaceDays_any (n : Int) (w : World) : Calls Try.prog 14 #[.int .i64 n] w fun e w' => RowR w w' (daysF n) 5 (daysB n) e := by
  have C := Lib.hid (in_any n 0 2879999)
  by_cases h : 0 ≤ n ∧ n ≤ 2879999
  · have HB : Hid (daysB n = true) := Lib.hid (decide_eq_true h)
    rw [show decide (0 ≤ n ∧ n ≤ 2879999) = true from decide_eq_true h] at C
    obtain ⟨h0, h1⟩ := h
    obtain ⟨k, rfl⟩ := Int.eq_ofNat_of_zero_le h0
    have HO := Lib.hid (Own.new w 5 (daysF k))
    go_enter Try.func14, Try.ntmps14
    go_wp2_with fail
    refine (C.out _).mono ?_
    rintro e w1 ⟨rfl, rfl⟩
    go_wp2_with fail
    go_ret2
    refine ⟨_, 5, 5, by rw [HB.out]; rfl, by rw [HB.out]; rfl, (Res.rsp (.inr ⟨w.heap.size, rfl, Nat.le_refl _, ?_, ?_⟩)), (Below.refl _ _).alloc (Nat.le_refl _) _⟩
    · simp
    · exact HO.out
  · have HB : Hid (daysB n = false) := Lib.hid (decide_eq_false h)
    rw [show decide (0 ≤ n ∧ n ≤ 2879999) = false from decide_eq_false h] at C
    clear h
    go_enter Try.func14, Try.ntmps14
    go_wp2_with fail
    refine (C.out _).mono ?_
    rintro e w1 ⟨rfl, rfl⟩
    go_wp2_with fail
    go_ret2
    exact ⟨_, _, _, by rw [HB.out]; rfl, by rw [HB.out]; rfl, Rsp.none_ _ _ _ _ _, (Below.refl _ _).alloc (Nat.le_refl _) _⟩
/-- is number j of a count of days as told? -/
def dayOk (f : Nat → Int) (j : Nat) : Prop := 0 ≤ f j ∧ f j ≤ 19 ∧ (j = 3 → f j ≤ 17)
def fromB (f : Nat → Int) (n : Nat) : Bool := decide (n = 5) && decide (0 ≤ f 0 ∧ f 0 ≤ 19 ∧ 0 ≤ f 1 ∧ f 1 ≤ 19 ∧ 0 ≤ f 2 ∧ f 2 ≤ 19 ∧ 0 ≤ f 3 ∧ f 3 ≤ 17 ∧ 0 ≤ f 4 ∧ f 4 ≤ 19)
theorem fromB_iff (f : Nat → Int) (n : Nat) : fromB f n = true ↔ n = 5 ∧ ∀ j, j < 5 → dayOk f j := by
  unfold fromB dayOk
  rw [Bool.and_eq_true, decide_eq_true_eq, decide_eq_true_eq]
  constructor
  · rintro ⟨h, h0⟩
    refine ⟨h, fun j hj => ?_⟩
    rcases (show j = 0 ∨ j = 1 ∨ j = 2 ∨ j = 3 ∨ j = 4 by omega) with rfl | rfl | rfl | rfl | rfl <;> refine ⟨by omega, by omega, by omega⟩
  · rintro ⟨h, h0⟩
    have := h0 0 (by omega); have := h0 1 (by omega); have := h0 2 (by omega); have := h0 3 (by omega); have := h0 4 (by omega)
    refine ⟨h, by omega⟩
def fromV (f : Nat → Int) : Int := 144000 * f 0 + 7200 * f 1 + 360 * f 2 + 20 * f 3 + f 4
def fromR (f : Nat → Int) (n : Nat) : Value := if fromB f n = true then .tuple #[.int .i64 (fromV f), .bool true] else .tuple #[.int .i64 0, .bool false]
theorem fromR_yes (f : Nat → Int) (n : Nat) (h : fromB f n = true) : fromR f n = .tuple #[.int .i64 (fromV f), .bool true] := by unfold fromR; rw [if_pos h]
theorem fromR_no (f : Nat → Int) (n : Nat) (h : ¬ fromB f n = true) : fromR f n = .tuple #[.int .i64 0, .bool false] := by unfold fromR; rw [if_neg h]
set_option maxHeartbeats 1000000 in
theorem sPlaceFrom_any (a : Option Addr) (n c : Nat) (f : Nat → Int) (w : World) (h : Ls w a n f) (hn : n ≤ 10000000) :
    Calls Try.prog 25 #[.slice a n c] w fun e w' => e = .returned (fromR f n) ∧ Mid 0 0 w w' := by
  have H := Lib.hid h; clear h
  by_cases h5 : n = 5
  · subst h5
    go_enter Try.func25, Try.ntmps25
    go_wp2_with fail
    go_loop [4] (fun i => ∃ k : Nat, i = .int .i64 k ∧ k ≤ 5 ∧ Hid (∀ j, j < k → dayOk f j)) (fun i => 5 - (intOf i).toNat)
    case atStart => exact ⟨0, rfl, by omega, Lib.hid fun j hj => by omega⟩
    case round =>
      obtain ⟨k, rfl, hk, Ha⟩ := hrel
      by_cases hlt : k < 5
      · obtain ⟨b, off, rfl, hb, hc⟩ := H.out k hlt
        have C := Lib.hid (in_any (f k) 0 19)
        by_cases hin : 0 ≤ f k ∧ f k ≤ 19
        · rw [show decide (0 ≤ f k ∧ f k ≤ 19) = true from decide_eq_true hin] at C
          by_cases h3 : k = 3
          · subst h3
            by_cases h17 : f 3 ≤ 17
            · have Ha' : Hid (∀ j, j < 3 + 1 → dayOk f j) := Lib.hid fun j hj => by
                by_cases e : j = 3
                · subst e; exact ⟨hin.1, hin.2, fun _ => h17⟩
                · exact Ha.out j (by omega)
              clear hin
              go_wp2_with fail
              refine (C.out _).mono ?_
              rintro e w2 ⟨rfl, rfl⟩
              go_wp2_with fail
              go_round
              case rel => exact ⟨3 + 1, by go_num, by omega, Ha'⟩
              case measure => simp [intOf]
            · have Hf : Hid (fromR f 5 = .tuple #[.int .i64 0, .bool false]) := Lib.hid (fromR_no f 5 fun h => h17 ((((fromB_iff f 5).1 h).2 3 (by omega)).2.2 rfl))
              clear hin
              go_wp2_with fail
              refine (C.out _).mono ?_
              rintro e w2 ⟨rfl, rfl⟩
              go_wp2_with fail
              go_ret2
              exact ⟨ret_v Hf.out.symm, Mid.refl _ _ _⟩
          · have Ha' : Hid (∀ j, j < k + 1 → dayOk f j) := Lib.hid fun j hj => by
              by_cases e : j = k
              · subst e; exact ⟨hin.1, hin.2, fun h => absurd h h3⟩
              · exact Ha.out j (by omega)
            have hk3 : ((k : Int) == 3) = false := by rw [beq_eq_false_iff_ne]; omega
            clear hin
            go_wp2_with fail
            refine (C.out _).mono ?_
            rintro e w2 ⟨rfl, rfl⟩
            go_wp2_with fail
            go_round
            case rel => exact ⟨k + 1, by go_num, by omega, Ha'⟩
            case measure => simp [intOf]; omega
        · have Hf : Hid (fromR f 5 = .tuple #[.int .i64 0, .bool false]) := Lib.hid (fromR_no f 5 fun h => hin (by have := ((fromB_iff f 5).1 h).2 k hlt; exact ⟨this.1, this.2.1⟩))
          rw [show decide (0 ≤ f k ∧ f k ≤ 19) = false from decide_eq_false hin] at C
          clear hin
          go_wp2_with fail
          refine (C.out _).mono ?_
          rintro e w2 ⟨rfl, rfl⟩
          go_wp2_with fail
          go_ret2
          exact ⟨ret_v Hf.out.symm, Mid.refl _ _ _⟩
      · obtain rfl : k = 5 := by omega
        have Hf : Hid (fromR f 5 = .tuple #[.int .i64 (fromV f), .bool true]) := Lib.hid (fromR_yes f 5 ((fromB_iff f 5).2 ⟨rfl, Ha.out⟩))
        obtain ⟨b, off, rfl, hb, hc⟩ := H.out.pos (by omega)
        have hc0 : w.cell? ⟨b, off, none⟩ = some (.int .i64 (f 0)) := hc 0 (by omega)
        have hc1 := hc 1 (by omega); have hc2 := hc 2 (by omega); have hc3 := hc 3 (by omega); have hc4 := hc 4 (by omega)
        have d0 := Ha.out 0 (by omega); have d1 := Ha.out 1 (by omega); have d2 := Ha.out 2 (by omega); have d3 := Ha.out 3 (by omega); have d4 := Ha.out 4 (by omega)
        unfold dayOk at d0 d1 d2 d3 d4
        obtain ⟨d0a, d0b, _⟩ := d0; obtain ⟨d1a, d1b, _⟩ := d1; obtain ⟨d2a, d2b, _⟩ := d2; obtain ⟨d3a, d3b, _⟩ := d3; obtain ⟨d4a, d4b, _⟩ := d4
        unfold fromV at Hf
        generalize f 0 = x0 at *; generalize f 1 = x1 at *; generalize f 2 = x2 at *; generalize f 3 = x3 at *; generalize f 4 = x4 at *
        have v0 : IntKind.i64.wrap (144000 * x0) = 144000 * x0 := IntWalk.i64_in _ (by omega)
        have v1 : IntKind.i64.wrap (7200 * x1) = 7200 * x1 := IntWalk.i64_in _ (by omega)
        have v2 : IntKind.i64.wrap (144000 * x0 + 7200 * x1) = 144000 * x0 + 7200 * x1 := IntWalk.i64_in _ (by omega)
        have v3 : IntKind.i64.wrap (360 * x2) = 360 * x2 := IntWalk.i64_in _ (by omega)
        have v4 : IntKind.i64.wrap (144000 * x0 + 7200 * x1 + 360 * x2) = 144000 * x0 + 7200 * x1 + 360 * x2 := IntWalk.i64_in _ (by omega)
        have v5 : IntKind.i64.wrap (20 * x3) = 20 * x3 := IntWalk.i64_in _ (by omega)
        have v6 : IntKind.i64.wrap (144000 * x0 + 7200 * x1 + 360 * x2 + 20 * x3) = 144000 * x0 + 7200 * x1 + 360 * x2 + 20 * x3 := IntWalk.i64_in _ (by omega)
        have v7 : IntKind.i64.wrap (144000 * x0 + 7200 * x1 + 360 * x2 + 20 * x3 + x4) = 144000 * x0 + 7200 * x1 + 360 * x2 + 20 * x3 + x4 := IntWalk.i64_in _ (by omega)
        clear hc
        go_wp2_with fail
        go_quiet (fail)
        go_wp2_with fail
        go_ret2
        exact ⟨ret_v Hf.out.symm, (Mid.refl _ _ _).drewN _⟩
  · have Hf : Hid (fromR f n = .tuple #[.int .i64 0, .bool false]) := Lib.hid (fromR_no f n fun h => h5 ((fromB_iff f n).1 h).1)
    have hq : ((n : Int) == 5) = false := by rw [beq_eq_false_iff_ne]; omega
    clear h5
    go_enter Try.func25, Try.ntmps25
    go_wp2_with fail
    go_ret2
    exact ⟨ret_v Hf.out.symm, Mid.refl _ _ _⟩
/-- are these places? -/
def plcB (f : Nat → Int) (n : Nat) : Bool := decide (1 ≤ n ∧ n ≤ 6 ∧ ∀ j, j < n → 2 ≤ f j ∧ f j ≤ 100)
theorem plcB_iff (f : Nat → Int) (n : Nat) : plcB f n = true ↔ 1 ≤ n ∧ n ≤ 6 ∧ ∀ j, j < n → 2 ≤ f j ∧ f j ≤ 100 := by unfold plcB; rw [decide_eq_true_eq]
def plcV (f : Nat → Int) (n : Nat) : Int := if plcB f n = true then prd f n else 0
theorem prd_small (f : Nat → Int) (n k : Nat) (h : ∀ j, j < n → 2 ≤ f j ∧ f j ≤ 100) (hk : k ≤ n) (h6 : k ≤ 6) : 1 ≤ prd f k ∧ prd f k ≤ 1000000000000 := by
  refine ⟨prd_pos f n (fun j hj => (h j hj).1) k hk, Int.le_trans (prd_bound f n h k hk) ?_⟩
  rcases (show k = 0 ∨ k = 1 ∨ k = 2 ∨ k = 3 ∨ k = 4 ∨ k = 5 ∨ k = 6 by omega) with rfl | rfl | rfl | rfl | rfl | rfl | rfl <;> decide
set_option maxHeartbeats 1000000 in
theorem l4Places_any (a : Option Addr) (n c : Nat) (f : Nat → Int) (w : World) (h : Ls w a n f) (hn : n ≤ 10000000) :
    Calls Try.prog 39 #[.slice a n c] w fun e w' => e = .returned (.int .i64 (plcV f n)) ∧ w = w' := by
  have H := Lib.hid h; clear h
  go_enter Try.func39, Try.ntmps39
  go_wp2_with fail
  go_loop [3, 4] (fun x i => ∃ k : Nat, i = .int .i64 k ∧ k ≤ n ∧ x = .int .i64 (prd f (min k 6)) ∧ Hid (∀ j, j < k → 2 ≤ f j ∧ f j ≤ 100)) (fun _ i => n - (intOf i).toNat)
  case atStart => exact ⟨0, rfl, by omega, rfl, Lib.hid fun j hj => by omega⟩
  case round =>
    obtain ⟨k, rfl, hk, rfl, Ha⟩ := hrel
    by_cases hlt : k < n
    · obtain ⟨b, off, rfl, hb, hc⟩ := H.out k hlt
      have C := Lib.hid (in_any (f k) 2 100)
      by_cases hin : 2 ≤ f k ∧ f k ≤ 100
      · rw [show decide (2 ≤ f k ∧ f k ≤ 100) = true from decide_eq_true hin] at C
        have Ha' : Hid (∀ j, j < k + 1 → 2 ≤ f j ∧ f j ≤ 100) := Lib.hid fun j hj => by
          by_cases e : j = k
          · subst e; exact hin
          · exact Ha.out j (by omega)
        obtain ⟨hin0, hin1⟩ := hin
        by_cases h6 : k < 6
        · have hp := prd_small f k k Ha.out (Nat.le_refl _) (by omega)
          have hm := Int.mul_le_mul hp.2 hin1 (by omega) (by omega)
          have hm0 := Int.mul_nonneg (show 0 ≤ prd f k by omega) (show 0 ≤ f k by omega)
          have Hs : Hid (prd f (min (k + 1) 6) = prd f k * f k) := Lib.hid (by rw [show min (k + 1) 6 = k + 1 by omega]; rfl)
          have hw : IntKind.i64.wrap (prd f k * f k) = prd f k * f k := IntWalk.i64_in _ (by omega)
          rw [show min k 6 = k by omega]
          generalize prd f k = N at *
          clear hp hm hm0
          go_wp2_with fail
          refine (C.out _).mono ?_
          rintro e w2 ⟨rfl, rfl⟩
          go_wp2_with fail
          go_round
          case rel => exact ⟨k + 1, by go_num, by omega, by rw [Hs.out], Ha'⟩
          case measure => simp [intOf]; omega
        · have Hs : Hid (prd f (min (k + 1) 6) = prd f (min k 6)) := Lib.hid (by rw [show min (k + 1) 6 = min k 6 by omega])
          go_wp2_with fail
          refine (C.out _).mono ?_
          rintro e w2 ⟨rfl, rfl⟩
          go_wp2_with fail
          go_round
          case rel => exact ⟨k + 1, by go_num, by omega, by rw [Hs.out], Ha'⟩
          case measure => simp [intOf]; omega
      · have Hf : Hid (plcV f n = 0) := Lib.hid (by unfold plcV; rw [if_neg]; intro h; exact hin (((plcB_iff f n).1 h).2.2 k hlt))
        rw [show decide (2 ≤ f k ∧ f k ≤ 100) = false from decide_eq_false hin] at C
        clear hin
        go_wp2_with fail
        refine (C.out _).mono ?_
        rintro e w2 ⟨rfl, rfl⟩
        go_wp2_with fail
        go_ret
        exact ⟨ret_int Hf.out.symm, rfl⟩
    · obtain rfl : k = n := by omega
      have C := Lib.hid (in_any (k : Int) 1 6)
      by_cases hin : 1 ≤ (k : Int) ∧ (k : Int) ≤ 6
      · have Hf : Hid (plcV f k = prd f (min k 6)) := Lib.hid (by unfold plcV; rw [if_pos ((plcB_iff f k).2 ⟨by omega, by omega, Ha.out⟩), show min k 6 = k by omega])
        rw [show decide (1 ≤ (k : Int) ∧ (k : Int) ≤ 6) = true from decide_eq_true hin] at C
        clear hin
        go_wp2_with fail
        refine (C.out _).mono ?_
        rintro e w2 ⟨rfl, rfl⟩
        go_wp2_with fail
        go_ret
        exact ⟨ret_int Hf.out.symm, rfl⟩
      · have Hf : Hid (plcV f k = 0) := Lib.hid (by unfold plcV; rw [if_neg]; intro h; have := (plcB_iff f k).1 h; omega)
        rw [show decide (1 ≤ (k : Int) ∧ (k : Int) ≤ 6) = false from decide_eq_false hin] at C
        clear hin
        go_wp2_with fail
        refine (C.out _).mono ?_
        rintro e w2 ⟨rfl, rfl⟩
        go_wp2_with fail
        go_ret
        exact ⟨ret_int Hf.out.symm, rfl⟩
end Go.Proofs.Ytejhiilkbckobaa
