/- The drawn laws of chapter 4 over counts of days and digits: their walks (printed by gend.py). -/
import Derived.Test.YtejhiilkbckobaaCX
import Derived.Test.YtejhiilkbckobaaCD
import Derived.Test.YtejhiilkbckobaaCF
import Derived.Test.YtejhiilkbckobaaCG
namespace Go.Proofs.Ytejhiilkbckobaa
open Go.RowKit
set_option linter.unusedVariables false
set_option maxRecDepth 100000
theorem Ls.ls {w : World} {a : Option Addr} {n : Nat} {f : Nat → Int} (h : Ls w a n f) : Ls w a n f := h
theorem RowR.as {w w' : World} {f : Nat → Int} {n : Nat} {ok b : Bool} {e : Ending} (h : RowR w w' f n ok e) (hk : ok = b) :
    ∃ (a : Option Addr) (m c : Nat), e = .returned (.tuple #[.slice a m c, .bool b]) ∧ m = (if b = true then n else 0) ∧ Rsp w' w.heap.size w'.heap.size a m f ∧ Below w.heap.size w w' := by subst hk; exact h
theorem days_from {x : Int} (h : daysB x = true) : fromR (daysF x) 5 = .tuple #[.int .i64 x, .bool true] := by
  have hx := of_decide_eq_true h
  have hb := days_back x hx.1 hx.2
  rw [fromR_yes]
  · have : fromV (daysF x) = x := hb
    rw [this]
  · rw [fromB_iff]
    refine ⟨rfl, fun j hj => ?_⟩
    unfold dayOk
    rcases (show j = 0 ∨ j = 1 ∨ j = 2 ∨ j = 3 ∨ j = 4 by omega) with rfl | rfl | rfl | rfl | rfl <;> simp [daysF] <;> omega
theorem from_days {f : Nat → Int} {m : Nat} (h : fromB f m = true) : daysB (fromV f) = true ∧ ∀ k, k < 5 → daysF (fromV f) k = f k := by
  obtain ⟨_, hd⟩ := (fromB_iff f m).1 h
  have d0 := hd 0 (by omega); have d1 := hd 1 (by omega); have d2 := hd 2 (by omega); have d3 := hd 3 (by omega); have d4 := hd 4 (by omega)
  unfold dayOk at *
  have D := days_of (f 0) (f 1) (f 2) (f 3) (f 4) ⟨by omega, by omega⟩ ⟨by omega, by omega⟩ ⟨by omega, by omega⟩ ⟨by omega, by omega⟩ ⟨by omega, by omega⟩
  obtain ⟨e1, e2, e3, e4, e5, e6, e7⟩ := D
  refine ⟨decide_eq_true ⟨e1, e2⟩, fun k hk => ?_⟩
  rcases (show k = 0 ∨ k = 1 ∨ k = 2 ∨ k = 3 ∨ k = 4 by omega) with rfl | rfl | rfl | rfl | rfl
  · exact e3
  · exact e4
  · exact e5
  · exact e6
  · exact e7
theorem dig_num {f : Nat → Int} {n : Nat} {N : Int} (h : digB f n N = true) : numR4 f n (pdg f n N) n = .tuple #[.int .i64 N, .bool true] ∧ ∀ k, k < n → 0 ≤ pdg f n N k ∧ pdg f n N k < f k := by
  obtain ⟨h1, h2, h3⟩ := (digB_iff f n N).1 h
  obtain ⟨h4, h5, h6⟩ := (plcB_iff f n).1 h1
  have hb : ∀ k, k < n → 0 ≤ pdg f n N k ∧ pdg f n N k < f k := fun k hk => pdg_bd f n N k (h6 k hk).1
  refine ⟨?_, hb⟩
  rw [numR4_yes ((numB4_iff _ _ _ _).2 ⟨h1, rfl, fun j hj => by have := hb j hj; omega⟩), pdg_num f n N (fun k hk => (h6 k hk).1) h2 h3 n (Nat.le_refl _), Nat.sub_self]
  rfl
theorem num_dig {f d : Nat → Int} {n m : Nat} (h : numB4 f n d m = true) : digB f n (dnum f d n) = true ∧ (∀ j, j < n → pdg f n (dnum f d n) j = d j) ∧ dnum f d n ≤ 9223372036854775807 := by
  obtain ⟨h1, _, h2⟩ := (numB4_iff f n d m).1 h
  obtain ⟨h4, h5, h6⟩ := (plcB_iff f n).1 h1
  have hd : ∀ k, k < n → 0 ≤ d k ∧ d k < f k := fun k hk => by have := h2 k hk; omega
  have hl := dnum_lt f d n (fun k hk => (h6 k hk).1) hd n (Nat.le_refl _)
  have hs := prd_small f n n h6 (Nat.le_refl _) h5
  exact ⟨(digB_iff _ _ _).2 ⟨h1, hl.1, hl.2⟩, num_pdg f d n (fun k hk => (h6 k hk).1) hd, by omega⟩
set_option maxRecDepth 100000 in
set_option maxHeartbeats 1000000 in
theorem wFnDays (a0 : Option Addr) (n0 c0 : Nat) (z0 : List Int) (u0 : World) (h0 : IsRow .u8 u0 a0 n0 c0 z0) : Calls Try.prog 3 #[.slice a0 n0 c0] u0 fun e w' => e = .returned (.bool true) ∧ Below u0.heap.size u0 w' := by
  have H0 := Lib.hid h0; clear h0
  by_cases big : 1048576 < n0
  · go_enter Try.func3, Try.ntmps3
    go_wp2_with fail
    go_ret
    exact ⟨rfl, Below.refl _ _⟩
  go_enter Try.func3, Try.ntmps3
  go_wp2_with fail
  refine (drawPlaceDays_any a0 n0 c0 z0 _ H0.out).mono ?_
  rintro e u1 ⟨x, hx0, hx1, rfl, hb⟩
  have G1 := Lib.hid hb; clear hb H0 big
  by_cases hc : daysB x = true
  · have HC := Lib.hid hc; clear hc
    have E1 := Lib.hid (days_from HC.out)
    go_wp2_with fail
    refine ((iPlaceDays_any x u1  (by omega)).mono (fun _ _ h => RowR.as h HC.out)).mono ?_
    rintro e u2 hr
    obtain ⟨pO, mO, qO, rfl, hmO, hres, hb⟩ := hr
    obtain rfl : mO = 5 := hmO
    have g2 : Below u1.heap.size u1 u2 := hb
    have s2 : u1.heap.size ≤ u2.heap.size := g2.size
    have G2 := Lib.hid (bel_chain G1.out g2)
    have RO2 : Hid (Ls u2 pO 5 (daysF x)) := hres.ls
    clear hres hb g2
    go_wp2_with fail
    refine ((sPlaceDays_any x u2 ).mono (fun _ _ h => RowR.as h HC.out)).mono ?_
    rintro e u3 hr
    obtain ⟨pS, mS, qS, rfl, hmS, hres, hb⟩ := hr
    obtain rfl : mS = 5 := hmS
    have g3 : Below u2.heap.size u2 u3 := hb
    have s3 : u2.heap.size ≤ u3.heap.size := g3.size
    have RO3 := Lib.hid (RO2.out.below g3)
    clear RO2
    have G3 := Lib.hid (bel_chain G2.out g3)
    have RS3 : Hid (Ls u3 pS 5 (daysF x)) := hres.ls
    clear hres hb g3
    go_wp2_with fail
    refine (sameInts_yes pO pS 5 _ _ (daysF x) (daysF x) u3 RO3.out.ls RS3.out.ls (by omega) (fun _ _ => rfl)).mono ?_
    rintro e u4 ⟨rfl, hm⟩
    have g4 : Below u3.heap.size u3 u4 := hm.bel0
    have s4 : u3.heap.size ≤ u4.heap.size := g4.size
    have RO4 := Lib.hid (RO3.out.below g4)
    have RS4 := Lib.hid (RS3.out.below g4)
    clear RO3 RS3
    have G4 := Lib.hid (bel_chain G3.out g4)
    clear hm g4
    go_wp2_with fail
    refine ((iPlaceFrom_any pO 5 _ (daysF x) u4 RO4.out.ls (by omega)).mono (fun _ _ h => by rw [E1.out] at h; exact h)).mono ?_
    rintro e u5 ⟨rfl, hb⟩
    have g5 : Below u4.heap.size u4 u5 := hb
    have s5 : u4.heap.size ≤ u5.heap.size := g5.size
    have RO5 := Lib.hid (RO4.out.below g5)
    have RS5 := Lib.hid (RS4.out.below g5)
    clear RO4 RS4
    have G5 := Lib.hid (bel_chain G4.out g5)
    clear hb g5
    go_wp2_with fail
    go_ret
    exact ⟨rfl, G5.out⟩
  · have HC := Lib.hid (show daysB x = false by simpa using hc); clear hc
    go_wp2_with fail
    refine ((iPlaceDays_any x u1  (by omega)).mono (fun _ _ h => RowR.as h HC.out)).mono ?_
    rintro e u2 hr
    obtain ⟨pO, mO, qO, rfl, hmO, hres, hb⟩ := hr
    obtain rfl : mO = 0 := hmO
    have g2 : Below u1.heap.size u1 u2 := hb
    have s2 : u1.heap.size ≤ u2.heap.size := g2.size
    have G2 := Lib.hid (bel_chain G1.out g2)
    have RO2 : Hid (Ls u2 pO 0 (daysF x)) := hres.ls
    clear hres hb g2
    go_wp2_with fail
    refine ((sPlaceDays_any x u2 ).mono (fun _ _ h => RowR.as h HC.out)).mono ?_
    rintro e u3 hr
    obtain ⟨pS, mS, qS, rfl, hmS, hres, hb⟩ := hr
    obtain rfl : mS = 0 := hmS
    have g3 : Below u2.heap.size u2 u3 := hb
    have s3 : u2.heap.size ≤ u3.heap.size := g3.size
    have RO3 := Lib.hid (RO2.out.below g3)
    clear RO2
    have G3 := Lib.hid (bel_chain G2.out g3)
    have RS3 : Hid (Ls u3 pS 0 (daysF x)) := hres.ls
    clear hres hb g3
    go_wp2_with fail
    refine (sameInts_yes pO pS 0 _ _ (daysF x) (daysF x) u3 RO3.out.ls RS3.out.ls (by omega) (fun _ _ => rfl)).mono ?_
    rintro e u4 ⟨rfl, hm⟩
    have g4 : Below u3.heap.size u3 u4 := hm.bel0
    have s4 : u3.heap.size ≤ u4.heap.size := g4.size
    have RO4 := Lib.hid (RO3.out.below g4)
    have RS4 := Lib.hid (RS3.out.below g4)
    clear RO3 RS3
    have G4 := Lib.hid (bel_chain G3.out g4)
    clear hm g4
    go_wp2_with fail
    refine (sameInts_yes pO pS 0 _ _ (daysF x) (daysF x) u4 RO4.out.ls RS4.out.ls (by omega) (fun _ _ => rfl)).mono ?_
    rintro e u5 ⟨rfl, hm⟩
    have g5 : Below u4.heap.size u4 u5 := hm.bel0
    have s5 : u4.heap.size ≤ u5.heap.size := g5.size
    have RO5 := Lib.hid (RO4.out.below g5)
    have RS5 := Lib.hid (RS4.out.below g5)
    clear RO4 RS4
    have G5 := Lib.hid (bel_chain G4.out g5)
    clear hm g5
    go_wp2_with fail
    go_ret
    exact ⟨rfl, G5.out⟩
set_option maxRecDepth 100000 in
set_option maxHeartbeats 1000000 in
theorem wFnFrom (a0 : Option Addr) (n0 c0 : Nat) (z0 : List Int) (u0 : World) (h0 : IsRow .u8 u0 a0 n0 c0 z0) : Calls Try.prog 10 #[.slice a0 n0 c0] u0 fun e w' => e = .returned (.bool true) ∧ Below u0.heap.size u0 w' := by
  have H0 := Lib.hid h0; clear h0
  by_cases big : 1048576 < n0
  · go_enter Try.func10, Try.ntmps10
    go_wp2_with fail
    go_ret
    exact ⟨rfl, Below.refl _ _⟩
  go_enter Try.func10, Try.ntmps10
  go_wp2_with fail
  refine (drawPlaceFrom_any a0 n0 c0 z0 _ H0.out).mono ?_
  rintro e u1 ⟨va, n, vc, f, rfl, hv, hn, hf, hb⟩
  have G1 := Lib.hid hb; clear hb H0 big
  have RV1 := Lib.hid hv; clear hv hf
  by_cases hc : fromB f n = true
  · have HC := Lib.hid hc; clear hc
    obtain ⟨d1, d2⟩ := from_days HC.out
    obtain rfl : n = 5 := ((fromB_iff f n).1 HC.out).1
    have E1 := Lib.hid (fromR_yes f 5 HC.out); have E2 := Lib.hid d1; have E3 := Lib.hid d2
    have E4 : Hid (numR4 dayp 5 f 5 = .tuple #[.int .i64 (fromV f), .bool true]) := by show _ = _; rw [num_day]; exact E1.out
    have E5 : fromV f ≤ 9223372036854775807 := by have := of_decide_eq_true d1; omega
    clear d1 d2
    generalize fromV f = N at *
    go_wp2_with fail
    refine ((iPlaceFrom_any va 5 _ f u1 RV1.out.ls (by omega)).mono (fun _ _ h => by rw [E1.out] at h; exact h)).mono ?_
    rintro e u2 ⟨rfl, hb⟩
    have g2 : Below u1.heap.size u1 u2 := hb
    have s2 : u1.heap.size ≤ u2.heap.size := g2.size
    have RV2 := Lib.hid (RV1.out.below g2)
    clear RV1
    have G2 := Lib.hid (bel_chain G1.out g2)
    clear hb g2
    go_wp2_with fail
    refine ((sPlaceFrom_any va 5 _ f u2 RV2.out.ls (by omega)).mono (fun _ _ h => by rw [E1.out] at h; exact h)).mono ?_
    rintro e u3 ⟨rfl, hm⟩
    have g3 : Below u2.heap.size u2 u3 := hm.bel0
    have s3 : u2.heap.size ≤ u3.heap.size := g3.size
    have RV3 := Lib.hid (RV2.out.below g3)
    clear RV2
    have G3 := Lib.hid (bel_chain G2.out g3)
    clear hm g3
    go_wp2_with fail
    refine ((iPlaceDays_any N u3  E5).mono (fun _ _ h => RowR.as h E2.out)).mono ?_
    rintro e u4 hr
    obtain ⟨pX, mX, qX, rfl, hmX, hres, hb⟩ := hr
    obtain rfl : mX = 5 := hmX
    have g4 : Below u3.heap.size u3 u4 := hb
    have s4 : u3.heap.size ≤ u4.heap.size := g4.size
    have RV4 := Lib.hid (RV3.out.below g4)
    clear RV3
    have G4 := Lib.hid (bel_chain G3.out g4)
    have RX4 : Hid (Ls u4 pX 5 (daysF N)) := hres.ls
    clear hres hb g4
    have ho := Own.new u4 5 dayp
    have hb : Below u4.heap.size u4 (u4.alloc (.cells (intCells dayp 5).toArray 3)) := (Below.refl _ _).alloc (Nat.le_refl _) _
    have HO := Lib.hid ho; have HBL := Lib.hid hb; clear ho hb
    go_wp2_with fail
    change Calls Try.prog 20 #[.slice (some ⟨u4.heap.size, 0, none⟩) 5 5, .slice va 5 vc] (u4.alloc (.cells (intCells dayp 5).toArray 3)) _
    obtain ⟨u5, hu⟩ : ∃ u5, u5 = u4.alloc (.cells (intCells dayp 5).toArray 3) := ⟨_, rfl⟩
    rw [← hu] at HO HBL ⊢
    clear hu
    have g5 : Below u4.heap.size u4 u5 := HBL.out
    have s5 := g5.size
    have RV5 := Lib.hid (RV4.out.below g5)
    have RX5 := Lib.hid (RX4.out.below g5)
    clear RV4 RX4
    have G5 := Lib.hid (bel_chain G4.out g5)
    have RL5 := Lib.hid HO.out.row.ls
    clear HO HBL g5
    refine ((iPlaceNumber_any (some ⟨u4.heap.size, 0, none⟩) va 5 5 _ _ dayp f u5 RL5.out RV5.out (by omega) (by omega)).mono (fun _ _ h => by rw [E4.out] at h; exact h)).mono ?_
    rintro e u6 ⟨rfl, hb⟩
    have g6 : Below u5.heap.size u5 u6 := hb
    have s6 := g6.size
    have RV6 := Lib.hid (RV5.out.below g6)
    have RX6 := Lib.hid (RX5.out.below g6)
    have RL6 := Lib.hid (RL5.out.below g6)
    clear RV5 RX5 RL5
    have G6 := Lib.hid (bel_chain G5.out g6)
    clear hb g6
    go_wp2_with fail
    refine (sameInts_yes pX va 5 _ _ (daysF N) f u6 RX6.out.ls RV6.out.ls (by omega) E3.out).mono ?_
    rintro e u7 ⟨rfl, hm⟩
    have g7 : Below u6.heap.size u6 u7 := hm.bel0
    have s7 : u6.heap.size ≤ u7.heap.size := g7.size
    have RV7 := Lib.hid (RV6.out.below g7)
    have RX7 := Lib.hid (RX6.out.below g7)
    have RL7 := Lib.hid (RL6.out.below g7)
    clear RV6 RX6 RL6
    have G7 := Lib.hid (bel_chain G6.out g7)
    clear hm g7
    go_wp2_with fail
    go_ret
    exact ⟨rfl, G7.out⟩
  · have HC := Lib.hid (show fromB f n = false by simpa using hc); clear hc
    have E1 := Lib.hid (fromR_no f n (by rw [HC.out]; simp))
    go_wp2_with fail
    refine ((iPlaceFrom_any va n _ f u1 RV1.out.ls (by omega)).mono (fun _ _ h => by rw [E1.out] at h; exact h)).mono ?_
    rintro e u2 ⟨rfl, hb⟩
    have g2 : Below u1.heap.size u1 u2 := hb
    have s2 : u1.heap.size ≤ u2.heap.size := g2.size
    have RV2 := Lib.hid (RV1.out.below g2)
    clear RV1
    have G2 := Lib.hid (bel_chain G1.out g2)
    clear hb g2
    go_wp2_with fail
    refine ((sPlaceFrom_any va n _ f u2 RV2.out.ls (by omega)).mono (fun _ _ h => by rw [E1.out] at h; exact h)).mono ?_
    rintro e u3 ⟨rfl, hm⟩
    have g3 : Below u2.heap.size u2 u3 := hm.bel0
    have s3 : u2.heap.size ≤ u3.heap.size := g3.size
    have RV3 := Lib.hid (RV2.out.below g3)
    clear RV2
    have G3 := Lib.hid (bel_chain G2.out g3)
    clear hm g3
    go_wp2_with fail
    go_ret
    exact ⟨rfl, G3.out⟩
set_option maxRecDepth 100000 in
set_option maxHeartbeats 1000000 in
theorem wFnDigits (a0 : Option Addr) (n0 c0 : Nat) (z0 : List Int) (u0 : World) (h0 : IsRow .u8 u0 a0 n0 c0 z0) : Calls Try.prog 4 #[.slice a0 n0 c0] u0 fun e w' => e = .returned (.bool true) ∧ Below u0.heap.size u0 w' := by
  have H0 := Lib.hid h0; clear h0
  by_cases big : 1048576 < n0
  · go_enter Try.func4, Try.ntmps4
    go_wp2_with fail
    go_ret
    exact ⟨rfl, Below.refl _ _⟩
  go_enter Try.func4, Try.ntmps4
  go_wp2_with fail
  refine (drawPlaceDigits_any a0 n0 c0 z0 _ H0.out).mono ?_
  rintro e u1 ⟨va, n, vc, f, N, rfl, hv, hn, hf, hN0, hN1, hb⟩
  have G1 := Lib.hid hb; clear hb H0 big
  have RV1 := Lib.hid hv; clear hv hf
  by_cases hc : digB f n N = true
  · have HC := Lib.hid hc; clear hc
    obtain ⟨d1, d2⟩ := dig_num HC.out
    have E1 := Lib.hid d1; have E2 := Lib.hid d2; clear d1 d2
    go_wp2_with fail
    refine ((iPlaceDigits_any va n _ f N u1 RV1.out.ls (by omega) (by omega)).mono (fun _ _ h => RowR.as h HC.out)).mono ?_
    rintro e u2 hr
    obtain ⟨pO, mO, qO, rfl, hmO, hres, hb⟩ := hr
    obtain rfl : n = mO := hmO.symm
    clear hmO
    have g2 : Below u1.heap.size u1 u2 := hb
    have s2 : u1.heap.size ≤ u2.heap.size := g2.size
    have RV2 := Lib.hid (RV1.out.below g2)
    clear RV1
    have G2 := Lib.hid (bel_chain G1.out g2)
    have RO2 : Hid (Ls u2 pO n (pdg f n N)) := hres.ls
    clear hres hb g2
    go_wp2_with fail
    refine ((sPlaceDigits_any va n _ f N u2 RV2.out.ls (by omega)).mono (fun _ _ h => RowR.as h HC.out)).mono ?_
    rintro e u3 hr
    obtain ⟨pS, mS, qS, rfl, hmS, hres, hb⟩ := hr
    obtain rfl : n = mS := hmS.symm
    clear hmS
    have g3 : Below u2.heap.size u2 u3 := hb
    have s3 : u2.heap.size ≤ u3.heap.size := g3.size
    have RV3 := Lib.hid (RV2.out.below g3)
    have RO3 := Lib.hid (RO2.out.below g3)
    clear RV2 RO2
    have G3 := Lib.hid (bel_chain G2.out g3)
    have RS3 : Hid (Ls u3 pS n (pdg f n N)) := hres.ls
    clear hres hb g3
    go_wp2_with fail
    refine (sameInts_yes pO pS n _ _ (pdg f n N) (pdg f n N) u3 RO3.out.ls RS3.out.ls (by omega) (fun _ _ => rfl)).mono ?_
    rintro e u4 ⟨rfl, hm⟩
    have g4 : Below u3.heap.size u3 u4 := hm.bel0
    have s4 : u3.heap.size ≤ u4.heap.size := g4.size
    have RV4 := Lib.hid (RV3.out.below g4)
    have RO4 := Lib.hid (RO3.out.below g4)
    have RS4 := Lib.hid (RS3.out.below g4)
    clear RV3 RO3 RS3
    have G4 := Lib.hid (bel_chain G3.out g4)
    clear hm g4
    go_wp2_with fail
    refine ((iPlaceNumber_any va pO n n _ _ f (pdg f n N) u4 RV4.out.ls RO4.out.ls (by omega) (by omega)).mono (fun _ _ h => by rw [E1.out] at h; exact h)).mono ?_
    rintro e u5 ⟨rfl, hb⟩
    have g5 : Below u4.heap.size u4 u5 := hb
    have s5 : u4.heap.size ≤ u5.heap.size := g5.size
    have RV5 := Lib.hid (RV4.out.below g5)
    have RO5 := Lib.hid (RO4.out.below g5)
    have RS5 := Lib.hid (RS4.out.below g5)
    clear RV4 RO4 RS4
    have G5 := Lib.hid (bel_chain G4.out g5)
    clear hb g5
    go_wp2_with fail
    go_loopw [11] (fun i wr => ∃ k q : Nat, i = .int .i64 k ∧ k ≤ n ∧ wr = u5.drewN q) (fun i _ => n - (intOf i).toNat)
    case atStart => exact ⟨0, 0, rfl, by omega, rfl⟩
    case round =>
      obtain ⟨k, q, rfl, hk, rfl⟩ := hrel
      by_cases hlt : k < n
      · obtain ⟨b1, o1, rfl, hb1, hc1⟩ := RV5.out k hlt
        obtain ⟨b2, o2, rfl, hb2, hc2⟩ := RO5.out k hlt
        obtain ⟨hd0, hd1⟩ := E2.out k hlt
        have t1 : decide (pdg f n N k < 0) = false := decide_eq_false (by omega)
        have t2 : decide (pdg f n N k ≥ f k) = false := decide_eq_false (by omega)
        generalize pdg f n N k = y at *
        generalize f k = x at *
        go_wp2_with fail
        go_quiet (fail)
        go_wp2_with fail
        go_roundw
        case rel => exact ⟨k + 1, _, by go_num, by omega, rfl⟩
        case measure => simp [intOf]; omega
      · go_wp2_with fail
        go_ret
        exact ⟨rfl, bel_chain G5.out ((Mid.refl 0 0 _).drewN _).bel0⟩
  · have HC := Lib.hid (show digB f n N = false by simpa using hc); clear hc
    go_wp2_with fail
    refine ((iPlaceDigits_any va n _ f N u1 RV1.out.ls (by omega) (by omega)).mono (fun _ _ h => RowR.as h HC.out)).mono ?_
    rintro e u2 hr
    obtain ⟨pO, mO, qO, rfl, hmO, hres, hb⟩ := hr
    obtain rfl : mO = 0 := hmO
    have g2 : Below u1.heap.size u1 u2 := hb
    have s2 : u1.heap.size ≤ u2.heap.size := g2.size
    have RV2 := Lib.hid (RV1.out.below g2)
    clear RV1
    have G2 := Lib.hid (bel_chain G1.out g2)
    have RO2 : Hid (Ls u2 pO 0 (pdg f n N)) := hres.ls
    clear hres hb g2
    go_wp2_with fail
    refine ((sPlaceDigits_any va n _ f N u2 RV2.out.ls (by omega)).mono (fun _ _ h => RowR.as h HC.out)).mono ?_
    rintro e u3 hr
    obtain ⟨pS, mS, qS, rfl, hmS, hres, hb⟩ := hr
    obtain rfl : mS = 0 := hmS
    have g3 : Below u2.heap.size u2 u3 := hb
    have s3 : u2.heap.size ≤ u3.heap.size := g3.size
    have RV3 := Lib.hid (RV2.out.below g3)
    have RO3 := Lib.hid (RO2.out.below g3)
    clear RV2 RO2
    have G3 := Lib.hid (bel_chain G2.out g3)
    have RS3 : Hid (Ls u3 pS 0 (pdg f n N)) := hres.ls
    clear hres hb g3
    go_wp2_with fail
    refine (sameInts_yes pO pS 0 _ _ (pdg f n N) (pdg f n N) u3 RO3.out.ls RS3.out.ls (by omega) (fun _ _ => rfl)).mono ?_
    rintro e u4 ⟨rfl, hm⟩
    have g4 : Below u3.heap.size u3 u4 := hm.bel0
    have s4 : u3.heap.size ≤ u4.heap.size := g4.size
    have RV4 := Lib.hid (RV3.out.below g4)
    have RO4 := Lib.hid (RO3.out.below g4)
    have RS4 := Lib.hid (RS3.out.below g4)
    clear RV3 RO3 RS3
    have G4 := Lib.hid (bel_chain G3.out g4)
    clear hm g4
    go_wp2_with fail
    refine (sameInts_yes pO pS 0 _ _ (pdg f n N) (pdg f n N) u4 RO4.out.ls RS4.out.ls (by omega) (fun _ _ => rfl)).mono ?_
    rintro e u5 ⟨rfl, hm⟩
    have g5 : Below u4.heap.size u4 u5 := hm.bel0
    have s5 : u4.heap.size ≤ u5.heap.size := g5.size
    have RV5 := Lib.hid (RV4.out.below g5)
    have RO5 := Lib.hid (RO4.out.below g5)
    have RS5 := Lib.hid (RS4.out.below g5)
    clear RV4 RO4 RS4
    have G5 := Lib.hid (bel_chain G4.out g5)
    clear hm g5
    go_wp2_with fail
    go_ret
    exact ⟨rfl, G5.out⟩
set_option maxRecDepth 100000 in
set_option maxHeartbeats 1000000 in
theorem wFnNumber (a0 : Option Addr) (n0 c0 : Nat) (z0 : List Int) (u0 : World) (h0 : IsRow .u8 u0 a0 n0 c0 z0) : Calls Try.prog 11 #[.slice a0 n0 c0] u0 fun e w' => e = .returned (.bool true) ∧ Below u0.heap.size u0 w' := by
  have H0 := Lib.hid h0; clear h0
  by_cases big : 1048576 < n0
  · go_enter Try.func11, Try.ntmps11
    go_wp2_with fail
    go_ret
    exact ⟨rfl, Below.refl _ _⟩
  go_enter Try.func11, Try.ntmps11
  go_wp2_with fail
  refine (drawPlaceNumber_any a0 n0 c0 z0 _ H0.out).mono ?_
  rintro e u1 ⟨va, da, n, m, vc, dc, f, d, rfl, hv, hd, hn, hm, hb⟩
  have G1 := Lib.hid hb; clear hb H0 big
  have RV1 := Lib.hid hv; have RD1 := Lib.hid hd; clear hv hd
  by_cases hc : numB4 f n d m = true
  · have HC := Lib.hid hc; clear hc
    obtain ⟨d1, d2, d3⟩ := num_dig HC.out
    obtain rfl : m = n := ((numB4_iff f n d m).1 HC.out).2.1
    have E1 := Lib.hid (numR4_yes HC.out); have E2 := Lib.hid d1; have E3 := Lib.hid d2; clear d1 d2
    generalize dnum f d m = N at *
    go_wp2_with fail
    refine ((iPlaceNumber_any va da m m _ _ f d u1 RV1.out.ls RD1.out.ls (by omega) (by omega)).mono (fun _ _ h => by rw [E1.out] at h; exact h)).mono ?_
    rintro e u2 ⟨rfl, hb⟩
    have g2 : Below u1.heap.size u1 u2 := hb
    have s2 : u1.heap.size ≤ u2.heap.size := g2.size
    have RV2 := Lib.hid (RV1.out.below g2)
    have RD2 := Lib.hid (RD1.out.below g2)
    clear RV1 RD1
    have G2 := Lib.hid (bel_chain G1.out g2)
    clear hb g2
    go_wp2_with fail
    refine ((sPlaceNumber_any va da m m _ _ f d u2 RV2.out.ls RD2.out.ls (by omega) (by omega)).mono (fun _ _ h => by rw [E1.out] at h; exact h)).mono ?_
    rintro e u3 ⟨rfl, hm⟩
    have g3 : Below u2.heap.size u2 u3 := hm.bel0
    have s3 : u2.heap.size ≤ u3.heap.size := g3.size
    have RV3 := Lib.hid (RV2.out.below g3)
    have RD3 := Lib.hid (RD2.out.below g3)
    clear RV2 RD2
    have G3 := Lib.hid (bel_chain G2.out g3)
    clear hm g3
    go_wp2_with fail
    refine ((iPlaceDigits_any va m _ f N u3 RV3.out.ls (by omega) d3).mono (fun _ _ h => RowR.as h E2.out)).mono ?_
    rintro e u4 hr
    obtain ⟨pO, mO, qO, rfl, hmO, hres, hb⟩ := hr
    obtain rfl : m = mO := hmO.symm
    clear hmO
    have g4 : Below u3.heap.size u3 u4 := hb
    have s4 : u3.heap.size ≤ u4.heap.size := g4.size
    have RV4 := Lib.hid (RV3.out.below g4)
    have RD4 := Lib.hid (RD3.out.below g4)
    clear RV3 RD3
    have G4 := Lib.hid (bel_chain G3.out g4)
    have RO4 : Hid (Ls u4 pO m (pdg f m N)) := hres.ls
    clear hres hb g4
    go_wp2_with fail
    refine (sameInts_yes pO da m _ _ (pdg f m N) d u4 RO4.out.ls RD4.out.ls (by omega) E3.out).mono ?_
    rintro e u5 ⟨rfl, hm⟩
    have g5 : Below u4.heap.size u4 u5 := hm.bel0
    have s5 : u4.heap.size ≤ u5.heap.size := g5.size
    have RV5 := Lib.hid (RV4.out.below g5)
    have RD5 := Lib.hid (RD4.out.below g5)
    have RO5 := Lib.hid (RO4.out.below g5)
    clear RV4 RD4 RO4
    have G5 := Lib.hid (bel_chain G4.out g5)
    clear hm g5
    go_wp2_with fail
    go_ret
    exact ⟨rfl, G5.out⟩
  · have HC := Lib.hid (show numB4 f n d m = false by simpa using hc); clear hc
    have E1 := Lib.hid (numR4_no (f := f) (n := n) (d := d) (m := m) (by rw [HC.out]; simp))
    go_wp2_with fail
    refine ((iPlaceNumber_any va da n m _ _ f d u1 RV1.out.ls RD1.out.ls (by omega) (by omega)).mono (fun _ _ h => by rw [E1.out] at h; exact h)).mono ?_
    rintro e u2 ⟨rfl, hb⟩
    have g2 : Below u1.heap.size u1 u2 := hb
    have s2 : u1.heap.size ≤ u2.heap.size := g2.size
    have RV2 := Lib.hid (RV1.out.below g2)
    have RD2 := Lib.hid (RD1.out.below g2)
    clear RV1 RD1
    have G2 := Lib.hid (bel_chain G1.out g2)
    clear hb g2
    go_wp2_with fail
    refine ((sPlaceNumber_any va da n m _ _ f d u2 RV2.out.ls RD2.out.ls (by omega) (by omega)).mono (fun _ _ h => by rw [E1.out] at h; exact h)).mono ?_
    rintro e u3 ⟨rfl, hm⟩
    have g3 : Below u2.heap.size u2 u3 := hm.bel0
    have s3 : u2.heap.size ≤ u3.heap.size := g3.size
    have RV3 := Lib.hid (RV2.out.below g3)
    have RD3 := Lib.hid (RD2.out.below g3)
    clear RV2 RD2
    have G3 := Lib.hid (bel_chain G2.out g3)
    clear hm g3
    go_wp2_with fail
    go_ret
    exact ⟨rfl, G3.out⟩
end Go.Proofs.Ytejhiilkbckobaa
