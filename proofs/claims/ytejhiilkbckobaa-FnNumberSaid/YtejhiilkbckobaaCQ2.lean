/- The program's chapter 4: areIn, PlaceDays, PlaceFrom, PlaceDigits, PlaceNumber. -/
import Derived.Test.YtejhiilkbckobaaCQ
namespace Go.Proofs.Ytejhiilkbckobaa
open Go.RowKit
set_option linter.unusedVariables false
set_option maxRecDepth 100000
theorem fold_min (r : List Int) : ∀ x : Int, 2 ≤ r.foldl min x ↔ 2 ≤ x ∧ ∀ z ∈ r, 2 ≤ z := by
  induction r with
  | nil => intro x; simp
  | cons y r ih =>
    intro x
    rw [List.foldl_cons, ih]
    simp only [List.mem_cons, forall_eq_or_imp]
    constructor
    · rintro ⟨h, h2⟩; exact ⟨by omega, by omega, h2⟩
    · rintro ⟨h, h1, h2⟩; exact ⟨by omega, h2⟩
theorem fold_max (r : List Int) : ∀ x : Int, r.foldl max x ≤ 100 ↔ x ≤ 100 ∧ ∀ z ∈ r, z ≤ 100 := by
  induction r with
  | nil => intro x; simp
  | cons y r ih =>
    intro x
    rw [List.foldl_cons, ih]
    simp only [List.mem_cons, forall_eq_or_imp]
    constructor
    · rintro ⟨h, h2⟩; exact ⟨by omega, by omega, h2⟩
    · rintro ⟨h, h1, h2⟩; exact ⟨by omega, h2⟩
def rowL (f : Nat → Int) (n : Nat) : List Int := (List.range n).map f
theorem rowL_len (f : Nat → Int) (n : Nat) : (rowL f n).length = n := by simp [rowL]
theorem rowL_at (f : Nat → Int) (n j : Nat) (h : j < n) : (rowL f n).getD j 0 = f j := by simp [rowL, List.getD_eq_getElem?_getD, h]
theorem rowL_mem (f : Nat → Int) (n : Nat) (z : Int) : z ∈ rowL f n ↔ ∃ j, j < n ∧ f j = z := by simp [rowL]
theorem rowL_cons (f : Nat → Int) (n : Nat) (h : 0 < n) : ∃ r, rowL f n = f 0 :: r := by
  obtain ⟨m, rfl⟩ : ∃ m, n = m + 1 := ⟨n - 1, by omega⟩
  exact ⟨_, by unfold rowL; rw [List.range_succ_eq_map, List.map_cons]⟩
def mnP (f : Nat → Int) (n : Nat) : Int := Lib.minOf (rowL f n)
def mxP (f : Nat → Int) (n : Nat) : Int := Lib.maxOf (rowL f n)
theorem mnP_iff (f : Nat → Int) (n : Nat) (h : 0 < n) : 2 ≤ mnP f n ↔ ∀ j, j < n → 2 ≤ f j := by
  obtain ⟨r, e⟩ := rowL_cons f n h
  unfold mnP Lib.minOf
  rw [fold_min]
  constructor
  · rintro ⟨_, h⟩ j hj; exact h _ ((rowL_mem f n _).2 ⟨j, hj, rfl⟩)
  · intro h'
    refine ⟨by rw [e]; exact h' 0 h, fun z hz => ?_⟩
    obtain ⟨j, hj, rfl⟩ := (rowL_mem f n z).1 hz
    exact h' j hj
theorem mxP_iff (f : Nat → Int) (n : Nat) (h : 0 < n) : mxP f n ≤ 100 ↔ ∀ j, j < n → f j ≤ 100 := by
  obtain ⟨r, e⟩ := rowL_cons f n h
  unfold mxP Lib.maxOf
  rw [fold_max]
  constructor
  · rintro ⟨_, h⟩ j hj; exact h _ ((rowL_mem f n _).2 ⟨j, hj, rfl⟩)
  · intro h'
    refine ⟨by rw [e]; exact h' 0 h, fun z hz => ?_⟩
    obtain ⟨j, hj, rfl⟩ := (rowL_mem f n z).1 hz
    exact h' j hj
theorem min_any (b off n c : Nat) (f : Nat → Int) (w : World) (h0 : 0 < n) (hn : n ≤ 6) (hc : ∀ j, j < n → w.cell? ⟨b, off + j, none⟩ = some (.int .i64 (f j))) :
    Calls Try.prog 44 #[.slice (some ⟨b, off, none⟩) n c] w fun e w' => e = .returned (.int .i64 (mnP f n)) ∧ w' = w := by
  have := AnyG.slices_Min_int Try.minL b off n c (rowL f n) w h0 (by rw [rowL_len]; exact Nat.le_refl _) (by omega) (fun j hj => by rw [rowL_len] at hj; rw [rowL_at f n j hj]; exact hc j hj)
  rw [List.take_of_length_le (by rw [rowL_len]; exact Nat.le_refl _)] at this
  exact this
theorem max_any (b off n c : Nat) (f : Nat → Int) (w : World) (h0 : 0 < n) (hn : n ≤ 6) (hc : ∀ j, j < n → w.cell? ⟨b, off + j, none⟩ = some (.int .i64 (f j))) :
    Calls Try.prog 45 #[.slice (some ⟨b, off, none⟩) n c] w fun e w' => e = .returned (.int .i64 (mxP f n)) ∧ w' = w := by
  have := AnyG.slices_Max_int Try.maxL b off n c (rowL f n) w h0 (by rw [rowL_len]; exact Nat.le_refl _) (by omega) (fun j hj => by rw [rowL_len] at hj; rw [rowL_at f n j hj]; exact hc j hj)
  rw [List.take_of_length_le (by rw [rowL_len]; exact Nat.le_refl _)] at this
  exact this
theorem areIn_any (a : Option Addr) (n c : Nat) (f : Nat → Int) (w : World) (h : Ls w a n f) (hn : n ≤ 10000000) :
    Calls Try.prog 38 #[.slice a n c] w fun e w' => e = .returned (.bool (plcB f n)) ∧ w = w' := by
  have H := Lib.hid h; clear h
  by_cases h1 : n < 1
  · have HB : Hid (plcB f n = false) := Lib.hid (by rw [Bool.eq_false_iff]; intro h; have := (plcB_iff f n).1 h; omega)
    have t1 : decide ((n : Int) < 1) = true := decide_eq_true (by omega)
    go_enter Try.func38, Try.ntmps38
    go_wp2_with fail
    go_ret
    exact ⟨by rw [HB.out]; rfl, rfl⟩
  · have t1 : decide ((n : Int) < 1) = false := decide_eq_false (by omega)
    by_cases h6 : 6 < n
    · have HB : Hid (plcB f n = false) := Lib.hid (by rw [Bool.eq_false_iff]; intro h; have := (plcB_iff f n).1 h; omega)
      have t2 : decide ((n : Int) > 6) = true := decide_eq_true (by omega)
      go_enter Try.func38, Try.ntmps38
      go_wp2_with fail
      go_ret
      exact ⟨by rw [HB.out]; rfl, rfl⟩
    · have t2 : decide ((n : Int) > 6) = false := decide_eq_false (by omega)
      obtain ⟨b, off, rfl, hb, hc⟩ := H.out.pos (by omega)
      have MN := Lib.hid (min_any b off n c f w (by omega) (by omega) hc)
      have MX := Lib.hid (max_any b off n c f w (by omega) (by omega) hc)
      have I1 := Lib.hid (mnP_iff f n (by omega))
      have I2 := Lib.hid (mxP_iff f n (by omega))
      clear hc
      by_cases g1 : 2 ≤ mnP f n
      · by_cases g2 : mxP f n ≤ 100
        · have HB : Hid (plcB f n = true) := Lib.hid ((plcB_iff f n).2 ⟨by omega, by omega, fun j hj => ⟨I1.out.1 g1 j hj, I2.out.1 g2 j hj⟩⟩)
          generalize mnP f n = x at *
          generalize mxP f n = y at *
          have q1 : decide (x ≥ 2) = true := decide_eq_true g1
          have q2 : decide (y ≤ 100) = true := decide_eq_true g2
          go_enter Try.func38, Try.ntmps38
          go_wp2_with fail
          refine MN.out.mono ?_
          rintro e w1 ⟨rfl, rfl⟩
          go_wp2_with fail
          refine MX.out.mono ?_
          rintro e w1 ⟨rfl, rfl⟩
          go_wp2_with fail
          go_ret
          exact ⟨by rw [HB.out]; rfl, rfl⟩
        · have HB : Hid (plcB f n = false) := Lib.hid (by rw [Bool.eq_false_iff]; intro h; exact g2 (I2.out.2 fun j hj => (((plcB_iff f n).1 h).2.2 j hj).2))
          generalize mnP f n = x at *
          generalize mxP f n = y at *
          have q1 : decide (x ≥ 2) = true := decide_eq_true g1
          have q2 : decide (y ≤ 100) = false := decide_eq_false g2
          go_enter Try.func38, Try.ntmps38
          go_wp2_with fail
          refine MN.out.mono ?_
          rintro e w1 ⟨rfl, rfl⟩
          go_wp2_with fail
          refine MX.out.mono ?_
          rintro e w1 ⟨rfl, rfl⟩
          go_wp2_with fail
          go_ret
          exact ⟨by rw [HB.out]; rfl, rfl⟩
      · have HB : Hid (plcB f n = false) := Lib.hid (by rw [Bool.eq_false_iff]; intro h; exact g1 (I1.out.2 fun j hj => (((plcB_iff f n).1 h).2.2 j hj).1))
        generalize mnP f n = x at *
        have q1 : decide (x ≥ 2) = false := decide_eq_false g1
        go_enter Try.func38, Try.ntmps38
        go_wp2_with fail
        refine MN.out.mono ?_
        rintro e w1 ⟨rfl, rfl⟩
        go_wp2_with fail
        go_ret
        exact ⟨by rw [HB.out]; rfl, rfl⟩
theorem RowR.congr {w w' : World} {f g : Nat → Int} {n : Nat} {ok : Bool} {e : Ending} (h : RowR w w' f n ok e) (hfg : ok = true → ∀ k, k < n → f k = g k) : RowR w w' g n ok e := by
  obtain ⟨a, m, c, he, hm, hr, hb⟩ := h
  refine ⟨a, m, c, he, hm, ?_, hb⟩
  cases ok with
  | false => simp at hm; subst hm; exact .inl rfl
  | true => simp at hm; subst hm; exact hr.congr (hfg rfl)
theorem RowR.after {w0 w w' : World} {f : Nat → Int} {n : Nat} {ok : Bool} {e : Ending} (h : RowR w w' f n ok e) (g : Below w0.heap.size w0 w) : RowR w0 w' f n ok e := by
  obtain ⟨a, m, c, he, hm, hr, hb⟩ := h
  exact ⟨a, m, c, he, hm, hr.mono g.size (Nat.le_refl _), g.trans (hb.mono g.size)⟩
theorem dayp_in : ∀ k, k < 5 → 2 ≤ dayp k ∧ dayp k ≤ 100 := by
  intro k _; unfold dayp; split <;> omega
theorem dayp_prd : prd dayp 5 = 2880000 := by decide
theorem day_dig (n : Int) (h : 0 ≤ n ∧ n ≤ 2879999) : ∀ k, k < 5 → pdg dayp 5 n k = daysF n k := by
  intro k hk
  rcases (show k = 0 ∨ k = 1 ∨ k = 2 ∨ k = 3 ∨ k = 4 by omega) with rfl | rfl | rfl | rfl | rfl <;> simp [pdg, lft, dayp, daysF] <;> omega
theorem dgB_day (n : Int) : dgB dayp 5 n = daysB n := by
  unfold dgB daysB
  rw [dayp_prd, decide_eq_decide]
  omega
theorem iPlaceDays_any (n : Int) (w : World) (hn : n ≤ 9223372036854775807) : Calls Try.prog 13 #[.int .i64 n] w fun e w' => RowR w w' (daysF n) 5 (daysB n) e := by
  go_enter Try.func13, Try.ntmps13
  go_wp2_with fail
  refine (dayPlaces_any w).mono ?_
  rintro e w1 ⟨b, rfl, hb0, hb1, ho, hb⟩
  have HL := Lib.hid ho.row.ls; have HB := Lib.hid hb; clear ho hb
  go_wp2_with fail
  refine (digitsOf_any _ 5 5 dayp n w1 HL.out (by omega) dayp_in hn).mono ?_
  rintro e w2 hr
  have hr2 := (hr.congr (g := daysF n) fun hok => day_dig n (by rw [dgB_day] at hok; exact of_decide_eq_true hok)).after HB.out
  rw [dgB_day] at hr2
  obtain ⟨a, m, c, rfl, hm, hres, hbel⟩ := hr2
  clear hr HL
  have HM := Lib.hid hm; have HR := Lib.hid hres; have HB2 := Lib.hid hbel; clear hm hres hbel
  go_wp2_with fail
  go_ret2
  exact ⟨a, m, c, rfl, HM.out, HR.out, HB2.out⟩
theorem dayp_plc : plcB dayp 5 = true := (plcB_iff _ _).2 ⟨by omega, by omega, dayp_in⟩
theorem num_day (d : Nat → Int) (m : Nat) : numR4 dayp 5 d m = fromR d m := by
  by_cases h : fromB d m = true
  · have h2 := (fromB_iff d m).1 h
    have h3 : numB4 dayp 5 d m = true := (numB4_iff _ _ _ _).2 ⟨dayp_plc, h2.1, fun j hj => by
      obtain ⟨a, b, c⟩ := h2.2 j hj
      unfold dayp
      split
      · rename_i e; have := c e; omega
      · omega⟩
    rw [fromR_yes d m h, numR4_yes h3]
    have : dnum dayp d 5 = fromV d := by simp [dnum, dayp, fromV]; omega
    rw [this]
  · rw [fromR_no d m h, numR4_no]
    intro h3
    obtain ⟨_, a, b⟩ := (numB4_iff _ _ _ _).1 h3
    refine h ((fromB_iff d m).2 ⟨a, fun j hj => ?_⟩)
    have := b j hj
    unfold dayp at this
    unfold dayOk
    split at this
    · omega
    · exact ⟨by omega, by omega, fun e => by omega⟩
theorem numR4_form (f : Nat → Int) (n : Nat) (d : Nat → Int) (m : Nat) : ∃ x ok, numR4 f n d m = .tuple #[.int .i64 x, .bool ok] := by
  unfold numR4
  split
  · exact ⟨_, _, rfl⟩
  · exact ⟨_, _, rfl⟩
theorem iPlaceFrom_any (a : Option Addr) (n c : Nat) (f : Nat → Int) (w : World) (h : Ls w a n f) (hn : n ≤ 10000000) :
    Calls Try.prog 16 #[.slice a n c] w fun e w' => e = .returned (fromR f n) ∧ Below w.heap.size w w' := by
  have H := Lib.hid h; clear h
  have E := Lib.hid (num_day f n)
  rw [← E.out]
  go_enter Try.func16, Try.ntmps16
  go_wp2_with fail
  refine (dayPlaces_any w).mono ?_
  rintro e w1 ⟨b, rfl, hb0, hb1, ho, hb⟩
  have HL := Lib.hid ho.row.ls; have HB := Lib.hid hb; have HI := Lib.hid (H.out.below hb); clear ho hb
  go_wp2_with fail
  refine (numberOf_any _ a 5 n 5 c dayp f w1 HL.out HI.out dayp_plc hn).mono ?_
  obtain ⟨x, ok, hx⟩ := numR4_form dayp 5 f n
  have HX := Lib.hid hx
  rw [hx]
  clear hx
  rintro e w2 ⟨rfl, hb2⟩
  have HB2 := Lib.hid (HB.out.trans (hb2.mono HB.out.size)); clear hb2
  go_wp2_with fail
  go_ret2
  exact ⟨ret_v HX.out.symm, HB2.out⟩
theorem digB_dg (f : Nat → Int) (n : Nat) (N : Int) (h : plcB f n = true) : digB f n N = dgB f n N := by
  rw [Bool.eq_iff_iff, digB_iff]
  unfold dgB
  rw [decide_eq_true_eq]
  exact ⟨fun h => ⟨h.2.1, h.2.2⟩, fun h' => ⟨h, h'.1, h'.2⟩⟩
theorem iPlaceDigits_any (a : Option Addr) (n c : Nat) (f : Nat → Int) (N : Int) (w : World) (h : Ls w a n f) (hn : n ≤ 10000000) (hN : N ≤ 9223372036854775807) :
    Calls Try.prog 18 #[.slice a n c, .int .i64 N] w fun e w' => RowR w w' (pdg f n N) n (digB f n N) e := by
  have P := Lib.hid (areIn_any a n c f w h hn)
  have H := Lib.hid h; clear h
  by_cases hp : plcB f n = true
  · obtain ⟨p2, p3, p4⟩ := (plcB_iff f n).1 hp
    have D := Lib.hid (digitsOf_any a n c f N w H.out hn p4 hN)
    rw [digB_dg f n N hp]
    rw [hp] at P
    clear p4 hp
    go_enter Try.func18, Try.ntmps18
    go_wp2_with fail
    refine P.out.mono ?_
    rintro e w1 ⟨rfl, rfl⟩
    go_wp2_with fail
    refine D.out.mono ?_
    rintro e w2 ⟨a, m, c, rfl, hm, hres, hbel⟩
    have HM := Lib.hid hm; have HR := Lib.hid hres; have HB2 := Lib.hid hbel; clear hm hres hbel
    go_wp2_with fail
    go_ret2
    exact ⟨a, m, c, rfl, HM.out, HR.out, HB2.out⟩
  · have HB : Hid (digB f n N = false) := Lib.hid (by rw [Bool.eq_false_iff]; intro h; exact hp ((digB_iff f n N).1 h).1)
    rw [show plcB f n = false by simpa using hp] at P
    clear hp
    go_enter Try.func18, Try.ntmps18
    go_wp2_with fail
    refine P.out.mono ?_
    rintro e w1 ⟨rfl, rfl⟩
    go_wp2_with fail
    go_ret2
    exact ⟨_, _, _, by rw [HB.out]; rfl, by rw [HB.out]; rfl, Rsp.none_ _ _ _ _ _, Below.refl _ _⟩
theorem iPlaceNumber_any (a b : Option Addr) (n m c e : Nat) (f d : Nat → Int) (w : World) (h : Ls w a n f) (h' : Ls w b m d) (hn : n ≤ 10000000) (hm : m ≤ 10000000) :
    Calls Try.prog 20 #[.slice a n c, .slice b m e] w fun e w' => e = .returned (numR4 f n d m) ∧ Below w.heap.size w w' := by
  have P := Lib.hid (areIn_any a n c f w h hn)
  have H := Lib.hid h; have H' := Lib.hid h'; clear h h'
  by_cases hp : plcB f n = true
  · have D := Lib.hid (numberOf_any a b n m c e f d w H.out H'.out hp hm)
    rw [hp] at P
    clear hp
    obtain ⟨x, ok, hx⟩ := numR4_form f n d m
    rw [hx] at D ⊢
    clear hx
    go_enter Try.func20, Try.ntmps20
    go_wp2_with fail
    refine P.out.mono ?_
    rintro e w1 ⟨rfl, rfl⟩
    go_wp2_with fail
    refine D.out.mono ?_
    rintro e w2 ⟨rfl, hb2⟩
    have HB2 := Lib.hid hb2; clear hb2 D
    go_wp2_with fail
    go_ret2
    exact ⟨rfl, HB2.out⟩
  · have Hf := Lib.hid (numR4_no (f := f) (d := d) (m := m) fun h => hp ((numB4_iff f n d m).1 h).1)
    rw [show plcB f n = false by simpa using hp] at P
    clear hp
    go_enter Try.func20, Try.ntmps20
    go_wp2_with fail
    refine P.out.mono ?_
    rintro e w1 ⟨rfl, rfl⟩
    go_wp2_with fail
    go_ret2
    exact ⟨ret_v Hf.out.symm, Below.refl _ _⟩
end Go.Proofs.Ytejhiilkbckobaa
