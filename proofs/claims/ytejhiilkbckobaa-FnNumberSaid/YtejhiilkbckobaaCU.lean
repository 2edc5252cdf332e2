/- The model's chapter 4 (package spec): PlaceDigits, PlaceNumber. -/
import Derived.Test.YtejhiilkbckobaaCT
import Derived.Deep.RegionLaw
import Derived.Deep.AppendLies
import Derived.Laws.OwnMore
namespace Go.Proofs.Ytejhiilkbckobaa
open Go.RowKit
set_option linter.unusedVariables false
set_option maxRecDepth 100000
/-- does PlaceDigits give digits? -/
def digB (f : Nat → Int) (n : Nat) (N : Int) : Bool := decide (0 ≤ N ∧ N ≤ plcV f n - 1)
theorem digB_iff (f : Nat → Int) (n : Nat) (N : Int) : digB f n N = true ↔ plcB f n = true ∧ 0 ≤ N ∧ N < prd f n := by
  unfold digB plcV
  rw [decide_eq_true_eq]
  constructor
  · rintro ⟨h0, h1⟩
    split at h1
    · rename_i h; exact ⟨h, h0, by omega⟩
    · omega
  · rintro ⟨h, h0, h1⟩
    rw [if_pos h]
    exact ⟨h0, by omega⟩
theorem lft_le (p : Nat → Int) (n : Nat) (N : Int) (h : ∀ k, k < n → 2 ≤ p k) (h0 : 0 ≤ N) : ∀ j, j ≤ n → 0 ≤ lft p n N j ∧ lft p n N j ≤ N := by
  intro j
  induction j with
  | zero => intro _; exact ⟨h0, Int.le_refl _⟩
  | succ j ih =>
    intro hj
    obtain ⟨a, b⟩ := ih (by omega)
    have hp := h (n - 1 - j) (by omega)
    simp only [lft]
    refine ⟨Int.ediv_nonneg a (by omega), Int.le_trans (Int.ediv_le_self _ a) b⟩
set_option maxHeartbeats 1000000 in
theorem sPlaceDigits_any (a : Option Addr) (n c : Nat) (f : Nat → Int) (N : Int) (w : World) (h : Ls w a n f) (hn : n ≤ 10000000) :
    Calls Try.prog 19 #[.slice a n c, .int .i64 N] w fun e w' => RowR w w' (pdg f n N) n (digB f n N) e := by
  obtain ⟨i0, hi, hz0, hz1, hz2⟩ := info_parts info_int
  have H := Lib.hid h; clear h
  have P := Lib.hid (l4Places_any a n c f w H.out hn)
  have C := Lib.hid (in_any N 0 (plcV f n - 1))
  have hv0 : 0 ≤ plcV f n ∧ plcV f n ≤ 1000000000000 := by
    unfold plcV
    split
    · rename_i hb
      obtain ⟨b1, b2, b3⟩ := (plcB_iff f n).1 hb
      have := prd_small f n n b3 (Nat.le_refl _) b2
      omega
    · omega
  by_cases hb : digB f n N = true
  · have HB := Lib.hid hb
    obtain ⟨p1, h0, h1⟩ := (digB_iff f n N).1 hb
    obtain ⟨p2, p3, p4⟩ := (plcB_iff f n).1 p1
    have hNb : N ≤ 1000000000000 := by have := (prd_small f n n p4 (Nat.le_refl _) p3).2; omega
    have P4 := Lib.hid p4
    have L := Lib.hid (lft_le f n N (fun k hk => (p4 k hk).1) h0)
    rw [show decide (0 ≤ N ∧ N ≤ plcV f n - 1) = true from hb] at C
    clear hb p1 p4 h1
    generalize plcV f n = V at *
    go_enter Try.func19, Try.ntmps19
    go_wp2_with fail
    refine P.out.mono ?_
    rintro e w1 ⟨rfl, rfl⟩
    go_wp2_with fail
    refine (C.out _).mono ?_
    rintro e w1 ⟨rfl, rfl⟩
    go_wp2_with (at_make; refine wpList_make_ints _ rfl _ _ 24 rfl i0 Try.underlying24 hi hz0 hz1 hz2 n (by omega) rfl rfl ?_; intro w1 hown hb hsz)
    have Hown := Lib.hid hown; have Hb := Lib.hid hb; have Hsz := Lib.hid hsz
    clear hown hb hsz P C
    go_loopw [1, 7] (fun x i wr => ∃ k : Nat, DownIx k i ∧ k ≤ n ∧ x = .int .i64 (lft f n N (n - k)) ∧ Own wr w.heap.size n (fun j => if k ≤ j then pdg f n N j else 0) ∧ Below w.heap.size w wr ∧ wr.heap.size = w.heap.size + 1) (fun _ i _ => (intOf i + 1).toNat)
    case atStart => exact ⟨n, downIx_mk n, by omega, by rw [Nat.sub_self]; rfl, Hown.out.congr fun j hj => by rw [if_neg (by omega)], Hb.out, Hsz.out⟩
    case round =>
      obtain ⟨k, hik, hk, rfl, hown, hbel, hsz⟩ := hrel
      have Ho := Lib.hid hown; have Hbe := Lib.hid hbel; have Hsz := Lib.hid hsz
      clear hsz
      rcases hik with ⟨rfl, rfl⟩ | ⟨k, rfl, rfl⟩
      · clear hown hbel
        go_wp2_with fail
        go_ret2
        refine ⟨_, n, n, by rw [HB.out]; rfl, by rw [HB.out, if_pos rfl], ?_, Hbe.out⟩
        exact Rsp.mono (Res.rsp (Ho.out.congr fun j hj => by simp).res) (Nat.le_refl _) (by rw [Hsz.out]; exact Nat.le_refl _)
      · obtain ⟨b, off, rfl, hb, hc⟩ := H.out k (by omega)
        have hc1 : wr.cell? ⟨b, off + k, none⟩ = some (.int .i64 (f k)) := (hbel.cell (p := ⟨b, off + k, none⟩) hb).trans hc
        obtain ⟨v0, hv0⟩ : ∃ v0, wr.cell? ⟨w.heap.size, k, none⟩ = some v0 := ⟨_, hown.cell k (by omega)⟩
        have hfr := hown.frozen k
        have hfp := P4.out k (by omega)
        obtain ⟨hr0, hr1⟩ := L.out (n - (k + 1)) (by omega)
        have hr2 := Int.le_trans hr1 hNb
        have Hst : Hid (lft f n N (n - k) = lft f n N (n - (k + 1)) / f k) := Lib.hid (by rw [show n - k = (n - (k + 1)) + 1 by omega]; simp only [lft]; rw [show n - 1 - (n - (k + 1)) = k by omega])
        have Hpl : Hid (pdg f n N k = lft f n N (n - (k + 1)) % f k) := Lib.hid (by unfold pdg; rw [show n - 1 - k = n - (k + 1) by omega])
        have HO : Hid (Own (wr.setCell ⟨w.heap.size, k, none⟩ (.int .i64 (lft f n N (n - (k + 1)) % f k))) w.heap.size n (fun j => if k ≤ j then pdg f n N j else 0)) := by
          rw [← Hpl.out]; exact Ho.out.from
        have HB2 : Hid (Below w.heap.size w (wr.setCell ⟨w.heap.size, k, none⟩ (.int .i64 (lft f n N (n - (k + 1)) % f k)))) := Hbe.out.setCell (Nat.le_refl _) _
        have hc2 : (wr.setCell ⟨w.heap.size, k, none⟩ (.int .i64 (lft f n N (n - (k + 1)) % f k))).cell? ⟨b, off + k, none⟩ = some (.int .i64 (f k)) := (HB2.out.cell (p := ⟨b, off + k, none⟩) hb).trans hc
        clear hown hbel hc hr1
        generalize lft f n N (n - (k + 1)) = r at *
        generalize f k = v at *
        go_wp2_with fail
        go_roundw
        case rel => exact ⟨k, downIx_mk k, by omega, by rw [Hst.out], HO.out, HB2.out, by simp [World.setCell]; exact Hsz.out⟩
        case measure => simp [intOf]
  · have HB : Hid (digB f n N = false) := Lib.hid (by simpa using hb)
    rw [show decide (0 ≤ N ∧ N ≤ plcV f n - 1) = false from HB.out] at C
    clear hb
    generalize plcV f n = V at *
    go_enter Try.func19, Try.ntmps19
    go_wp2_with fail
    refine P.out.mono ?_
    rintro e w1 ⟨rfl, rfl⟩
    go_wp2_with fail
    refine (C.out _).mono ?_
    rintro e w1 ⟨rfl, rfl⟩
    go_wp2_with fail
    go_ret2
    exact ⟨_, _, _, by rw [HB.out]; rfl, by rw [HB.out]; rfl, Rsp.none_ _ _ _ _ _, (Below.refl _ _).alloc (Nat.le_refl _) _⟩
/-- does PlaceNumber give a number? -/
def numB4 (f : Nat → Int) (n : Nat) (d : Nat → Int) (m : Nat) : Bool := plcB f n && (decide (m = n) && decide (∀ j, j < n → 0 ≤ d j ∧ d j ≤ f j - 1))
theorem numB4_iff (f : Nat → Int) (n : Nat) (d : Nat → Int) (m : Nat) : numB4 f n d m = true ↔ plcB f n = true ∧ m = n ∧ ∀ j, j < n → 0 ≤ d j ∧ d j ≤ f j - 1 := by
  unfold numB4
  rw [Bool.and_eq_true, Bool.and_eq_true, decide_eq_true_eq, decide_eq_true_eq]
def numR4 (f : Nat → Int) (n : Nat) (d : Nat → Int) (m : Nat) : Value := if numB4 f n d m = true then .tuple #[.int .i64 (dnum f d n), .bool true] else .tuple #[.int .i64 0, .bool false]
theorem numR4_yes {f : Nat → Int} {n : Nat} {d : Nat → Int} {m : Nat} (h : numB4 f n d m = true) : numR4 f n d m = .tuple #[.int .i64 (dnum f d n), .bool true] := by unfold numR4; rw [if_pos h]
theorem numR4_no {f : Nat → Int} {n : Nat} {d : Nat → Int} {m : Nat} (h : ¬ numB4 f n d m = true) : numR4 f n d m = .tuple #[.int .i64 0, .bool false] := by unfold numR4; rw [if_neg h]
set_option maxHeartbeats 1000000 in
theorem sPlaceNumber_any (a b : Option Addr) (n m c e : Nat) (f d : Nat → Int) (w : World) (h : Ls w a n f) (h' : Ls w b m d) (hn : n ≤ 10000000) (hm : m ≤ 10000000) :
    Calls Try.prog 26 #[.slice a n c, .slice b m e] w fun e w' => e = .returned (numR4 f n d m) ∧ Mid 0 0 w w' := by
  have H := Lib.hid h; have H' := Lib.hid h'; clear h h'
  have P := Lib.hid (l4Places_any a n c f w H.out hn)
  by_cases hp : plcB f n = true
  · obtain ⟨p2, p3, p4⟩ := (plcB_iff f n).1 hp
    have P4 := Lib.hid p4; clear p4
    have hV : plcV f n = prd f n := by unfold plcV; rw [if_pos hp]
    have hVp := prd_small f n n P4.out (Nat.le_refl _) p3
    rw [hV] at P
    have hne : (prd f n == 0) = false := by rw [beq_eq_false_iff_ne]; omega
    clear hV
    generalize hVV : prd f n = V at *
    have HVV := Lib.hid hVV; clear hVV
    by_cases hmn : m = n
    · subst hmn
      have HP := Lib.hid hp; clear hp
      go_enter Try.func26, Try.ntmps26
      go_wp2_with fail
      refine P.out.mono ?_
      rintro e w1 ⟨rfl, rfl⟩
      go_wp2_with fail
      go_loopw [6, 7] (fun x i wr => ∃ k q : Nat, i = .int .i64 k ∧ k ≤ m ∧ x = .int .i64 (dnum f d k) ∧ wr = w.drewN q ∧ Hid (∀ j, j < k → 0 ≤ d j ∧ d j ≤ f j - 1)) (fun _ i _ => m - (intOf i).toNat)
      case atStart => exact ⟨0, 0, rfl, by omega, rfl, rfl, Lib.hid fun j hj => by omega⟩
      case round =>
        obtain ⟨k, q, rfl, hk, rfl, rfl, Ha⟩ := hrel
        by_cases hlt : k < m
        · obtain ⟨b1, o1, rfl, hb1, hc1⟩ := H.out k hlt
          obtain ⟨b2, o2, rfl, hb2, hc2⟩ := H'.out k hlt
          have hfp := P4.out k hlt
          have C := Lib.hid (in_any (d k) 0 (f k - 1))
          by_cases hin : 0 ≤ d k ∧ d k ≤ f k - 1
          · rw [show decide (0 ≤ d k ∧ d k ≤ f k - 1) = true from decide_eq_true hin] at C
            have Ha' : Hid (∀ j, j < k + 1 → 0 ≤ d j ∧ d j ≤ f j - 1) := Lib.hid fun j hj => by
              by_cases e : j = k
              · subst e; exact hin
              · exact Ha.out j (by omega)
            obtain ⟨hin0, hin1⟩ := hin
            have hb := dnum_lt f d k (fun j hj => (P4.out j (by omega)).1) (fun j hj => by have := Ha.out j hj; omega) k (Nat.le_refl _)
            have hpk := (prd_small f m k P4.out hk (by omega)).2
            have hm1 := Int.mul_le_mul (show dnum f d k ≤ 1000000000000 by omega) hfp.2 (by omega) (by omega)
            have hm0 := Int.mul_nonneg hb.1 (show 0 ≤ f k by omega)
            have Hs : Hid (dnum f d (k + 1) = dnum f d k * f k + d k) := Lib.hid rfl
            have hw0 : IntKind.i64.wrap (f k - 1) = f k - 1 := IntWalk.i64_in _ (by omega)
            have hw1 : IntKind.i64.wrap (dnum f d k * f k) = dnum f d k * f k := IntWalk.i64_in _ (by omega)
            have hw2 : IntKind.i64.wrap (dnum f d k * f k + d k) = dnum f d k * f k + d k := IntWalk.i64_in _ (by omega)
            clear hb hpk
            generalize dnum f d k = N at *
            generalize f k = x at *
            generalize d k = y at *
            go_wp2_with fail
            go_region_law (first
              | (go_simp
                 go_at_call 35
                 refine (C.out (w.drewN (q + 1))).mono ?_
                 rintro e w2 ⟨rfl, rfl⟩))
            all_goals
              go_wp2_with fail
              go_quiet (fail)
              go_wp2_with fail
              go_roundw
              case rel => exact ⟨k + 1, _, by go_num, by omega, by rw [Hs.out], rfl, Ha'⟩
              case measure => simp [intOf]; omega
          · have Hf := Lib.hid (numR4_no (f := f) (n := m) (d := d) (m := m) fun h => hin (((numB4_iff f m d m).1 h).2.2 k hlt))
            rw [show decide (0 ≤ d k ∧ d k ≤ f k - 1) = false from decide_eq_false hin] at C
            clear hin
            have hw0 : IntKind.i64.wrap (f k - 1) = f k - 1 := IntWalk.i64_in _ (by omega)
            generalize f k = x at *
            generalize d k = y at *
            go_wp2_with fail
            go_region_law (first
              | (go_simp
                 go_at_call 35
                 refine (C.out (w.drewN (q + 1))).mono ?_
                 rintro e w2 ⟨rfl, rfl⟩))
            all_goals
              go_wp2_with fail
              go_ret2
              exact ⟨ret_v Hf.out.symm, (Mid.refl _ _ _).drewN _⟩
        · obtain rfl : k = m := by omega
          have Hf := Lib.hid (numR4_yes ((numB4_iff f k d k).2 ⟨HP.out, rfl, Ha.out⟩))
          go_wp2_with fail
          go_ret2
          exact ⟨ret_v Hf.out.symm, (Mid.refl _ _ _).drewN _⟩
    · have Hf := Lib.hid (numR4_no (f := f) (d := d) (m := m) fun h => hmn ((numB4_iff f n d m).1 h).2.1)
      have hq : ((m : Int) == (n : Int)) = false := by rw [beq_eq_false_iff_ne]; omega
      clear hp hmn
      go_enter Try.func26, Try.ntmps26
      go_wp2_with fail
      refine P.out.mono ?_
      rintro e w1 ⟨rfl, rfl⟩
      go_wp2_with fail
      go_ret2
      exact ⟨ret_v Hf.out.symm, Mid.refl _ _ _⟩
  · have hV : plcV f n = 0 := by unfold plcV; rw [if_neg hp]
    have Hf := Lib.hid (numR4_no (f := f) (d := d) (m := m) fun h => hp ((numB4_iff f n d m).1 h).1)
    rw [hV] at P
    clear hp hV
    go_enter Try.func26, Try.ntmps26
    go_wp2_with fail
    refine P.out.mono ?_
    rintro e w1 ⟨rfl, rfl⟩
    go_wp2_with fail
    go_ret2
    exact ⟨ret_v Hf.out.symm, Mid.refl _ _ _⟩
end Go.Proofs.Ytejhiilkbckobaa
