/- The model's chapter 2 (package spec): l2Pile, l2Of, l2Value. -/
import Derived.Test.YtbepcmjjgpbgaaaBS
namespace Go.Proofs.Ytbepcmjjgpbgaaa
open Go.RowKit
set_option linter.unusedVariables false
set_option maxRecDepth 100000
theorem Mid.bel0 {B : Nat} {w w' : World} (h : Mid 0 0 w w') : Below B w w' := ⟨h.os, h.tape, h.output, Nat.le_of_eq h.size.symm, fun k hk => h.block k (by omega)⟩
theorem Mid.trans {lo hi : Nat} {a b c : World} (h : Mid lo hi a b) (k : Mid lo hi b c) : Mid lo hi a c := ⟨k.os.trans h.os, k.tape.trans h.tape, k.output.trans h.output, k.size.trans h.size, fun i hi => (k.block i hi).trans (h.block i hi)⟩
/-- a list is a pile of a system -/
def pilB (f : Nat → Int) (n : Nat) (p : Nat → Int) (m : Nat) : Bool := sysB f n && decide (m = n ∧ ∀ j, j < m → 0 ≤ p j ∧ p j ≤ 1000000)
theorem pilB_spec {f : Nat → Int} {n : Nat} {p : Nat → Int} {m : Nat} : pilB f n p m = true ↔ sysB f n = true ∧ m = n ∧ ∀ j, j < m → 0 ≤ p j ∧ p j ≤ 1000000 := by
  unfold pilB
  rw [Bool.and_eq_true, decide_eq_true_eq]
theorem pilB_sys {f : Nat → Int} {n : Nat} {p : Nat → Int} {m : Nat} (h : pilB f n p m = true) : SysF f n ∧ n ≤ 6 ∧ (∀ j, j < n → f j ≤ 1000000) ∧ m = n ∧ (∀ j, j < n → 0 ≤ p j) ∧ ∀ j, j < n → p j ≤ 1000000 := by
  obtain ⟨h1, rfl, h2⟩ := pilB_spec.1 h
  obtain ⟨a, b, c⟩ := sysB_sys h1
  exact ⟨a, b, c, rfl, fun j hj => (h2 j hj).1, fun j hj => (h2 j hj).2⟩
theorem sl2Pile_any (a b : Option Addr) (n m c d : Nat) (f p : Nat → Int) (w : World) (h : Ls w a n f) (h' : Ls w b m p) (hn : n ≤ 10000000) (hm : m ≤ 10000000) :
    Calls Try.prog 61 #[.slice a n c, .slice b m d] w fun e w' => e = .returned (.bool (pilB f n p m)) ∧ Mid 0 0 w w' := by
  have H := Lib.hid h; have H' := Lib.hid h'; clear h h'
  have C1 := Lib.hid (sPileIn_any a n c f w H.out hn)
  by_cases hs : sysB f n = true
  · rw [hs] at C1
    by_cases hmn : m = n
    · subst hmn
      have Hp : Hid (pilB f m p m = true ↔ ∀ j, j < m → 0 ≤ p j ∧ p j ≤ 1000000) := by
        show _ ↔ _
        rw [pilB_spec]
        exact ⟨fun h => h.2.2, fun h => ⟨hs, rfl, h⟩⟩
      clear hs
      go_enter Try.func61, Try.ntmps61
      go_wp2_with fail
      refine C1.out.mono ?_
      rintro e w1 ⟨rfl, g1⟩
      have G1 := Lib.hid g1; clear g1
      go_wp2_with fail
      go_loop [5] (fun i => ∃ k : Nat, i = .int .i64 k ∧ k ≤ m ∧ ∀ j, j < k → 0 ≤ p j ∧ p j ≤ 1000000) (fun i => m - (intOf i).toNat)
      case atStart => exact ⟨0, rfl, by omega, fun j hj => by omega⟩
      case round =>
        obtain ⟨k, rfl, hk, hall⟩ := hrel
        have Ha := Lib.hid hall; clear hall
        by_cases hlt : k < m
        · obtain ⟨b1, o1, rfl, hb1, hc1⟩ := H'.out.below (Mid.bel0 G1.out) k hlt
          by_cases hin : 0 ≤ p k ∧ p k ≤ 1000000
          · have Ha' : Hid (∀ j, j < k + 1 → 0 ≤ p j ∧ p j ≤ 1000000) := fun j hj => by
              by_cases e : j = k
              · subst e; exact hin
              · exact Ha.out j (by omega)
            have hd : decide (0 ≤ p k ∧ p k ≤ 1000000) = true := decide_eq_true hin
            clear hin
            have C := Lib.hid (in_any (p k) 0 1000000)
            rw [hd] at C
            clear hd
            go_wp2_with fail
            refine (C.out _).mono ?_
            rintro e w2 ⟨rfl, rfl⟩
            go_wp2_with fail
            go_round
            case rel => exact ⟨k + 1, by go_num, by omega, Ha'.out⟩
            case measure => simp [intOf]; omega
          · have Hr : Hid (pilB f m p m = false) := by
              show _ = _
              rw [Bool.eq_false_iff]
              exact fun h => hin (Hp.out.1 h k hlt)
            have hd : decide (0 ≤ p k ∧ p k ≤ 1000000) = false := decide_eq_false hin
            clear hin
            have C := Lib.hid (in_any (p k) 0 1000000)
            rw [hd] at C
            clear hd
            go_wp2_with fail
            refine (C.out _).mono ?_
            rintro e w2 ⟨rfl, rfl⟩
            go_wp2_with fail
            go_ret
            exact ⟨ret_bool Hr.out.symm, G1.out⟩
        · obtain rfl : k = m := by omega
          go_wp2_with fail
          go_ret
          exact ⟨ret_bool (Hp.out.2 Ha.out).symm, G1.out⟩
    · have Hr : Hid (pilB f n p m = false) := by
        show _ = _
        rw [Bool.eq_false_iff]
        exact fun h => hmn (pilB_spec.1 h).2.1
      clear hs
      go_enter Try.func61, Try.ntmps61
      go_wp2_with fail
      refine C1.out.mono ?_
      rintro e w1 ⟨rfl, g1⟩
      have G1 := Lib.hid g1; clear g1
      go_wp2_with fail
      go_ret
      exact ⟨ret_bool Hr.out.symm, G1.out⟩
  · have Hr : Hid (pilB f n p m = false) := by
      show _ = _
      rw [Bool.eq_false_iff]
      exact fun h => hs (pilB_spec.1 h).1
    rw [show sysB f n = false by simpa using hs] at C1
    clear hs
    go_enter Try.func61, Try.ntmps61
    go_wp2_with fail
    refine C1.out.mono ?_
    rintro e w1 ⟨rfl, g1⟩
    have G1 := Lib.hid g1; clear g1
    go_wp2_with fail
    go_ret
    exact ⟨ret_bool Hr.out.symm, G1.out⟩
theorem Own.from {w : World} {b n k : Nat} {f : Nat → Int} (h : Own w b n (fun j => if k + 1 ≤ j then f j else 0)) : Own (w.setCell ⟨b, k, none⟩ (.int .i64 (f k))) b n (fun j => if k ≤ j then f j else 0) :=
  (h.set_ k (f k)).congr fun j hj => by
    by_cases e : j = k
    · subst e; simp
    · rw [if_neg e]
      by_cases h2 : k + 1 ≤ j
      · rw [if_pos h2, if_pos (by omega)]
      · rw [if_neg h2, if_neg (by omega)]
/-- a loop down from k - 1 to 0 -/
def DownIx (k : Nat) (i : Value) : Prop := (k = 0 ∧ i = .int .i64 (-1)) ∨ ∃ j : Nat, k = j + 1 ∧ i = .int .i64 (j : Nat)
theorem downIx_mk (k : Nat) : DownIx k (.int .i64 ((k : Int) - 1)) := by
  rcases k with _ | j
  · exact .inl ⟨rfl, rfl⟩
  · exact .inr ⟨j, rfl, by rw [show ((j + 1 : Nat) : Int) - 1 = (j : Int) by omega]⟩
set_option maxHeartbeats 400000 in
theorem sl2Of_any (a : Option Addr) (n c : Nat) (f : Nat → Int) (N : Int) (w : World) (h : Ls w a n f) (hs : SysF f n) (hn : n ≤ 6) (hf : ∀ j, j < n → f j ≤ 1000000) (h0 : 0 ≤ N) (h1 : N ≤ 1000000) :
    Calls Try.prog 57 #[.slice a n c, .int .i64 N] w fun e w' => e = .returned (.slice (some ⟨w.heap.size, 0, none⟩) n n) ∧ Own w' w.heap.size n (pl f n N) ∧ Below w.heap.size w w' ∧ w'.heap.size = w.heap.size + 1 := by
  obtain ⟨i0, hi, hz0, hz1, hz2⟩ := info_parts info_int
  have H := Lib.hid h; have HS := Lib.hid hs; have HF := Lib.hid hf; clear h hs hf
  have Hrest : Hid (rest f n N n = N) := by show _ = _; unfold rest; rw [if_neg (by omega)]
  go_enter Try.func57, Try.ntmps57
  go_wp2_with (at_make; refine wpList_make_ints _ rfl _ _ 23 rfl i0 Try.underlying23 hi hz0 hz1 hz2 n (by omega) rfl rfl ?_; intro w1 hown hb hsz)
  have Hown := Lib.hid hown; have Hb := Lib.hid hb; have Hsz := Lib.hid hsz
  clear hown hb hsz
  go_loopw [1, 6] (fun x i wr => ∃ k : Nat, DownIx k i ∧ k ≤ n ∧ x = .int .i64 (rest f n N k) ∧ Own wr w.heap.size n (fun j => if k ≤ j then pl f n N j else 0) ∧ Below w.heap.size w wr ∧ wr.heap.size = w.heap.size + 1) (fun _ i _ => (intOf i + 1).toNat)
  case atStart => exact ⟨n, downIx_mk n, by omega, by rw [Hrest.out], Hown.out.congr fun j hj => by rw [if_neg (by omega)], Hb.out, Hsz.out⟩
  case round =>
    obtain ⟨k, hik, hk, rfl, hown, hbel, hsz⟩ := hrel
    have Ho := Lib.hid hown; have Hbe := Lib.hid hbel; have Hsz := Lib.hid hsz
    clear hsz
    rcases hik with ⟨rfl, rfl⟩ | ⟨k, rfl, rfl⟩
    · clear hown hbel
      go_wp2_with fail
      go_ret
      exact ⟨rfl, Ho.out.congr fun j hj => by simp, Hbe.out, Hsz.out⟩
    · obtain ⟨b, off, rfl, hb, hc⟩ := H.out k (by omega)
      have hc1 : wr.cell? ⟨b, off + k, none⟩ = some (.int .i64 (f k)) := (hbel.cell (p := ⟨b, off + k, none⟩) hb).trans hc
      obtain ⟨v0, hv0⟩ : ∃ v0, wr.cell? ⟨w.heap.size, k, none⟩ = some v0 := ⟨_, hown.cell k (by omega)⟩
      have hfr := hown.frozen k
      have hfp := HS.out.pos k (by omega)
      have hf6 := HF.out k (by omega)
      have hr0 := rest_nonneg HS.out N h0 (k + 1)
      have hr1 := Int.le_trans (rest_le HS.out N h0 (k + 1)) h1
      have Hst := Lib.hid (rest_step HS.out N k (by omega))
      have Hpl : Hid (pl f n N k = rest f n N (k + 1) / f k) := rfl
      have HO : Hid (Own (wr.setCell ⟨w.heap.size, k, none⟩ (.int .i64 (rest f n N (k + 1) / f k))) w.heap.size n (fun j => if k ≤ j then pl f n N j else 0)) := by
        rw [← Hpl.out]; exact Ho.out.from
      have HB : Hid (Below w.heap.size w (wr.setCell ⟨w.heap.size, k, none⟩ (.int .i64 (rest f n N (k + 1) / f k)))) := Hbe.out.setCell (Nat.le_refl _) _
      have hc2 : (wr.setCell ⟨w.heap.size, k, none⟩ (.int .i64 (rest f n N (k + 1) / f k))).cell? ⟨b, off + k, none⟩ = some (.int .i64 (f k)) := (HB.out.cell (p := ⟨b, off + k, none⟩) hb).trans hc
      clear hown hbel hc
      generalize rest f n N (k + 1) = r at *
      generalize f k = v at *
      go_wp2_with fail
      go_roundw
      case rel => exact ⟨k, downIx_mk k, by omega, by rw [Hst.out], HO.out, HB.out, by simp [World.setCell]; exact Hsz.out⟩
      case measure => simp [intOf]
end Go.Proofs.Ytbepcmjjgpbgaaa
