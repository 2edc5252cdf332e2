/- The laws' own helpers over slices: toIntS, eqIntS, markIntS, heldIntS, sameInts. -/
import Derived.Test.YtbepcmjjgpbgaaaBK
namespace Go.Proofs.Ytbepcmjjgpbgaaa
open Go.RowKit
set_option linter.unusedVariables false
set_option maxRecDepth 100000
theorem wpList_make_ints {P : Program} (w : World) {ops : Array Oper} {rest : List Oper} {o : Oper} {a : Act} {Q : Exit → Act → World → Prop}
    (hg : o.guard = none) (l c : Operand) (t : TypeId) (hop : o.op = Op.makeSlice t l c)
    (i : TypeInfo) (ht : P.underlying t = some (.slice 3)) (hi : P.info? 3 = some i) (hz : i.zero = some (.int .i64 0)) (hsize : i.size = 1) (hby : i.bytes = 8)
    (n : Nat) (hn : n ≤ 10000000) (hl : a.eval l = .int .i64 (n : Int)) (hc : a.eval c = .int .i64 (n : Int))
    (hK : ∀ w', Own w' w.heap.size n (fun _ => 0) → Below w.heap.size w w' → w'.heap.size = w.heap.size + 1 → wpList P ops Q rest (a.put o.dst (.slice (some ⟨w.heap.size, 0, none⟩) n n)) w') :
    wpList P ops Q (o :: rest) a w := by
  refine wpList_plain hg fun K hK' => ?_
  have hb' : (i.bytes : Int) * (n : Int) ≤ 281474976710656 := by rw [hby]; omega
  have hrun := run_make (P := P) w t 3 i (.int .i64 0) ht hi hz .i64 .i64 n n (by omega) (Int.le_refl _) hb' (by omega)
  simp only [Int.toNat_natCast, hsize, made_ints] at hrun
  unfold Oper.wp
  simp [execOp, hop, hl, hc, hrun, Result.andThen]
  exact hK' _ _ (hK _ (Own.new w n _) ((Below.refl _ _).alloc (Nat.le_refl _) _) (by simp))
theorem Own.upto {w : World} {b n k : Nat} {f : Nat → Int} (h : Own w b n (fun j => if j < k then f j else 0)) : Own (w.setCell ⟨b, k, none⟩ (.int .i64 (f k))) b n (fun j => if j < k + 1 then f j else 0) :=
  (h.set_ k (f k)).congr fun j hj => by
    by_cases e : j = k
    · subst e; simp
    · rw [if_neg e]
      by_cases h2 : j < k
      · rw [if_pos h2, if_pos (by omega)]
      · rw [if_neg h2, if_neg (by omega)]
set_option maxHeartbeats 400000 in
theorem toIntS_any (a : Option Addr) (n c : Nat) (f : Nat → Int) (w : World) (h : Ls w a n f) (hn : n ≤ 1048576) :
    Calls Try.prog 44 #[.slice a n c] w fun e w' => e = .returned (.slice (some ⟨w.heap.size, 0, none⟩) n n) ∧ Own w' w.heap.size n f ∧ Below w.heap.size w w' ∧ w'.heap.size = w.heap.size + 1 := by
  obtain ⟨i0, hi, hz0, hz1, hz2⟩ := info_parts info_int
  have H := Lib.hid h; clear h
  go_enter Try.func44, Try.ntmps44
  go_wp2_with (at_make; refine wpList_make_ints _ rfl _ _ 23 rfl i0 Try.underlying23 hi hz0 hz1 hz2 n (by omega) rfl rfl ?_; intro w1 hown hb hs)
  have Hown := Lib.hid hown; have Hb := Lib.hid hb; have Hs := Lib.hid hs
  clear hown hb hs
  go_loopw [4] (fun i wr => ∃ k : Nat, i = .int .i64 k ∧ k ≤ n ∧ Own wr w.heap.size n (fun j => if j < k then f j else 0) ∧ Below w.heap.size w wr ∧ wr.heap.size = w.heap.size + 1) (fun i _ => n - (intOf i).toNat)
  case atStart => exact ⟨0, rfl, by omega, Hown.out.congr fun j hj => by simp, Hb.out, Hs.out⟩
  case round =>
    obtain ⟨k, rfl, hk, hown, hbel, hsz⟩ := hrel
    have Ho := Lib.hid hown; have Hbe := Lib.hid hbel; have Hsz := Lib.hid hsz
    clear hsz
    by_cases hlt : k < n
    · obtain ⟨b, off, rfl, hb, hc⟩ := H.out k hlt
      have hc1 : wr.cell? ⟨b, off + k, none⟩ = some (.int .i64 (f k)) := (hbel.cell (p := ⟨b, off + k, none⟩) hb).trans hc
      obtain ⟨v0, hv0⟩ : ∃ v0, wr.cell? ⟨w.heap.size, k, none⟩ = some v0 := ⟨_, hown.cell k hlt⟩
      have hfr := hown.frozen k
      clear hown hbel hc
      go_wp2_with fail
      go_roundw
      case rel => exact ⟨k + 1, by go_num, by omega, Ho.out.upto, Hbe.out.setCell (Nat.le_refl _) _, by simp [World.setCell]; exact Hsz.out⟩
      case measure => simp [intOf]; omega
    · obtain rfl : k = n := by omega
      clear hown hbel
      go_wp2_with fail
      go_ret
      exact ⟨rfl, Ho.out.congr fun j hj => by simp [hj], Hbe.out, Hsz.out⟩
theorem eqIntS_yes (a b : Option Addr) (n c d : Nat) (f g : Nat → Int) (w : World) (h : Ls w a n f) (h' : Ls w b n g) (hn : n ≤ 10000000) (e : ∀ k, k < n → f k = g k) :
    Calls Try.prog 45 #[.slice a n c, .slice b n d] w fun e w' => e = .returned (.bool true) ∧ Mid 0 0 w w' := by
  have H := Lib.hid h; have H' := Lib.hid h'; have E := Lib.hid e; clear h h' e
  go_enter Try.func45, Try.ntmps45
  go_wp2_with fail
  go_loopw [5] (fun i wr => ∃ k q : Nat, i = .int .i64 k ∧ k ≤ n ∧ wr = w.drewN q) (fun i _ => n - (intOf i).toNat)
  case atStart => exact ⟨0, 0, rfl, by omega, rfl⟩
  case round =>
    obtain ⟨k, q, rfl, hk, rfl⟩ := hrel
    by_cases hlt : k < n
    · obtain ⟨b1, o1, rfl, hb1, hc1⟩ := H.out k hlt
      obtain ⟨b2, o2, rfl, hb2, hc2⟩ := H'.out k hlt
      rw [← E.out k hlt] at hc2
      go_wp2_with fail
      go_quiet (fail)
      go_wp2_with fail
      go_roundw
      case rel => exact ⟨k + 1, _, by go_num, by omega, rfl⟩
      case measure => simp [intOf]; omega
    · go_wp2_with fail
      go_ret
      exact ⟨rfl, (Mid.refl _ _ _).drewN _⟩
theorem sameInts_yes (a b : Option Addr) (n c d : Nat) (f g : Nat → Int) (w : World) (h : Ls w a n f) (h' : Ls w b n g) (hn : n ≤ 10000000) (e : ∀ k, k < n → f k = g k) :
    Calls Try.prog 26 #[.slice a n c, .slice b n d] w fun e w' => e = .returned (.bool true) ∧ Mid 0 0 w w' := by
  have H := Lib.hid h; have H' := Lib.hid h'; have E := Lib.hid e; clear h h' e
  go_enter Try.func26, Try.ntmps26
  go_wp2_with fail
  go_loopw [5] (fun i wr => ∃ k q : Nat, i = .int .i64 k ∧ k ≤ n ∧ wr = w.drewN q) (fun i _ => n - (intOf i).toNat)
  case atStart => exact ⟨0, 0, rfl, by omega, rfl⟩
  case round =>
    obtain ⟨k, q, rfl, hk, rfl⟩ := hrel
    by_cases hlt : k < n
    · obtain ⟨b1, o1, rfl, hb1, hc1⟩ := H.out k hlt
      obtain ⟨b2, o2, rfl, hb2, hc2⟩ := H'.out k hlt
      rw [← E.out k hlt] at hc2
      go_wp2_with fail
      go_quiet (fail)
      go_wp2_with fail
      go_roundw
      case rel => exact ⟨k + 1, _, by go_num, by omega, rfl⟩
      case measure => simp [intOf]; omega
    · go_wp2_with fail
      go_ret
      exact ⟨rfl, (Mid.refl _ _ _).drewN _⟩
set_option maxHeartbeats 400000 in
theorem markIntS_any (lo hi : Nat) (a : Option Addr) (n c : Nat) (f : Nat → Int) (k0 : Nat) (w : World) (h : Res w lo hi a n f) (hn : n ≤ 10000000) (hk0 : k0 ≤ 1000000000) :
    Calls Try.prog 46 #[.slice a n c, .int .i64 k0] w fun e w' => e = .returned (.int .i64 ((k0 + n : Nat) : Int)) ∧ Res w' lo hi a n (fun j => (k0 : Int) + j) ∧ Mid lo hi w w' := by
  have H := Lib.hid h; clear h
  go_enter Try.func46, Try.ntmps46
  go_wp2_with fail
  go_loopw [1, 5] (fun x i wr => ∃ k : Nat, i = .int .i64 k ∧ x = .int .i64 ((k0 : Int) + k) ∧ k ≤ n ∧ Res wr lo hi a n (fun j => if j < k then (k0 : Int) + j else f j) ∧ Mid lo hi w wr) (fun _ i _ => n - (intOf i).toNat)
  case atStart => exact ⟨0, rfl, by simp, by omega, H.out.congr fun j hj => by simp, Mid.refl _ _ _⟩
  case round =>
    obtain ⟨k, rfl, rfl, hk, hres, hmid⟩ := hrel
    by_cases hlt : k < n
    · rcases hres with h0 | ⟨b, rfl, hb1, hb2, hown⟩
      · omega
      have Ho := Lib.hid hown; have Hm := Lib.hid hmid
      obtain ⟨v0, hv0⟩ : ∃ v0, wr.cell? ⟨b, k, none⟩ = some v0 := ⟨_, hown.cell k hlt⟩
      have hfr := hown.frozen k
      clear hown hmid
      have HR : Hid (Res (wr.setCell ⟨b, k, none⟩ (.int .i64 ((k0 : Int) + k))) lo hi (some ⟨b, 0, none⟩) n (fun j => if j < k + 1 then (k0 : Int) + j else f j)) :=
        .inr ⟨b, rfl, hb1, hb2, (Ho.out.set_ k ((k0 : Int) + k)).congr fun j hj => by
          by_cases e : j = k
          · subst e; simp
          · rw [if_neg e]
            by_cases h2 : j < k
            · rw [if_pos h2, if_pos (by omega)]
            · rw [if_neg h2, if_neg (by omega)]⟩
      go_wp2_with fail
      go_roundw
      case rel => exact ⟨k + 1, by go_num, by go_num, by omega, HR.out, Hm.out.setCell hb1 hb2 _ _⟩
      case measure => simp [intOf]; omega
    · obtain rfl : k = n := by omega
      have Hr := Lib.hid hres; have Hm := Lib.hid hmid
      clear hres hmid
      go_wp2_with fail
      go_ret
      exact ⟨ret_int (by omega), Hr.out.congr fun j hj => by simp [hj], Hm.out⟩
theorem heldIntS_yes (a : Option Addr) (n c : Nat) (f : Nat → Int) (k0 : Nat) (w : World) (h : Ls w a n f) (hn : n ≤ 10000000) (hk0 : k0 ≤ 1000000000) (e : ∀ j, j < n → f j = (k0 : Int) + j) :
    Calls Try.prog 47 #[.slice a n c, .int .i64 k0] w fun e w' => e = .returned (.int .i64 ((k0 + n : Nat) : Int)) ∧ w = w' := by
  have H := Lib.hid h; have E := Lib.hid e; clear h e
  go_enter Try.func47, Try.ntmps47
  go_wp2_with fail
  go_loop [1, 5] (fun x i => ∃ k : Nat, i = .int .i64 k ∧ x = .int .i64 ((k0 : Int) + k) ∧ k ≤ n) (fun _ i => n - (intOf i).toNat)
  case atStart => exact ⟨0, rfl, by simp, by omega⟩
  case round =>
    obtain ⟨k, rfl, rfl, hk⟩ := hrel
    by_cases hlt : k < n
    · obtain ⟨b, off, rfl, hb, hc⟩ := H.out k hlt
      rw [E.out k hlt] at hc
      go_wp2_with fail
      go_round
      case rel => exact ⟨k + 1, by go_num, by go_num, by omega⟩
      case measure => simp [intOf]; omega
    · obtain rfl : k = n := by omega
      go_wp2_with fail
      go_ret
      exact ⟨ret_int (by omega), rfl⟩
end Go.Proofs.Ytbepcmjjgpbgaaa
