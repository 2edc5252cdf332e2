/- The program's AlphaLeast. -/
import Derived.Test.YtdognkjpiineiaaDoorAO3
namespace Go.Proofs.YtdognkjpiineiaaDoor
open Go.RowKit Go.Shelf
set_option linter.unusedVariables false
set_option maxRecDepth 100000
theorem resW_text (c p : Nat) (s : Int) : ∀ x, resW c p s = some x → ∃ y : ByteArray, x = .string y := by
  intro x hx
  unfold resW at hx
  cases hd : dfs c (L27.drop p) s with
  | none => rw [hd] at hx; cases hx
  | some v => rw [hd] at hx; exact ⟨_, (Option.some.inj hx).symm⟩
theorem resW_below (c n : Nat) (h : c < few n) : resW c 0 n = none := by
  unfold resW
  rw [dfs_none c n _ (fun i hi => (mem27 i).1 (List.mem_of_mem_drop hi)) h]; rfl
theorem resW_at (n : Nat) : resW (few n) 0 n = some (.string ⟨(least n).toArray⟩) := by
  unfold resW
  rw [dfs_few (few n) n [] (L27.drop 0) rfl rfl (fun i hi _ => (mem27 i).2 hi)]; rfl
theorem iAlphaLeast_in (n : Nat) (w : World) (h1 : 1 ≤ n) (h2 : n ≤ 2000) (hT : AT w) :
    Calls Tryd.prog 30 #[.int .i64 n] w fun e w' => e = .returned (leastR n) ∧ Below w.heap.size w w' := by
  have HT := Lib.hid hT; clear hT
  rw [leastR_yes n h1 h2]
  have hf1 := few_pos n h1
  have hf5 := few_five n h2
  go_enter Tryd.func30, Tryd.ntmps30
  go_wp2_with fail
  refine (allLetters_any w).mono ?_
  rintro e w1 ⟨b, hb0, hb1, rfl, hr, g1⟩
  have HR := Lib.hid hr; have G1 := Lib.hid g1; clear hr g1
  go_wp2_with fail
  go_loopw [5] (fun i wr => ∃ k : Nat, 1 ≤ k ∧ k ≤ few n ∧ i = .int .i64 k ∧ Below w1.heap.size w1 wr) (fun i _ => few n + 1 - (intOf i).toNat)
  case atStart => exact ⟨1, by omega, hf1, rfl, Below.refl _ _⟩
  case round =>
    obtain ⟨k, hk1, hk2, rfl, hbel⟩ := hrel
    have hs := hbel.size
    have HRr := Lib.hid (HR.out.below hbel hb1)
    have HTr := Lib.hid ((HT.out.step G1.out).step hbel)
    have Hbel := Lib.hid hbel; clear hbel
    go_wp2_with fail
    refine (orderedWords_any b 0 k n wr (by omega) HRr.out (by omega)).mono ?_
    rintro e w2 ⟨lb, rfl, hW, g2⟩
    have hO := words_once k 0 n w2 lb (by omega) (by omega) (by omega) (by omega) (HTr.out.step g2) hW
    go_wp2_with fail
    refine (firstWord_any lb (resW k 0 n) w2 (resW_text k 0 n) hO).mono ?_
    rintro e w3 ⟨rfl, g3⟩
    by_cases hk : k < few n
    · rw [resW_below k n hk]
      unfold firstR
      go_wp2_with fail
      go_roundw
      case rel => exact ⟨k + 1, by omega, by omega, by go_num, Hbel.out.trans ((g2.mono hs).trans (g3.mono (Nat.le_trans hs g2.size)))⟩
      case measure => simp [intOf]; omega
    · obtain rfl : k = few n := by omega
      rw [resW_at]
      unfold firstR
      go_wp2_with fail
      go_ret2
      exact ⟨rfl, G1.out.trans ((Hbel.out.trans ((g2.mono hs).trans (g3.mono (Nat.le_trans hs g2.size)))).mono G1.out.size)⟩
theorem iAlphaLeast_any (n : Int) (w : World) (hT : AT w) :
    Calls Tryd.prog 30 #[.int .i64 n] w fun e w' => e = .returned (leastR n) ∧ Below w.heap.size w w' := by
  by_cases h : 1 ≤ n ∧ n ≤ 2000
  · obtain ⟨k, rfl⟩ := Int.eq_ofNat_of_zero_le (show 0 ≤ n by omega)
    exact iAlphaLeast_in k w (by omega) (by omega) hT
  · rw [leastR_no n h]
    by_cases h1 : n < 1
    · clear h
      go_enter Tryd.func30, Tryd.ntmps30
      go_wp2_with fail
      go_ret2
      exact ⟨rfl, Below.refl _ _⟩
    · have h2 : 2000 < n := by omega
      clear h
      go_enter Tryd.func30, Tryd.ntmps30
      go_wp2_with fail
      go_ret2
      exact ⟨rfl, Below.refl _ _⟩
end Go.Proofs.YtdognkjpiineiaaDoor
