/- The program's chapter 7: readMoved, StrokeTurned, StrokeMirror. -/
import Derived.Test.YtdokdlcmplggfaaDoorVN6
import Derived.Test.YtdokdlcmplggfaaDoorVN5
namespace Go.Proofs.YtdokdlcmplggfaaDoor
open Go.RowKit
set_option linter.unusedVariables false
set_option maxRecDepth 100000
theorem stk_mv_ok (f : Nat → Nat) (hf : ∀ p, p < 4 → f p < 4) (n : Nat) : ∀ s ∈ (stk n).map (mvP f), StkOk s := by
  intro s hs
  obtain ⟨r, hr, rfl⟩ := List.mem_map.1 hs
  have := stk_ok n r hr
  exact ⟨hf _ this.1, this.2⟩
set_option maxHeartbeats 1000000 in
theorem iStrokeTurned_any {m : Bool} (n : Int) (w : World) (_ : StOk n) (hT : TBs true m w) : Calls Tryd.prog 24 #[.int .i64 n] w fun e w' => e = .returned (skR n tnd) ∧ Below w.heap.size w w' := by
  have HK := Lib.hid hT.1
  have HP := Lib.hid (hT.2.1 rfl)
  clear hT
  have key : Calls Tryd.prog 44 #[.int .i64 n, .func (.func 45) #[] #[]] w fun e w' => e = .returned (skR n tnd) ∧ Below w.heap.size w w' := by
    by_cases h : 0 ≤ n ∧ n ≤ 9999
    · obtain ⟨k, rfl⟩ := Int.eq_ofNat_of_zero_le h.1
      have hk : k ≤ 9999 := by omega
      have C1 := Lib.hid (stemOf_yes k w hk HK.out)
      have hd := (tnd_dig k hk).1
      have hw := wtL_tpl k hk
      have C2 := Lib.hid (fun v w' (hb : Below w.heap.size w w') (h : SkR w' v (stk k)) => moved_turned v (stk k) w' (by have := stk_le k; omega) (stk_ok k) (fun p hp w2 hb2 => vturned_any p w2 hp ((HP.out.step hb).step hb2)) h)
      have C3 := Lib.hid (fun v w' (h : SkR w' v ((stk k).map (mvP tpl))) => sign_any v ((stk k).map (mvP tpl)) w' (by rw [List.length_map]; have := stk_le k; omega) (by rw [hw]; have := sg_lt (tnd k); omega) (stk_mv_ok tpl tpl_lt k) h)
      rw [hw] at C3
      obtain ⟨r1, r2⟩ := rd_sg (tnd k) hd
      have hl := sg_lt (tnd k)
      have C4 := Lib.hid (fun w' (hK : DK w') => strokeRead_dk (vsg (tnd k) : Nat) w' ⟨by omega, by omega⟩ hK)
      rw [srR_yes _ (by omega) r1, r2] at C4
      have Hf := Lib.hid (skR_yes k tnd hk)
      generalize vsg (tnd k) = sg at *
      clear h r1 r2 hw
      go_enter Tryd.func44, Tryd.ntmps44
      go_wp2_with fail
      refine C1.out.mono ?_
      rintro e w1 ⟨v, rfl, hs, g1⟩
      have HS := Lib.hid hs; have G1 := Lib.hid g1; clear hs g1 C1
      go_wp2_with fail
      refine (C2.out v _ G1.out HS.out).mono ?_
      rintro e w2 ⟨v2, rfl, hs2, g2⟩
      have HS2 := Lib.hid hs2; have G2 := Lib.hid (bel_chain G1.out g2); clear hs2 g2 C2
      go_wp2_with fail
      refine (C3.out v2 _ HS2.out).mono ?_
      rintro e w3 ⟨rfl, g3⟩
      have G3 := Lib.hid (bel_chain G2.out g3); clear g3 C3
      go_wp2_with fail
      refine (C4.out _ (HK.out.step G3.out)).mono ?_
      rintro e w4 ⟨rfl, g4⟩
      have G4 := Lib.hid (bel_chain G3.out g4); clear g4 C4
      go_wp2_with fail
      go_ret2
      exact ⟨vret Hf.out.symm, G4.out⟩
    · have C := Lib.hid (stemOf_no n w h)
      have Hf := Lib.hid (skR_no n tnd h)
      clear h
      go_enter Tryd.func44, Tryd.ntmps44
      go_wp2_with fail
      refine C.out.mono ?_
      rintro e w1 ⟨rfl, rfl⟩
      go_wp2_with fail
      go_ret2
      exact ⟨vret Hf.out.symm, Below.refl _ _⟩
  have C := Lib.hid key
  obtain ⟨x, b, hx⟩ := skR_form n tnd
  rw [hx] at C
  rw [hx]
  clear key hx
  go_enter Tryd.func24, Tryd.ntmps24
  go_wp2_with fail
  refine C.out.mono ?_
  rintro e w1 ⟨rfl, g1⟩
  have G1 := Lib.hid g1; clear g1 C
  go_wp2_with fail
  go_ret2
  exact ⟨rfl, G1.out⟩
set_option maxHeartbeats 1000000 in
theorem iStrokeMirror_any {t : Bool} (n : Int) (w : World) (_ : StOk n) (hT : TBs t true w) : Calls Tryd.prog 25 #[.int .i64 n] w fun e w' => e = .returned (skR n mrd) ∧ Below w.heap.size w w' := by
  have HK := Lib.hid hT.1
  have HP := Lib.hid (hT.2.2 rfl)
  clear hT
  have key : Calls Tryd.prog 44 #[.int .i64 n, .func (.func 46) #[] #[]] w fun e w' => e = .returned (skR n mrd) ∧ Below w.heap.size w w' := by
    by_cases h : 0 ≤ n ∧ n ≤ 9999
    · obtain ⟨k, rfl⟩ := Int.eq_ofNat_of_zero_le h.1
      have hk : k ≤ 9999 := by omega
      have C1 := Lib.hid (stemOf_yes k w hk HK.out)
      have hd := (mrd_dig k hk).1
      have hw := wtL_mpl k hk
      have C2 := Lib.hid (fun v w' (hb : Below w.heap.size w w') (h : SkR w' v (stk k)) => moved_mirrored v (stk k) w' (by have := stk_le k; omega) (stk_ok k) (fun p hp w2 hb2 => mirrored_any p w2 hp ((HP.out.step hb).step hb2)) h)
      have C3 := Lib.hid (fun v w' (h : SkR w' v ((stk k).map (mvP mpl))) => sign_any v ((stk k).map (mvP mpl)) w' (by rw [List.length_map]; have := stk_le k; omega) (by rw [hw]; have := sg_lt (mrd k); omega) (stk_mv_ok mpl mpl_lt k) h)
      rw [hw] at C3
      obtain ⟨r1, r2⟩ := rd_sg (mrd k) hd
      have hl := sg_lt (mrd k)
      have C4 := Lib.hid (fun w' (hK : DK w') => strokeRead_dk (vsg (mrd k) : Nat) w' ⟨by omega, by omega⟩ hK)
      rw [srR_yes _ (by omega) r1, r2] at C4
      have Hf := Lib.hid (skR_yes k mrd hk)
      generalize vsg (mrd k) = sg at *
      clear h r1 r2 hw
      go_enter Tryd.func44, Tryd.ntmps44
      go_wp2_with fail
      refine C1.out.mono ?_
      rintro e w1 ⟨v, rfl, hs, g1⟩
      have HS := Lib.hid hs; have G1 := Lib.hid g1; clear hs g1 C1
      go_wp2_with fail
      refine (C2.out v _ G1.out HS.out).mono ?_
      rintro e w2 ⟨v2, rfl, hs2, g2⟩
      have HS2 := Lib.hid hs2; have G2 := Lib.hid (bel_chain G1.out g2); clear hs2 g2 C2
      go_wp2_with fail
      refine (C3.out v2 _ HS2.out).mono ?_
      rintro e w3 ⟨rfl, g3⟩
      have G3 := Lib.hid (bel_chain G2.out g3); clear g3 C3
      go_wp2_with fail
      refine (C4.out _ (HK.out.step G3.out)).mono ?_
      rintro e w4 ⟨rfl, g4⟩
      have G4 := Lib.hid (bel_chain G3.out g4); clear g4 C4
      go_wp2_with fail
      go_ret2
      exact ⟨vret Hf.out.symm, G4.out⟩
    · have C := Lib.hid (stemOf_no n w h)
      have Hf := Lib.hid (skR_no n mrd h)
      clear h
      go_enter Tryd.func44, Tryd.ntmps44
      go_wp2_with fail
      refine C.out.mono ?_
      rintro e w1 ⟨rfl, rfl⟩
      go_wp2_with fail
      go_ret2
      exact ⟨vret Hf.out.symm, Below.refl _ _⟩
  have C := Lib.hid key
  obtain ⟨x, b, hx⟩ := skR_form n mrd
  rw [hx] at C
  rw [hx]
  clear key hx
  go_enter Tryd.func25, Tryd.ntmps25
  go_wp2_with fail
  refine C.out.mono ?_
  rintro e w1 ⟨rfl, g1⟩
  have G1 := Lib.hid g1; clear g1 C
  go_wp2_with fail
  go_ret2
  exact ⟨rfl, G1.out⟩
end Go.Proofs.YtdokdlcmplggfaaDoor
