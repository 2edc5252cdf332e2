/- countNumbers: all rounds; the call of Wait. -/
import Derived.Test.YtmphfdibijbjeaaDoorHU
namespace Go.Proofs.YtmphfdibijbjeaaDoor
open Go.Conc Go.ConcN Go.RowKit Go.Conc.Lib Go.ConcR.Gen Go.ConcN.Gen
open Go.ConcR (KK wgBlock WgAt stA smA rd wr mk Payload Aside2 DC0)
set_option linter.unusedSimpArgs false
set_option linter.unusedVariables false
set_option maxRecDepth 100000
def opsOf : Code → Array Oper
  | .region _ ops _ => ops
  | _ => #[]
noncomputable def r9N : Code := sL rstN
noncomputable def r10N : Code := sR rstN
/-- the slots behind the loop -/
noncomputable def aN (N : Nat) (x : Int) (v5 v10 v11 v12 v13 v14 v15 : Value) : Act :=
  ⟨#[.int .i64 x, .pointer (some ⟨N, 0, none⟩), .int .i64 0, .pointer (some ⟨N + 2, 0, none⟩), .pointer (some ⟨N + 3, 0, none⟩), v5, undef, undef, .chan (some (N + 1)), .int .i64 10, v10, v11, v12, v13, v14, v15, undef, undef, undef, undef, undef, undef, undef, undef, undef], []⟩
/-- the frame that waits -/
def FrN (N : Nat) (x : Int) (c : Frame) : Prop := ∃ v5 v10 v11 v12 v13 v14, c = (base 10).at (aN N x v5 v10 v11 v12 v13 v14 undef) (.inRegion (opsOf r9N) [0] :: [.code r10N])
section
variable {B0 N : Nat} {x : Int} {w₀ : World} {cs : List Frame}
abbrev AnchN (N : Nat) (x : Int) (w₀ : World) (cs : List Frame) : Bag → Goroutine → World → Prop := AnchS lnk (FL N w₀) (N + 3) (FrN N x) cs
set_option maxHeartbeats 8000000 in
theorem lastG (hW : WaitInS Tryd.prog lnk (N + 3) (RSt lnk.tWg (N + 3) (N + 1) (N + 4) (fun _ => False)) (FL N w₀)) {lb : Code} (v5 v10 v11 v12 v13 v14 : Value) (w : World) (hF : FLv N w₀ w) :
    TrS Tryd.prog lnk.tWg (N + 3) (N + 1) (N + 4) (KdT Tryd.prog lnk.tWg (N + 3) (N + 1) (N + 4) (AnchN N x w₀ cs)) 20 (fun _ => False) (hdG N x 10 v5 v10 v11 v12 v13 v14 cs lbN lb rstN) w := by
  have hr0 : ∀ {w w₁ : World}, FLv N w₀ w → RSt lnk.tWg (N + 3) (N + 1) (N + 4) (fun _ => False) w w₁ → FLv N w₀ w₁ := fun h r => h.rely r
  have hC : ∀ v10', FrN N x ((base 10).at (aN N x v5 v10' v11 v12 v13 v14 undef) (.inRegion (opsOf r9N) [0] :: [.code r10N])) := fun v10' => ⟨v5, v10', v11, v12, v13, v14, rfl⟩
  simp only [hdG, lbN, rstN, aN, r9N, r10N, opsOf, lIn, bIn, sR, sL, bodyN, Tryd.f10, Option.getD_some] at hC ⊢
  refine Trek.still fairS rfl (fun _ => stepG_seq) ?_
  (refine Trek.still fairS rfl (fun _ => stepG_region) ?_; simp only [List.size_toArray, List.length_cons, List.length_nil, Nat.reduceAdd, Nat.zero_add, List.range, List.range.loop])
  (refine Trek.look_k rfl (by rfl) (by decide) ?_; intro wx hx K hK; replace hF := hr0 hF hx; clear hx; go_simp; refine hK _ ⟨?_, ?_⟩; (· (rw [listed_nil (by simp [go_sem])]; exact dst_nil)); clear hK K; try walk_nrm)
  refine Trek.still fairS rfl (fun _ => stepG_region_end) ?_
  refine Trek.still fairS rfl (fun _ => stepG_seq) ?_
  refine Trek.still fairS rfl (fun _ => stepG_cond (t := false) (by simp [Act.eval])) ?_
  simp only [if_false, Bool.false_eq_true]
  refine Trek.still fairS rfl (fun _ => stepG_exit rfl) ?_
  refine Trek.still fairS rfl (fun _ => stepG_seq) ?_
  (refine Trek.still fairS rfl (fun _ => stepG_region) ?_; simp only [List.size_toArray, List.length_cons, List.length_nil, Nat.reduceAdd, Nat.zero_add, List.range, List.range.loop])
  refine Trek.mono (n := 4) ?_ (by omega)
  refine callWait wgLib (hC _) (fun h r => hr0 h r) hW rfl (by rfl) (by decide) rfl (by simp [go_sem]) _ hF
theorem allRounds (h0 : W0 B0 N x w₀) (hW : WaitInS Tryd.prog lnk (N + 3) (RSt lnk.tWg (N + 3) (N + 1) (N + 4) (fun _ => False)) (FL N w₀)) :
    ∀ (r i : Nat), i + r = 10 → ∃ (StopR : Bag → Goroutine → World → Prop) (mR : Nat), SpT Tryd.prog lnk.tWg (N + 3) (N + 1) 10 (N + 4) 26 (valN x) boxN (AnchN N x w₀ cs) r = GT Tryd.prog lnk.tWg (N + 3) (N + 1) (N + 4) StopR ∧
      ∀ v5 v10 v11 v12 v13 v14 w, FLv N w₀ w → TrS Tryd.prog lnk.tWg (N + 3) (N + 1) (N + 4) StopR mR (fun _ => False) (hdN N x i v5 v10 v11 v12 v13 v14 cs) w := by
  intro r
  induction r with
  | zero =>
    intro i hi
    obtain rfl : i = 10 := by omega
    exact ⟨_, 20, rfl, fun v5 v10 v11 v12 v13 v14 w hF => lastG hW v5 v10 v11 v12 v13 v14 w hF⟩
  | succ r ih =>
    intro i hi
    obtain ⟨StopR, mR, hSp, IH⟩ := ih (i + 1) (by omega)
    have hi' : 10 - (r + 1) = i := by omega
    refine ⟨KdS Tryd.prog lnk.tWg (N + 3) (N + 1) (N + 4) 26 (valN x) boxN i (SpT Tryd.prog lnk.tWg (N + 3) (N + 1) 10 (N + 4) 26 (valN x) boxN (AnchN N x w₀ cs) r), 40, by rw [← hi']; rfl, fun v5 v10 v11 v12 v13 v14 w hF => ?_⟩
    exact roundG h0 (by omega) hSp IH v5 v10 v11 v12 v13 v14 w hF
/-- from the loop's head -/
theorem startN (h0 : W0 B0 N x w₀) (hW : WaitInS Tryd.prog lnk (N + 3) (RSt lnk.tWg (N + 3) (N + 1) (N + 4) (fun _ => False)) (FL N w₀)) (v5 v10 v11 v12 v13 v14 : Value) {w : World} (hF : FLv N w₀ w) :
    SpT Tryd.prog lnk.tWg (N + 3) (N + 1) 10 (N + 4) 26 (valN x) boxN (AnchN N x w₀ cs) 10 (fun _ => False) (hdN N x 0 v5 v10 v11 v12 v13 v14 cs) w := by
  obtain ⟨StopR, mR, hSp, h⟩ := allRounds (cs := cs) h0 hW 10 0 rfl
  rw [hSp]
  exact ⟨mR, h v5 v10 v11 v12 v13 v14 w hF⟩
end
end Go.Proofs.YtmphfdibijbjeaaDoor
