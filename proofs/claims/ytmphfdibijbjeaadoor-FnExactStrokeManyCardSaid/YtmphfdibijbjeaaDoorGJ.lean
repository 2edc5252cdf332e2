/- FnExactStrokeMany: the whole run, on every tape. -/
import Derived.Test.YtmphfdibijbjeaaDoorGF
import Derived.Test.YtmphfdibijbjeaaDoorGI
namespace Go.Proofs.YtmphfdibijbjeaaDoor
open Go.Conc Go.ConcN Go.RowKit
open Go.ConcR (wgBlock WgAt stA)
set_option linter.unusedSimpArgs false
set_option linter.unusedVariables false
set_option maxRecDepth 100000
section
variable {P : Program} {A : Nat} {Stop : Goroutine → World → Prop}
theorem solo_n : ∀ {n : Nat} {a : Goroutine} {w : World}, Goes P true AtRel (DNo A) Stop n a w →
    ∃ k a' w', (∀ t, runNT P k (solo a w) t = (.next (solo a' w'), t)) ∧ Stop a' w' ∧ Below A w w' := by
  intro n
  induction n with
  | zero => exact fun {a w} h => ⟨0, a, w, fun t => by simp [runNT], h w (atRel_refl w), Below.refl _ _⟩
  | succ n ih =>
    intro a w h
    rcases h with h | ⟨hs, h⟩
    · exact ⟨0, a, w, fun t => by simp [runNT], h w (atRel_refl w), Below.refl _ _⟩
    · obtain ⟨a₁, w₁, es, hgo, hd, hg⟩ := goes_elim (h w (atRel_refl w))
      obtain ⟨k, a', w', hrun, hstop, hb⟩ := ih hg
      refine ⟨k + 1, a', w', fun t => ?_, hstop, (below_dz hd.dz).trans hb⟩
      rw [runNT_succ_next ((stepT_solo hs).trans (runT_solo_go hgo)), hrun, hd.none]
      simp [ofEvents_eq]
theorem run_then {k M : Nat} {m m' last : Machine} {t t1 t' : Trace} {o : Outcome} {w' : World} (r : runNT P k m t = (.next m', t1)) (e1 : runNT P (M + 1) m' t1 = (.ended o w', t')) (e2 : runN P M m' = .next last) :
    runNT P (k + M + 1) m t = (.ended o w', t') ∧ runN P (k + M) m = .next last :=
  ⟨by rw [Nat.add_assoc, runNT_add, r]; exact e1, by rw [runN_add, ← runNT_fst P _ _ t, r]; exact e2⟩
end
/-- the law's promise -/
def PostX (W : World) (v : Value) (w : World) : Prop := v = .bool true ∧ Below W.heap.size W w
theorem putS (k : Int) (v : Value) : (smA k undef).put (((opsOf sm3)[1]?).bind (·.dst)) v = smA k v := by
  simp only [smA, opsOf, sm3, smB, sL, sR, Tryd.f6, Option.getD_some]
  simp [Act.put]
theorem manyRun (hI : ∀ N w₀, WaitInS Tryd.prog lnk (N + 3) (RN N) (FL N w₀)) (hO : ∀ N w₀, WaitOnS Tryd.prog lnk (N + 3) (RN N) (FL N w₀)) {B0 : Nat} (k : Int) (W : World) (hD : DKB B0 W) (hB : B0 ≤ W.heap.size) :
    ∃ M last o w' t', runNT Tryd.prog (M + 1) (solo (G (Frame.enter Tryd.prog 4 #[.int .i64 k] .normal) []) W) #[] = (.ended o w', t') ∧ runN Tryd.prog M (solo (G (Frame.enter Tryd.prog 4 #[.int .i64 k] .normal) []) W) = .next last ∧
      step Tryd.prog last = .ended o w' ∧ Go.Conc.Good Tryd.prog (PostX W) last o w' t' := by
  have hen : Frame.enter Tryd.prog 4 #[.int .i64 k] .normal = (base 4).at ⟨#[.int .i64 k] ++ Array.replicate 24 undef, []⟩ [.code lawB] := by
    rw [enter_at (c := lawB) #[.int .i64 k] Tryd.func4 (by unfold lawB; rfl), Tryd.ntmps4]
    rfl
  rw [hen]
  have hA : 0 < W.heap.size := by have := hD.1; omega
  by_cases hk : 0 ≤ k ∧ k ≤ 12
  · obtain ⟨K, rfl⟩ := Int.eq_ofNat_of_zero_le hk.1
    have hT : smR (K : Int) = .tuple #[.int .i64 ((mny K 10000 : Nat) : Int), .bool true] := by unfold smR; rw [if_pos hk]; rfl
    obtain ⟨n, hn⟩ := walkIn (A := W.heap.size) hk hT
    obtain ⟨k1, a1, w1, t1, r1, ⟨N, rfl, hQ⟩, hb1, hal⟩ := solo_z #[] (hn W (Nat.le_refl _)) (alone_nil _)
    obtain ⟨k2, a2, w2, r2, ⟨v5, v10, v11, v12, v13, v14, rfl, hQ2⟩, hb2⟩ := solo_n (walkHd w1 hQ)
    have hb : Below W.heap.size W w2 := hb1.trans hb2
    have hAN : W.heap.size ≤ N := hQ.1
    have hz1 : w1.heap.size = N + 3 := hQ.2.1
    have hz2 : w2.heap.size = N + 4 := hQ2.2.1
    have g0 : w2.heap[N]? = some (.cells #[.int .i64 (K : Int)] 3) := hQ2.2.2 0 _ rfl
    have g2 : w2.heap[N + 2]? = some (.cells #[.chan (some (N + 1))] 35) := hQ2.2.2 2 _ rfl
    have h0 : W0 B0 N (K : Int) w2 :=
      ⟨hD.step ⟨hb.os, hb.tape, hb.output, hb.size, fun b hbb => hb.block b (by omega)⟩, by omega, hz2, by simp [World.cell?, g0], by simp [World.cell?, g2]⟩
    have hsum : mny K 10000 = sumTo 10 (valN (K : Int)) := (sum_mny K 10 (by omega)).symm
    have hle := mny_le K 10000
    have hseen : Seen (N + 3) t1 := hz1 ▸ hal.seen
    obtain ⟨M, last, o, w', t', e1, e2, e3, e4⟩ := countN (B0 := B0) (N := N) (x := (K : Int)) (w₀ := w2) (m := 70) (T := mny K 10000) (Post := PostX W) (b₀ := base 6) (a₀ := smA K undef) (ops₀ := opsOf sm3) (i₀ := 1) (rest₀ := [2, 3]) (k₀ := [.code sm4]) (cs' := [lwF K (mny K 10000 : Nat) true])
      (hI N w2) (hO N w2) h0 hsum (by omega) (hQ2.2.2 3 _ rfl) (hQ2.2.2 1 _ rfl) hal.g hseen (fun op hop => hal.mute op hop _) (hal.deaf 0)
      (fun w hF => by
        rw [putS]
        refine smEnd (n := 60) ?_
        rw [putL]
        refine lawEnd true fun d => ⟨rfl, hF.os.trans hb.os, hF.tape.trans hb.tape, hF.output.trans hb.output, ?_, fun b hbb => (hF.low b (by omega) (by omega) (by omega)).trans (hb.block b hbb)⟩
        have h1 := hF.size
        have h2 := hb.size
        show W.heap.size ≤ w.heap.size
        omega) v5 v10 v11 v12 v13 v14
    obtain ⟨q1, q2⟩ := run_then (r2 t1) e1 e2
    obtain ⟨q3, q4⟩ := run_then r1 q1 q2
    exact ⟨_, last, o, w', t', q3, q4, e3, e4⟩
  · have hT : smR k = .tuple #[.int .i64 0, .bool false] := by unfold smR; rw [if_neg hk]
    obtain ⟨n, hn⟩ := walkOut (A := W.heap.size) hk hT
    refine fin_solo (FinG.solo (Wg := 0) (Stop := AtBk k 0 false) (J := Below W.heap.size W) hA (fun w d h => ⟨h.os, h.tape, h.output, h.size, h.block⟩) (fun w w' h1 h2 => h2.trans h1) (m := 60) ?_ (hn W (Nat.le_refl _)) (Below.refl _ _))
    intro g w hs hj
    rw [hs]
    exact lawEnd false fun d => ⟨rfl, hj.os, hj.tape, hj.output, hj.size, hj.block⟩
end Go.Proofs.YtmphfdibijbjeaaDoor
