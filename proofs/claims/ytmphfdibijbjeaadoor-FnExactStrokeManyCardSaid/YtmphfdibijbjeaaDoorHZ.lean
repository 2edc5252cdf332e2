/- countNumbers: from the loop that starts the goroutines to the end of the run, on every tape. -/
import Derived.Test.YtmphfdibijbjeaaDoorHY
namespace Go.Proofs.YtmphfdibijbjeaaDoor
open Go.Conc Go.ConcN Go.RowKit
open Go.ConcR (KK wgBlock WgAt stA smA rd wr mk Payload)
set_option linter.unusedSimpArgs false
set_option linter.unusedVariables false
set_option maxRecDepth 100000
section
variable {B0 N : Nat} {x : Int} {w₀ : World} {cs cs' : List Frame} {Post : Value → World → Prop} {b₀ : Frame} {a₀ : Act} {ops₀ : Array Oper} {i₀ : Nat} {rest₀ : List Nat} {k₀ : List Item}
/-- Wait has returned -/
def AftN (N : Nat) (x : Int) (w₀ : World) (cs : List Frame) (g : Goroutine) (w : World) : Prop :=
  ∃ v5 v10 v11 v12 v13 v14, g = G ((base 10).at (aN N x v5 v10 v11 v12 v13 v14 (.tuple #[])) (.inRegion (opsOf r9N) [] :: [.code r10N])) cs ∧ FL N w₀ w
abbrev RN (N : Nat) : World → World → Prop := RSt lnk.tWg (N + 3) (N + 1) (N + 4) (fun _ => False)
theorem flv_rn {w w₁ : World} (h : FLv N w₀ w) (r : RN N w w₁) : FLv N w₀ w₁ := h.rely r
theorem putN (v5 v10 v11 v12 v13 v14 : Value) : (aN N x v5 v10 v11 v12 v13 v14 undef).put (((opsOf r9N)[0]?).bind (·.dst)) (.tuple #[]) = aN N x v5 v10 v11 v12 v13 v14 (.tuple #[]) := by
  simp only [aN, opsOf, r9N, rstN, sL, sR, bodyN, Tryd.f10, Option.getD_some]
  simp [Act.put]
abbrev PostN (N : Nat) (x : Int) (w₀ : World) (cs : List Frame) (_ : Bag) (g : Goroutine) (w : World) : Prop := Soon Tryd.prog (N + 3) (RN N) (AftN N x w₀ cs) g w
theorem anchN_on (hO : WaitOnS Tryd.prog lnk (N + 3) (RN N) (FL N w₀)) (S : Bag) (g : Goroutine) (w : World) (h : AnchN N x w₀ cs S g w) :
    GT Tryd.prog lnk.tWg (N + 3) (N + 1) (N + 4) (W1T Tryd.prog lnk.tWg (N + 3) (N + 1) (N + 4) (AnchN N x w₀ cs) (PostN N x w₀ cs)) S g w := by
  obtain ⟨rfl, c, ⟨v5, v10, v11, v12, v13, v14, rfl⟩, h⟩ := h
  have hk := hO (K := AftN N x w₀ cs) (mT := 0) (fun w hF => Goes.stop fun w₁ r => ⟨v5, v10, v11, v12, v13, v14, by rw [putN], (flv_rn hF r).1⟩) g w h
  exact gt_soon (fun g w h => w1T_of (c := (base 10).at (aN N x v5 v10 v11 v12 v13 v14 undef) (.inRegion (opsOf r9N) [0] :: [.code r10N])) ⟨v5, v10, v11, v12, v13, v14, rfl⟩ rfl (fun _ _ h => h) h) hk
theorem anchN_run (S : Bag) (g : Goroutine) (w : World) (h : AnchN N x w₀ cs S g w) : g.status = .running := by
  obtain ⟨_, c, _, T, rfl, _⟩ := h
  rfl
/-- ████ from the loop's head to the end ████ -/
theorem countN {m T : Nat} (hI : WaitInS Tryd.prog lnk (N + 3) (RN N) (FL N w₀)) (hO : WaitOnS Tryd.prog lnk (N + 3) (RN N) (FL N w₀)) (h0 : W0 B0 N x w₀) (hTs : T = sumTo 10 (valN x)) (hT : T < 4611686018427387904)
    (hwg : WgAt lnk.tWg (N + 3) w₀ 0 0) (hch : w₀.heap[N + 1]? = some (.chan 10 #[] false 0 0 false)) {t : Trace} (hg : ∀ op ∈ t, op.g = 0) (hseen : Seen (N + 3) t) (hnr : ∀ op ∈ t, op.act ≠ .mark (.release (stA (N + 3)))) (hd : Deaf t 0 = 0)
    (hK : ∀ w, FL N w₀ w → FinG Tryd.prog (N + 3) Post m (G (b₀.at (a₀.put ((ops₀[i₀]?).bind (·.dst)) (.int .i64 (T : Nat))) (.inRegion ops₀ rest₀ :: k₀)) cs') w) (v5 v10 v11 v12 v13 v14 : Value) :
    ∃ M last o w' t', runNT Tryd.prog (M + 1) (solo (hdN N x 0 v5 v10 v11 v12 v13 v14 (b₀.at a₀ (.inRegion ops₀ (i₀ :: rest₀) :: k₀) :: cs')) w₀) t = (.ended o w', t') ∧
      runN Tryd.prog M (solo (hdN N x 0 v5 v10 v11 v12 v13 v14 (b₀.at a₀ (.inRegion ops₀ (i₀ :: rest₀) :: k₀) :: cs')) w₀) = .next last ∧ step Tryd.prog last = .ended o w' ∧ Go.Conc.Good Tryd.prog Post last o w' t' := by
  have hz := h0.size
  have hF : FLv N w₀ w₀ := ⟨⟨fun _ _ _ _ => rfl, rfl, rfl, rfl, by omega⟩, ⟨_, _, hwg⟩⟩
  have hst := startN (cs := b₀.at a₀ (.inRegion ops₀ (i₀ :: rest₀) :: k₀) :: cs') h0 hI v5 v10 v11 v12 v13 v14 hF
  obtain ⟨μ, hInv⟩ := k_begin (P := Tryd.prog) (ty := lnk.tWg) (M := 26) (val := valN x) (box := boxN) (Post := PostN N x w₀ (b₀.at a₀ (.inRegion ops₀ (i₀ :: rest₀) :: k₀) :: cs')) (sl := none) (t := t) (Wg := N + 3) (Ch := N + 1) (Low0 := N + 4) (n := 10)
    (by omega) (by omega) (by omega) (by omega) hg
    (fun op hop x hx hs => by
      obtain ⟨a, e1, e2⟩ := hs
      have := hseen op hop x hx a e1
      omega) (hseen.mono (by omega)) hnr hd hwg hch (by omega) hst
  obtain ⟨N1, m1, t1, r1, hD⟩ := k_runs (by omega) anchN_run (anchN_on hO) μ _ _ hInv
  obtain ⟨gs, w1, sl1, a1, S1, q, rfl, g0, ⟨mP, hP⟩, hL, hPa, hch1⟩ := hD
  have hG : FinG Tryd.prog (N + 3) Post ((m + 30 + 30 * 10 + 30) + mP) a1 w1 := by
    refine FinG.goesJ (J := fun w => ChanHas (N + 1) 10 10 T w) (fun w d h => h) (fun w w' es hd h => by rw [hd.1]; exact h) (fun w d => RSt.at _ w d) (fun w w' es hd e he => ⟨fun x hx _ => ((hd.2 e he).1 x hx).2, (hd.2 e he).2.1, (hd.2 e he).2.2.1⟩) ?_ hP (by rw [hTs]; exact hch1)
    rintro g w ⟨u5, u10, u11, u12, u13, u14, rfl, hF⟩ hch
    exact closeN hT (by omega) h0.cc hK hF hch
  obtain ⟨M, last, o, w', t', e1, e2, e3, e4⟩ := p_ends g0 hL hPa hG
  refine ⟨N1 + M, last, o, w', t', ?_, ?_, e3, e4⟩
  · rw [Nat.add_assoc, runNT_add, solo_eq_crowd, r1]; exact e1
  · rw [runN_add, ← runNT_fst Tryd.prog _ _ t, solo_eq_crowd, r1]; exact e2
end
end Go.Proofs.YtmphfdibijbjeaaDoor
