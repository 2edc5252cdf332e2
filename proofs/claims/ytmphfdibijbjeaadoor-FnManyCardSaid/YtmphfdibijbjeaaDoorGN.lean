/- DrawStrokeMany in company. -/
import Derived.Test.YtmphfdibijbjeaaDoorGM
namespace Go.Proofs.YtmphfdibijbjeaaDoor
open Go.Conc Go.ConcN Go.RowKit
set_option linter.unusedSimpArgs false
set_option linter.unusedVariables false
set_option maxRecDepth 100000
theorem HZ.of {A : Nat} {w : World} {a : Option Addr} {len cap : Nat} (h : CodeF A a len cap w) : HZ A w := h.le
theorem callsC_mono {P : Program} {main : Bool} {R : World → World → Prop} {D : World → World → Array Event → Prop} {f : FuncId} {args : Array Value} {n n' : Nat} {w : World} {Post : Value → World → Prop} (h : CallsC P main R D f args n w Post) (hn : n ≤ n') : CallsC P main R D f args n' w Post := by
  obtain ⟨fn, c, hf, hname, hbody, hwp⟩ := h
  exact ⟨fn, c, hf, hname, hbody, fun b k cs Stop m hb hk hc => (hwp b k cs Stop m hb hk hc).mono (by omega)⟩
/-- the reader's pick, whatever reader -/
theorem pickAll {main : Bool} {A : Nat} : ∃ N, ∀ r a len cap w, RdO A r a len cap 0 w → CallsC Tryd.prog main AtRel (DSr A) 9 #[.pointer (some ⟨r, 0, none⟩), .int .i64 15] N w fun v w' => ∃ k : Int, v = .int .i64 k ∧ HZ A w' := by
  obtain ⟨N0, h0⟩ := pickZero (main := main) (A := A)
  obtain ⟨N1, h1⟩ := pickOne (main := main) (A := A)
  refine ⟨N0 + N1, fun r a len cap w h => ?_⟩
  rcases Nat.eq_zero_or_pos len with rfl | hl
  · exact callsC_mono (h0 a r cap w h) (by omega)
  · exact callsC_mono (h1 a r len cap w hl h) (by omega)
/-- DrawStrokeMany draws some number -/
theorem drawC {main : Bool} {A : Nat} (a : Option Addr) (len cap : Nat) : ∃ N, ∀ w, CodeF A a len cap w → CallsC Tryd.prog main AtRel (DSr A) 5 #[.slice a len cap] N w fun v w' => ∃ k : Int, v = .int .i64 k ∧ HZ A w' := by
  obtain ⟨N0, hO⟩ := l6OpenC (main := main) (A := A) a len cap
  obtain ⟨N1, hP⟩ := pickAll (main := main) (A := A)
  co_apply Exists.intro
  intro w hF
  co_apply callsC_of_wpC Tryd.func5 (by rfl) rfl
  simp only [Tryd.ntmps5, List.size_toArray, List.length_cons, List.length_nil, Nat.reduceAdd, Nat.reduceSub, Array.replicate_succ, Array.replicate_zero, List.push_toArray, List.append_toArray, List.nil_append, List.cons_append]
  co_apply wpC_seq (termsR A)
  co_reg (termsR A)
  co_op CodeF.rely hF (co_quiet (termsR A))
  co_apply opsC_nil (termsR A)
  co_then
  co_apply wpC_seq (termsR A)
  co_reg (termsR A)
  co_op CodeF.rely hF (co_quiet (termsR A))
  co_apply opsC_call_at (termsR A) rfl (by rfl) rfl (hO _ hF) (by simp [go_sem])
  rintro _ w1 ⟨r, l, c, rfl, hR⟩
  clear hF
  try walk_nrm
  co_op RdO.rely hR (co_quiet (termsR A))
  co_apply opsC_nil (termsR A)
  co_then
  co_apply wpC_seq (termsR A)
  co_reg (termsR A)
  co_op RdO.rely hR (co_quiet (termsR A))
  co_apply opsC_call_at (termsR A) rfl (by rfl) rfl (hP _ _ _ _ _ hR) (by simp [go_sem])
  rintro _ w2 ⟨k, rfl, hZ⟩
  clear hR
  try walk_nrm
  co_op HZ.rely hZ (co_quiet (termsR A))
  co_op HZ.rely hZ (co_quiet (termsR A))
  co_apply opsC_nil (termsR A)
  co_then
  co_ctl (termsR A)
  exact ⟨rfl, _, resultsC_tmp (by rfl) _, _, rfl, hZ⟩
end Go.Proofs.YtmphfdibijbjeaaDoor
