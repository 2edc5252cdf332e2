/- FnMany: the whole run, on every tape. -/
import Derived.Test.YtmphfdibijbjeaaDoorGR
import Derived.Test.YtmphfdibijbjeaaDoorGN
namespace Go.Proofs.YtmphfdibijbjeaaDoor
open Go.Conc Go.ConcN Go.RowKit
set_option linter.unusedSimpArgs false
set_option linter.unusedVariables false
set_option maxRecDepth 100000
noncomputable def mF (a : Option Addr) (len cap : Nat) (k : Int) : Frame := (base 3).at (mA a len cap k undef) (.inRegion (opsOf lm4) [1, 2, 3, 4, 5, 6] :: [.code lmR])
section
variable {A : Nat}
/-- StrokeMany is entered -/
def AtSm (A : Nat) (a : Option Addr) (len cap : Nat) (g : Goroutine) (w : World) : Prop :=
  ∃ k : Int, HZ A w ∧ g = G ((base 6).at ⟨#[.int .i64 k] ++ Array.replicate 11 undef, []⟩ [.code smB]) [mF a len cap k]
set_option maxHeartbeats 8000000 in
theorem startBig (a : Option Addr) (len cap : Nat) (hl : 1048576 < len) (W : World) (hF : CodeF A a len cap W) :
    Goes Tryd.prog true AtRel (DSr A) AtRet 40 (G ((base 3).at ⟨#[.slice a len cap] ++ Array.replicate 96 undef, []⟩ [.code bodyM]) []) W := by
  have h1 : decide ((len : Int) > 1048576) = true := decide_eq_true (by omega)
  have h2 : decide ((1048576 : Int) < len) = true := decide_eq_true (by omega)
  generalize hK0 : AtRet = K0
  simp only [bodyM, Tryd.f3, Option.getD_some, Array.replicate_succ, Array.replicate_zero, List.push_toArray, List.append_toArray, List.nil_append, List.cons_append]
  refine Goes.stillZ (termsR A) rfl (fun _ => stepG_seq) ?_
  (refine Goes.stillZ (termsR A) rfl (fun _ => stepG_region) ?_; simp only [List.size_toArray, List.length_cons, List.length_nil, Nat.reduceAdd, Nat.zero_add, List.range, List.range.loop])
  (refine Goes.operZ rfl (by rfl) (by decide) ?_; intro wx hx K hK; replace hF := CodeF.rely hF hx; clear hx; go_simp; refine hK _ _ ⟨?_, ?_⟩; (· (rw [listed_nil (by simp [go_sem])]; exact (termsR A).idle _)); clear hK K; try walk_nrm)
  refine Goes.stillZ (termsR A) rfl (fun _ => stepG_region_end) ?_
  refine Goes.stillZ (termsR A) rfl (fun _ => stepG_seq) ?_
  refine Goes.stillZ (termsR A) rfl (fun _ => stepG_seq) ?_
  (refine Goes.stillZ (termsR A) rfl (fun _ => stepG_region) ?_; simp only [List.size_toArray, List.length_cons, List.length_nil, Nat.reduceAdd, Nat.zero_add, List.range, List.range.loop])
  (refine Goes.operZ rfl (by rfl) (by decide) ?_; intro wx hx K hK; replace hF := CodeF.rely hF hx; clear hx; go_simp; refine hK _ _ ⟨?_, ?_⟩; (· (rw [listed_nil (by simp [go_sem])]; exact (termsR A).idle _)); clear hK K; try walk_nrm)
  (refine Goes.operZ rfl (by rfl) (by decide) ?_; intro wx hx K hK; replace hF := CodeF.rely hF hx; clear hx; go_simp; refine hK _ _ ⟨?_, ?_⟩; (· (rw [listed_nil (by simp [go_sem])]; exact (termsR A).idle _)); clear hK K; try walk_nrm)
  (refine Goes.operZ rfl (by rfl) (by decide) ?_; intro wx hx K hK; replace hF := CodeF.rely hF hx; clear hx; go_simp; refine hK _ _ ⟨?_, ?_⟩; (· (rw [listed_nil (by simp [go_sem])]; exact (termsR A).idle _)); clear hK K; try walk_nrm)
  refine Goes.stillZ (termsR A) rfl (fun _ => stepG_region_end) ?_
  refine Goes.stillZ (termsR A) rfl (fun _ => stepG_cond (t := true) (by simp [Act.eval, h1, h2])) ?_
  simp only [if_true]
  refine Goes.stillZ (termsR A) rfl (fun _ => stepG_seq) ?_
  (refine Goes.stillZ (termsR A) rfl (fun _ => stepG_region) ?_; simp only [List.size_toArray, List.length_cons, List.length_nil, Nat.reduceAdd, Nat.zero_add, List.range, List.range.loop])
  (refine Goes.operZ rfl (by rfl) (by decide) ?_; intro wx hx K hK; replace hF := CodeF.rely hF hx; clear hx; go_simp; refine hK _ _ ⟨?_, ?_⟩; (· (rw [listed_nil (by simp [go_sem])]; exact (termsR A).idle _)); clear hK K; try walk_nrm)
  refine Goes.stillZ (termsR A) rfl (fun _ => stepG_region_end) ?_
  refine Go.Conc.Goes.stop fun w12 hx => ?_
  rw [← hK0]
  exact ⟨_, _, rfl, rfl, rfl⟩
set_option maxHeartbeats 8000000 in
theorem startSm (a : Option Addr) (len cap : Nat) (hl : ¬ 1048576 < len) : ∃ n, ∀ W, CodeF A a len cap W →
    Goes Tryd.prog true AtRel (DSr A) (AtSm A a len cap) n (G ((base 3).at ⟨#[.slice a len cap] ++ Array.replicate 96 undef, []⟩ [.code bodyM]) []) W := by
  obtain ⟨Nd, hD⟩ := drawC (main := true) (A := A) a len cap
  have h1 : decide ((len : Int) > 1048576) = false := decide_eq_false (by omega)
  have h2 : decide ((1048576 : Int) < len) = false := decide_eq_false (by omega)
  refine ⟨Nd + 100, fun W hF => ?_⟩
  generalize hK0 : AtSm A a len cap = K0
  simp only [bodyM, Tryd.f3, Option.getD_some, Array.replicate_succ, Array.replicate_zero, List.push_toArray, List.append_toArray, List.nil_append, List.cons_append]
  refine Goes.stillZ (termsR A) rfl (fun _ => stepG_seq) ?_
  (refine Goes.stillZ (termsR A) rfl (fun _ => stepG_region) ?_; simp only [List.size_toArray, List.length_cons, List.length_nil, Nat.reduceAdd, Nat.zero_add, List.range, List.range.loop])
  (refine Goes.operZ rfl (by rfl) (by decide) ?_; intro wx hx K hK; replace hF := CodeF.rely hF hx; clear hx; go_simp; refine hK _ _ ⟨?_, ?_⟩; (· (rw [listed_nil (by simp [go_sem])]; exact (termsR A).idle _)); clear hK K; try walk_nrm)
  refine Goes.stillZ (termsR A) rfl (fun _ => stepG_region_end) ?_
  refine Goes.stillZ (termsR A) rfl (fun _ => stepG_seq) ?_
  refine Goes.stillZ (termsR A) rfl (fun _ => stepG_seq) ?_
  (refine Goes.stillZ (termsR A) rfl (fun _ => stepG_region) ?_; simp only [List.size_toArray, List.length_cons, List.length_nil, Nat.reduceAdd, Nat.zero_add, List.range, List.range.loop])
  (refine Goes.operZ rfl (by rfl) (by decide) ?_; intro wx hx K hK; replace hF := CodeF.rely hF hx; clear hx; go_simp; refine hK _ _ ⟨?_, ?_⟩; (· (rw [listed_nil (by simp [go_sem])]; exact (termsR A).idle _)); clear hK K; try walk_nrm)
  (refine Goes.operZ rfl (by rfl) (by decide) ?_; intro wx hx K hK; replace hF := CodeF.rely hF hx; clear hx; go_simp; refine hK _ _ ⟨?_, ?_⟩; (· (rw [listed_nil (by simp [go_sem])]; exact (termsR A).idle _)); clear hK K; try walk_nrm)
  (refine Goes.operZ rfl (by rfl) (by decide) ?_; intro wx hx K hK; replace hF := CodeF.rely hF hx; clear hx; go_simp; refine hK _ _ ⟨?_, ?_⟩; (· (rw [listed_nil (by simp [go_sem])]; exact (termsR A).idle _)); clear hK K; try walk_nrm)
  refine Goes.stillZ (termsR A) rfl (fun _ => stepG_region_end) ?_
  refine Goes.stillZ (termsR A) rfl (fun _ => stepG_cond (t := false) (by simp [Act.eval, h1, h2])) ?_
  simp only [if_false, Bool.false_eq_true]
  refine Goes.stillZ (termsR A) rfl (fun _ => stepG_skip) ?_
  refine Goes.stillZ (termsR A) rfl (fun _ => stepG_seq) ?_
  (refine Goes.stillZ (termsR A) rfl (fun _ => stepG_region) ?_; simp only [List.size_toArray, List.length_cons, List.length_nil, Nat.reduceAdd, Nat.zero_add, List.range, List.range.loop])
  (refine Goes.operZ rfl (by rfl) (by decide) ?_; intro wx hx K hK; replace hF := CodeF.rely hF hx; clear hx; go_simp; refine hK _ _ ⟨?_, ?_⟩; (· (rw [listed_nil (by simp [go_sem])]; exact (termsR A).idle _)); clear hK K; try walk_nrm)
  refine Go.Conc.Goes.mono (n := 60 + Nd + 3) ?_ (by omega)
  refine Goes.call (termsR A) rfl (by rfl) (by decide) rfl (by simpa [go_sem] using hD _ hF) ?_
  rintro _ w1 ⟨⟨k, rfl⟩, hZ⟩
  walk_nrm
  (refine Goes.operZ rfl (by rfl) (by decide) ?_; intro wx hx K hK; replace hZ := HZ.rely hZ hx; clear hx; go_simp; refine hK _ _ ⟨?_, ?_⟩; (· (rw [listed_nil (by simp [go_sem])]; exact (termsR A).idle _)); clear hK K; try walk_nrm)
  refine Goes.stillZ (termsR A) rfl (fun _ => stepG_region_end) ?_
  refine Goes.stillZ (termsR A) rfl (fun _ => stepG_seq) ?_
  (refine Goes.stillZ (termsR A) rfl (fun _ => stepG_region) ?_; simp only [List.size_toArray, List.length_cons, List.length_nil, Nat.reduceAdd, Nat.zero_add, List.range, List.range.loop])
  (refine Goes.operZ rfl (by rfl) (by decide) ?_; intro wx hx K hK; replace hZ := HZ.rely hZ hx; clear hx; go_simp; refine hK _ _ ⟨?_, ?_⟩; (· (rw [listed_nil (by simp [go_sem])]; exact (termsR A).idle _)); clear hK K; try walk_nrm)
  refine Goes.enterZ (termsR A) rfl (by rfl) (by decide) rfl Tryd.func6 (by rfl) rfl ?_
  walk_nrmf Tryd.f6
  refine Go.Conc.Goes.stop fun w12 hx => ?_
  rw [← hK0]
  refine ⟨k, HZ.rely hZ hx, ?_⟩
  simp only [mF, mA, opsOf, lm4, lmR, smB, bodyM, sL, sR, Tryd.f3, Tryd.f6, Option.getD_some, Array.replicate_succ, Array.replicate_zero, List.push_toArray, List.append_toArray, List.nil_append, List.cons_append]
end
theorem postX_at {W w : World} (h : Below W.heap.size W w) (d : Nat) : PostX W (.bool true) (w.at d) := ⟨rfl, h.os, h.tape, h.output, h.size, h.block⟩
theorem manyRunM (hI : ∀ N w₀, WaitInS Tryd.prog lnk (N + 3) (RN N) (FL N w₀)) (hO : ∀ N w₀, WaitOnS Tryd.prog lnk (N + 3) (RN N) (FL N w₀)) {B0 : Nat} (a : Option Addr) (len cap : Nat) (W : World) (hC : CodeF W.heap.size a len cap W) (hD : DKB B0 W) (hB : B0 ≤ W.heap.size) :
    ∃ M last o w' t', runNT Tryd.prog (M + 1) (solo (G (Frame.enter Tryd.prog 3 #[.slice a len cap] .normal) []) W) #[] = (.ended o w', t') ∧ runN Tryd.prog M (solo (G (Frame.enter Tryd.prog 3 #[.slice a len cap] .normal) []) W) = .next last ∧
      step Tryd.prog last = .ended o w' ∧ Go.Conc.Good Tryd.prog (PostX W) last o w' t' := by
  have hen : Frame.enter Tryd.prog 3 #[.slice a len cap] .normal = (base 3).at ⟨#[.slice a len cap] ++ Array.replicate 96 undef, []⟩ [.code bodyM] := by
    rw [enter_at (c := bodyM) #[.slice a len cap] Tryd.func3 (by unfold bodyM; rfl), Tryd.ntmps3]
    rfl
  rw [hen]
  by_cases hl : 1048576 < len
  · obtain ⟨k1, a1, w1, t1, r1, hs, hb, hal⟩ := solo_r #[] (startBig (A := W.heap.size) a len cap hl W hC) (alone_nil _)
    obtain ⟨M, last, o, w', t', e1, e2, e3, e4⟩ := fin_alone (Post := PostX W) hal (retEnd hs fun d => postX_at hb d)
    obtain ⟨q1, q2⟩ := run_then r1 e1 e2
    exact ⟨_, last, o, w', t', q1, q2, e3, e4⟩
  · obtain ⟨n, hn⟩ := startSm (A := W.heap.size) a len cap hl
    obtain ⟨k1, a1, w1, t1, r1, ⟨k, hZ, rfl⟩, hb, hal⟩ := solo_r #[] (hn W hC) (alone_nil _)
    have hZ : W.heap.size ≤ w1.heap.size := hZ
    by_cases hk : 0 ≤ k ∧ k ≤ 12
    · obtain ⟨K, rfl⟩ := Int.eq_ofNat_of_zero_le hk.1
      obtain ⟨M, last, o, w', t', e1, e2, e3, e4⟩ := countRun (Post := PostX W) (b := base 3) (a := mA a len cap (K : Int) undef) (ops := opsOf lm4) (i := 1) (rest := [2, 3, 4, 5, 6]) (kk := [.code lmR]) (cs := []) hI hO hk w1 (hD.step (hb.mono hB)) (by omega) hal
        (fun N hN => by
          obtain ⟨n2, h2⟩ := restYes (A := N + 4) (a := a) (len := len) (cap := cap) (K := K) (by omega)
          refine ⟨2 + n2, fun w hs hbw => ?_⟩
          rw [putM]
          exact FinG.solo (Wg := N + 3) (A := N + 4) (Stop := AtRet) (J := Below W.heap.size W) (by omega) (fun w d h => ⟨h.os, h.tape, h.output, h.size, h.block⟩) (fun w w' h1 h2 => h2.trans (h1.mono (by omega))) (fun g w hg hj => retEnd hg fun d => postX_at hj d) (h2 w hs) (hb.trans (hbw.mono hZ)))
      obtain ⟨q1, q2⟩ := run_then r1 e1 e2
      exact ⟨_, last, o, w', t', q1, q2, e3, e4⟩
    · obtain ⟨k2, a2, w2, t2, r2, ⟨hz2, rfl⟩, hb2, hal2⟩ := solo_z t1 (smNo (A := W.heap.size) (b₀ := base 3) (a₀ := mA a len cap k undef) (ops₀ := opsOf lm4) (i₀ := 1) (rest₀ := [2, 3, 4, 5, 6]) (k₀ := [.code lmR]) (cs' := [])
        (K0 := fun g w => HZ W.heap.size w ∧ g = G ((base 3).at ((mA a len cap k undef).put (((opsOf lm4)[1]?).bind (·.dst)) (.tuple #[.int .i64 0, .bool false])) (.inRegion (opsOf lm4) [2, 3, 4, 5, 6] :: [.code lmR])) []) hk w1 hZ (fun w h => ⟨h, rfl⟩)) hal
      rw [putM] at r2
      obtain ⟨n3, h3⟩ := restNo (A := W.heap.size) (a := a) (len := len) (cap := cap) hk
      obtain ⟨k3, a3, w3, t3, r3, hs, hb3, hal3⟩ := solo_z t2 (h3 w2 hz2) hal2
      obtain ⟨M, last, o, w', t', e1, e2, e3, e4⟩ := fin_alone (Post := PostX W) hal3 (retEnd hs fun d => postX_at ((hb.trans hb2).trans hb3) d)
      obtain ⟨q1, q2⟩ := run_then r3 e1 e2
      obtain ⟨q3, q4⟩ := run_then r2 q1 q2
      obtain ⟨q5, q6⟩ := run_then r1 q3 q4
      exact ⟨_, last, o, w', t', q5, q6, e3, e4⟩
end Go.Proofs.YtmphfdibijbjeaaDoor
