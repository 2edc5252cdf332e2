/- FnMany behind StrokeMany's return (printed by genmw3.py). -/
import Derived.Test.YtmphfdibijbjeaaDoorGZ
namespace Go.Proofs.YtmphfdibijbjeaaDoor
open Go.Conc Go.ConcN Go.RowKit
set_option linter.unusedSimpArgs false
set_option linter.unusedVariables false
set_option maxRecDepth 100000
noncomputable def lm4 : Code := sL (sR (sR (sR bodyM)))
noncomputable def lmR : Code := sR (sR (sR (sR bodyM)))
/-- the law's slots at the call of StrokeMany -/
def mA (a : Option Addr) (len cap : Nat) (k : Int) (v : Value) : Act := ⟨#[.slice a len cap, undef, .bool false, .int .i64 k, undef, undef, undef, undef, undef, undef, undef, undef, undef, undef, .slice a len cap, .int .i64 (len : Nat), .bool false, .slice a len cap, .int .i64 k, undef, .int .i64 k, v, undef, undef, undef, undef, undef, undef, undef, undef, undef, undef, undef, undef, undef, undef, undef, undef, undef, undef, undef, undef, undef, undef, undef, undef, undef, undef, undef, undef, undef, undef, undef, undef, undef, undef, undef, undef, undef, undef, undef, undef, undef, undef, undef, undef, undef, undef, undef, undef, undef, undef, undef, undef, undef, undef, undef, undef, undef, undef, undef, undef, undef, undef, undef, undef, undef, undef, undef, undef, undef, undef, undef, undef, undef, undef, undef], []⟩
theorem putM (a : Option Addr) (len cap : Nat) (k : Int) (v : Value) : (mA a len cap k undef).put (((opsOf lm4)[1]?).bind (·.dst)) v = mA a len cap k v := by
  simp only [mA, opsOf, lm4, bodyM, sL, sR, Tryd.f3, Option.getD_some]
  simp [Act.put]
def AtRet (g : Goroutine) (w : World) : Prop := ∃ (a : Act) (k : List Item), g = G ((base 3).at a (.code .ret :: k)) [] ∧ a.defers = [] ∧ a.tmps.getD 2 undef = .bool true
theorem retEnd {Wg : Nat} {Post : Value → World → Prop} {g : Goroutine} {w : World} (h : AtRet g w) (hp : ∀ d, Post (.bool true) (w.at d)) : FinG Tryd.prog Wg Post 2 g w := by
  obtain ⟨a, k, rfl, h1, h2⟩ := h
  refine FinG.still rfl (fun _ => stepG_ret') ?_
  refine FinG.done1 (by kernel_rfl) rfl h1 Tryd.func3 rfl ?_
  rw [h2]
  exact hp
section
variable {A : Nat} {a : Option Addr} {len cap : Nat} {k : Int}
set_option maxHeartbeats 16000000 in
theorem restNo (hk : ¬ (0 ≤ k ∧ k ≤ 12)) : ∃ n, ∀ w, HZ A w →
    Goes Tryd.prog true AtRel (DSz A) AtRet n (G ((base 3).at (mA a len cap k (.tuple #[.int .i64 0, .bool false])) (.inRegion (opsOf lm4) [2, 3, 4, 5, 6] :: [.code lmR])) []) w := by
  obtain ⟨Ns, hS⟩ := sStrokeManyC (main := true) (A := A) k
  rw [show smR k = .tuple #[.int .i64 0, .bool false] by unfold smR; rw [if_neg hk]] at hS
  clear hk
  refine ⟨Ns + 200, fun w hF => ?_⟩
  generalize hK0 : AtRet = K0
  simp only [mA, opsOf, lm4, lmR, bodyM, sL, sR, Tryd.f3, Option.getD_some]
  (refine Goes.operZ rfl (by rfl) (by decide) ?_; intro wx hx K hK; replace hF := HZ.rely hF hx; clear hx; go_simp; refine hK _ _ ⟨?_, ?_⟩; (· (rw [listed_nil (by simp [go_sem])]; exact (termsZ A).idle _)); clear hK K; try walk_nrm)
  (refine Goes.operZ rfl (by rfl) (by decide) ?_; intro wx hx K hK; replace hF := HZ.rely hF hx; clear hx; go_simp; refine hK _ _ ⟨?_, ?_⟩; (· (rw [listed_nil (by simp [go_sem])]; exact (termsZ A).idle _)); clear hK K; try walk_nrm)
  (refine Goes.operZ rfl (by rfl) (by decide) ?_; intro wx hx K hK; replace hF := HZ.rely hF hx; clear hx; go_simp; refine hK _ _ ⟨?_, ?_⟩; (· (rw [listed_nil (by simp [go_sem])]; exact (termsZ A).idle _)); clear hK K; try walk_nrm)
  (refine Goes.operZ rfl (by rfl) (by decide) ?_; intro wx hx K hK; replace hF := HZ.rely hF hx; clear hx; go_simp; refine hK _ _ ⟨?_, ?_⟩; (· (rw [listed_nil (by simp [go_sem])]; exact (termsZ A).idle _)); clear hK K; try walk_nrm)
  (refine Goes.operZ rfl (by rfl) (by decide) ?_; intro wx hx K hK; replace hF := HZ.rely hF hx; clear hx; go_simp; refine hK _ _ ⟨?_, ?_⟩; (· (rw [listed_nil (by simp [go_sem])]; exact (termsZ A).idle _)); clear hK K; try walk_nrm)
  refine Goes.stillZ (termsZ A) rfl (fun _ => stepG_region_end) ?_
  refine Goes.stillZ (termsZ A) rfl (fun _ => stepG_seq) ?_
  (refine Goes.stillZ (termsZ A) rfl (fun _ => stepG_region) ?_; simp only [List.size_toArray, List.length_cons, List.length_nil, Nat.reduceAdd, Nat.zero_add, List.range, List.range.loop])
  (refine Goes.operZ rfl (by rfl) (by decide) ?_; intro wx hx K hK; replace hF := HZ.rely hF hx; clear hx; go_simp; refine hK _ _ ⟨?_, ?_⟩; (· (rw [listed_nil (by simp [go_sem])]; exact (termsZ A).idle _)); clear hK K; try walk_nrm)
  refine Go.Conc.Goes.mono (n := 180 + Ns + 3) ?_ (by omega)
  refine Goes.call (termsZ A) rfl (by rfl) (by decide) rfl (by simpa [go_sem] using hS _ hF) ?_
  rintro _ w1 ⟨rfl, hF⟩
  walk_nrm
  (refine Goes.operZ rfl (by rfl) (by decide) ?_; intro wx hx K hK; replace hF := HZ.rely hF hx; clear hx; go_simp; refine hK _ _ ⟨?_, ?_⟩; (· (rw [listed_nil (by simp [go_sem])]; exact (termsZ A).idle _)); clear hK K; try walk_nrm)
  (refine Goes.operZ rfl (by rfl) (by decide) ?_; intro wx hx K hK; replace hF := HZ.rely hF hx; clear hx; go_simp; refine hK _ _ ⟨?_, ?_⟩; (· (rw [listed_nil (by simp [go_sem])]; exact (termsZ A).idle _)); clear hK K; try walk_nrm)
  (refine Goes.operZ rfl (by rfl) (by decide) ?_; intro wx hx K hK; replace hF := HZ.rely hF hx; clear hx; go_simp; refine hK _ _ ⟨?_, ?_⟩; (· (rw [listed_nil (by simp [go_sem])]; exact (termsZ A).idle _)); clear hK K; try walk_nrm)
  (refine Goes.operZ rfl (by rfl) (by decide) ?_; intro wx hx K hK; replace hF := HZ.rely hF hx; clear hx; go_simp; refine hK _ _ ⟨?_, ?_⟩; (· (rw [listed_nil (by simp [go_sem])]; exact (termsZ A).idle _)); clear hK K; try walk_nrm)
  (refine Goes.operZ rfl (by rfl) (by decide) ?_; intro wx hx K hK; replace hF := HZ.rely hF hx; clear hx; go_simp; refine hK _ _ ⟨?_, ?_⟩; (· (rw [listed_nil (by simp [go_sem])]; exact (termsZ A).idle _)); clear hK K; try walk_nrm)
  refine Goes.stillZ (termsZ A) rfl (fun _ => stepG_region_end) ?_
  refine Goes.stillZ (termsZ A) rfl (fun _ => stepG_seq) ?_
  refine Goes.stillZ (termsZ A) rfl (fun _ => stepG_seq) ?_
  (refine Goes.stillZ (termsZ A) rfl (fun _ => stepG_region) ?_; simp only [List.size_toArray, List.length_cons, List.length_nil, Nat.reduceAdd, Nat.zero_add, List.range, List.range.loop])
  (refine Goes.operZ rfl (by rfl) (by decide) ?_; intro wx hx K hK; replace hF := HZ.rely hF hx; clear hx; go_simp; refine hK _ _ ⟨?_, ?_⟩; (· (rw [listed_nil (by simp [go_sem])]; exact (termsZ A).idle _)); clear hK K; try walk_nrm)
  (refine Goes.operZ rfl (by rfl) (by decide) ?_; intro wx hx K hK; replace hF := HZ.rely hF hx; clear hx; go_simp; refine hK _ _ ⟨?_, ?_⟩; (· (rw [listed_nil (by simp [go_sem])]; exact (termsZ A).idle _)); clear hK K; try walk_nrm)
  (refine Goes.operZ rfl (by rfl) (by decide) ?_; intro wx hx K hK; replace hF := HZ.rely hF hx; clear hx; go_simp; refine hK _ _ ⟨?_, ?_⟩; (· (rw [listed_nil (by simp [go_sem] <;> rfl)]; exact (termsZ A).idle _)); clear hK K; try walk_nrm)
  (refine Goes.operZ rfl (by rfl) (by decide) ?_; intro wx hx K hK; replace hF := HZ.rely hF hx; clear hx; go_simp; refine hK _ _ ⟨?_, ?_⟩; (· (rw [listed_nil (by simp [go_sem])]; exact (termsZ A).idle _)); clear hK K; try walk_nrm)
  (refine Goes.operZ rfl (by rfl) (by decide) ?_; intro wx hx K hK; replace hF := HZ.rely hF hx; clear hx; go_simp; refine hK _ _ ⟨?_, ?_⟩; (· (rw [listed_nil (by simp [go_sem])]; exact (termsZ A).idle _)); clear hK K; try walk_nrm)
  (refine Goes.operZ rfl (by rfl) (by decide) ?_; intro wx hx K hK; replace hF := HZ.rely hF hx; clear hx; go_simp; refine hK _ _ ⟨?_, ?_⟩; (· (rw [listed_nil (by simp [go_sem])]; exact (termsZ A).idle _)); clear hK K; try walk_nrm)
  (refine Goes.operZ rfl (by rfl) (by decide) ?_; intro wx hx K hK; replace hF := HZ.rely hF hx; clear hx; go_simp; refine hK _ _ ⟨?_, ?_⟩; (· (rw [listed_nil (by simp [go_sem] <;> rfl)]; exact (termsZ A).idle _)); clear hK K; try walk_nrm)
  (refine Goes.operZ rfl (by rfl) (by decide) ?_; intro wx hx K hK; replace hF := HZ.rely hF hx; clear hx; go_simp; refine hK _ _ ⟨?_, ?_⟩; (· (rw [listed_nil (by simp [go_sem])]; exact (termsZ A).idle _)); clear hK K; try walk_nrm)
  (refine Goes.operZ rfl (by rfl) (by decide) ?_; intro wx hx K hK; replace hF := HZ.rely hF hx; clear hx; go_simp; refine hK _ _ ⟨?_, ?_⟩; (· (rw [listed_nil (by simp [go_sem])]; exact (termsZ A).idle _)); clear hK K; try walk_nrm)
  (refine Goes.operZ rfl (by rfl) (by decide) ?_; intro wx hx K hK; replace hF := HZ.rely hF hx; clear hx; go_simp; refine hK _ _ ⟨?_, ?_⟩; (· (rw [listed_nil (by simp [go_sem])]; exact (termsZ A).idle _)); clear hK K; try walk_nrm)
  (refine Goes.operZ rfl (by rfl) (by decide) ?_; intro wx hx K hK; replace hF := HZ.rely hF hx; clear hx; go_simp; refine hK _ _ ⟨?_, ?_⟩; (· (rw [listed_nil (by simp [go_sem] <;> rfl)]; exact (termsZ A).idle _)); clear hK K; try walk_nrm)
  (refine Goes.operZ rfl (by rfl) (by decide) ?_; intro wx hx K hK; replace hF := HZ.rely hF hx; clear hx; go_simp; refine hK _ _ ⟨?_, ?_⟩; (· (rw [listed_nil (by simp [go_sem])]; exact (termsZ A).idle _)); clear hK K; try walk_nrm)
  refine Goes.stillZ (termsZ A) rfl (fun _ => stepG_region_end) ?_
  refine Goes.stillZ (termsZ A) rfl (fun _ => stepG_cond (t := true) (by simp [Act.eval])) ?_
  simp only [if_true]
  refine Goes.stillZ (termsZ A) rfl (fun _ => stepG_seq) ?_
  (refine Goes.stillZ (termsZ A) rfl (fun _ => stepG_region) ?_; simp only [List.size_toArray, List.length_cons, List.length_nil, Nat.reduceAdd, Nat.zero_add, List.range, List.range.loop])
  (refine Goes.operZ rfl (by rfl) (by decide) ?_; intro wx hx K hK; replace hF := HZ.rely hF hx; clear hx; go_simp; refine hK _ _ ⟨?_, ?_⟩; (· (rw [listed_nil (by simp [go_sem])]; exact (termsZ A).idle _)); clear hK K; try walk_nrm)
  (refine Goes.operZ rfl (by rfl) (by decide) ?_; intro wx hx K hK; replace hF := HZ.rely hF hx; clear hx; go_simp; refine hK _ _ ⟨?_, ?_⟩; (· (rw [listed_nil (by simp [go_sem])]; exact (termsZ A).idle _)); clear hK K; try walk_nrm)
  (refine Goes.operZ rfl (by rfl) (by decide) ?_; intro wx hx K hK; replace hF := HZ.rely hF hx; clear hx; go_simp; refine hK _ _ ⟨?_, ?_⟩; (· (rw [listed_nil (by simp [go_sem] <;> rfl)]; exact (termsZ A).idle _)); clear hK K; try walk_nrm)
  (refine Goes.operZ rfl (by rfl) (by decide) ?_; intro wx hx K hK; replace hF := HZ.rely hF hx; clear hx; go_simp; refine hK _ _ ⟨?_, ?_⟩; (· (rw [listed_nil (by simp [go_sem])]; exact (termsZ A).idle _)); clear hK K; try walk_nrm)
  (refine Goes.operZ rfl (by rfl) (by decide) ?_; intro wx hx K hK; replace hF := HZ.rely hF hx; clear hx; go_simp; refine hK _ _ ⟨?_, ?_⟩; (· (rw [listed_nil (by simp [go_sem])]; exact (termsZ A).idle _)); clear hK K; try walk_nrm)
  (refine Goes.operZ rfl (by rfl) (by decide) ?_; intro wx hx K hK; replace hF := HZ.rely hF hx; clear hx; go_simp; refine hK _ _ ⟨?_, ?_⟩; (· (rw [listed_nil (by simp [go_sem])]; exact (termsZ A).idle _)); clear hK K; try walk_nrm)
  (refine Goes.operZ rfl (by rfl) (by decide) ?_; intro wx hx K hK; replace hF := HZ.rely hF hx; clear hx; go_simp; refine hK _ _ ⟨?_, ?_⟩; (· (rw [listed_nil (by simp [go_sem] <;> rfl)]; exact (termsZ A).idle _)); clear hK K; try walk_nrm)
  (refine Goes.operZ rfl (by rfl) (by decide) ?_; intro wx hx K hK; replace hF := HZ.rely hF hx; clear hx; go_simp; refine hK _ _ ⟨?_, ?_⟩; (· (rw [listed_nil (by simp [go_sem])]; exact (termsZ A).idle _)); clear hK K; try walk_nrm)
  (refine Goes.operZ rfl (by rfl) (by decide) ?_; intro wx hx K hK; replace hF := HZ.rely hF hx; clear hx; go_simp; refine hK _ _ ⟨?_, ?_⟩; (· (rw [listed_nil (by simp [go_sem])]; exact (termsZ A).idle _)); clear hK K; try walk_nrm)
  refine Goes.stillZ (termsZ A) rfl (fun _ => stepG_region_end) ?_
  refine Go.Conc.Goes.stop fun w12 hx => ?_
  rw [← hK0]
  exact ⟨_, _, rfl, rfl, rfl⟩
set_option maxHeartbeats 16000000 in
theorem restYes {K : Nat} (hk : K ≤ 12) : ∃ n, ∀ w, HZ A w →
    Goes Tryd.prog true AtRel (DSz A) AtRet n (G ((base 3).at (mA a len cap (K : Int) (.tuple #[.int .i64 (mny K 10000 : Nat), .bool true])) (.inRegion (opsOf lm4) [2, 3, 4, 5, 6] :: [.code lmR])) []) w := by
  obtain ⟨Ns, hS⟩ := sStrokeManyC (main := true) (A := A) (K : Int)
  rw [show smR (K : Int) = .tuple #[.int .i64 (mny K 10000 : Nat), .bool true] by unfold smR; rw [if_pos (by omega)]; rfl] at hS
  rw [mny_wys] at hS ⊢
  obtain ⟨T, hT⟩ : ∃ T, T = wys 4 K := ⟨_, rfl⟩
  rw [← hT] at hS ⊢
  have HT := Lib.hid hT
  have HK := Lib.hid hk
  clear hT hk
  refine ⟨Ns + 70000, fun w hF => ?_⟩
  generalize hK0 : AtRet = K0
  simp only [mA, opsOf, lm4, lmR, bodyM, sL, sR, Tryd.f3, Option.getD_some]
  (refine Goes.operZ rfl (by rfl) (by decide) ?_; intro wx hx K hK; replace hF := HZ.rely hF hx; clear hx; go_simp; refine hK _ _ ⟨?_, ?_⟩; (· (rw [listed_nil (by simp [go_sem])]; exact (termsZ A).idle _)); clear hK K; try walk_nrm)
  (refine Goes.operZ rfl (by rfl) (by decide) ?_; intro wx hx K hK; replace hF := HZ.rely hF hx; clear hx; go_simp; refine hK _ _ ⟨?_, ?_⟩; (· (rw [listed_nil (by simp [go_sem])]; exact (termsZ A).idle _)); clear hK K; try walk_nrm)
  (refine Goes.operZ rfl (by rfl) (by decide) ?_; intro wx hx K hK; replace hF := HZ.rely hF hx; clear hx; go_simp; refine hK _ _ ⟨?_, ?_⟩; (· (rw [listed_nil (by simp [go_sem])]; exact (termsZ A).idle _)); clear hK K; try walk_nrm)
  (refine Goes.operZ rfl (by rfl) (by decide) ?_; intro wx hx K hK; replace hF := HZ.rely hF hx; clear hx; go_simp; refine hK _ _ ⟨?_, ?_⟩; (· (rw [listed_nil (by simp [go_sem])]; exact (termsZ A).idle _)); clear hK K; try walk_nrm)
  (refine Goes.operZ rfl (by rfl) (by decide) ?_; intro wx hx K hK; replace hF := HZ.rely hF hx; clear hx; go_simp; refine hK _ _ ⟨?_, ?_⟩; (· (rw [listed_nil (by simp [go_sem])]; exact (termsZ A).idle _)); clear hK K; try walk_nrm)
  refine Goes.stillZ (termsZ A) rfl (fun _ => stepG_region_end) ?_
  refine Goes.stillZ (termsZ A) rfl (fun _ => stepG_seq) ?_
  (refine Goes.stillZ (termsZ A) rfl (fun _ => stepG_region) ?_; simp only [List.size_toArray, List.length_cons, List.length_nil, Nat.reduceAdd, Nat.zero_add, List.range, List.range.loop])
  (refine Goes.operZ rfl (by rfl) (by decide) ?_; intro wx hx K hK; replace hF := HZ.rely hF hx; clear hx; go_simp; refine hK _ _ ⟨?_, ?_⟩; (· (rw [listed_nil (by simp [go_sem])]; exact (termsZ A).idle _)); clear hK K; try walk_nrm)
  refine Go.Conc.Goes.mono (n := 69900 + Ns + 3) ?_ (by omega)
  refine Goes.call (termsZ A) rfl (by rfl) (by decide) rfl (by simpa [go_sem] using hS _ hF) ?_
  rintro _ w1 ⟨rfl, hF⟩
  walk_nrm
  (refine Goes.operZ rfl (by rfl) (by decide) ?_; intro wx hx K hK; replace hF := HZ.rely hF hx; clear hx; go_simp; refine hK _ _ ⟨?_, ?_⟩; (· (rw [listed_nil (by simp [go_sem])]; exact (termsZ A).idle _)); clear hK K; try walk_nrm)
  (refine Goes.operZ rfl (by rfl) (by decide) ?_; intro wx hx K hK; replace hF := HZ.rely hF hx; clear hx; go_simp; refine hK _ _ ⟨?_, ?_⟩; (· (rw [listed_nil (by simp [go_sem])]; exact (termsZ A).idle _)); clear hK K; try walk_nrm)
  (refine Goes.operZ rfl (by rfl) (by decide) ?_; intro wx hx K hK; replace hF := HZ.rely hF hx; clear hx; go_simp; refine hK _ _ ⟨?_, ?_⟩; (· (rw [listed_nil (by simp [go_sem])]; exact (termsZ A).idle _)); clear hK K; try walk_nrm)
  (refine Goes.operZ rfl (by rfl) (by decide) ?_; intro wx hx K hK; replace hF := HZ.rely hF hx; clear hx; go_simp; refine hK _ _ ⟨?_, ?_⟩; (· (rw [listed_nil (by simp [go_sem])]; exact (termsZ A).idle _)); clear hK K; try walk_nrm)
  (refine Goes.operZ rfl (by rfl) (by decide) ?_; intro wx hx K hK; replace hF := HZ.rely hF hx; clear hx; go_simp; refine hK _ _ ⟨?_, ?_⟩; (· (rw [listed_nil (by simp [go_sem])]; exact (termsZ A).idle _)); clear hK K; try walk_nrm)
  refine Goes.stillZ (termsZ A) rfl (fun _ => stepG_region_end) ?_
  refine Goes.stillZ (termsZ A) rfl (fun _ => stepG_seq) ?_
  refine Goes.stillZ (termsZ A) rfl (fun _ => stepG_seq) ?_
  (refine Goes.stillZ (termsZ A) rfl (fun _ => stepG_region) ?_; simp only [List.size_toArray, List.length_cons, List.length_nil, Nat.reduceAdd, Nat.zero_add, List.range, List.range.loop])
  (refine Goes.operZ rfl (by rfl) (by decide) ?_; intro wx hx K hK; replace hF := HZ.rely hF hx; clear hx; go_simp; refine hK _ _ ⟨?_, ?_⟩; (· (rw [listed_nil (by simp [go_sem])]; exact (termsZ A).idle _)); clear hK K; try walk_nrm)
  (refine Goes.operZ rfl (by rfl) (by decide) ?_; intro wx hx K hK; replace hF := HZ.rely hF hx; clear hx; go_simp; refine hK _ _ ⟨?_, ?_⟩; (· (rw [listed_nil (by simp [go_sem])]; exact (termsZ A).idle _)); clear hK K; try walk_nrm)
  (refine Goes.operZ rfl (by rfl) (by decide) ?_; intro wx hx K hK; replace hF := HZ.rely hF hx; clear hx; go_simp; refine hK _ _ ⟨?_, ?_⟩; (· (rw [listed_nil (by simp [go_sem] <;> rfl)]; exact (termsZ A).idle _)); clear hK K; try walk_nrm)
  (refine Goes.operZ rfl (by rfl) (by decide) ?_; intro wx hx K hK; replace hF := HZ.rely hF hx; clear hx; go_simp; refine hK _ _ ⟨?_, ?_⟩; (· (rw [listed_nil (by simp [go_sem])]; exact (termsZ A).idle _)); clear hK K; try walk_nrm)
  (refine Goes.operZ rfl (by rfl) (by decide) ?_; intro wx hx K hK; replace hF := HZ.rely hF hx; clear hx; go_simp; refine hK _ _ ⟨?_, ?_⟩; (· (rw [listed_nil (by simp [go_sem])]; exact (termsZ A).idle _)); clear hK K; try walk_nrm)
  (refine Goes.operZ rfl (by rfl) (by decide) ?_; intro wx hx K hK; replace hF := HZ.rely hF hx; clear hx; go_simp; refine hK _ _ ⟨?_, ?_⟩; (· (rw [listed_nil (by simp [go_sem])]; exact (termsZ A).idle _)); clear hK K; try walk_nrm)
  (refine Goes.operZ rfl (by rfl) (by decide) ?_; intro wx hx K hK; replace hF := HZ.rely hF hx; clear hx; go_simp; refine hK _ _ ⟨?_, ?_⟩; (· (rw [listed_nil (by simp [go_sem] <;> rfl)]; exact (termsZ A).idle _)); clear hK K; try walk_nrm)
  (refine Goes.operZ rfl (by rfl) (by decide) ?_; intro wx hx K hK; replace hF := HZ.rely hF hx; clear hx; go_simp; refine hK _ _ ⟨?_, ?_⟩; (· (rw [listed_nil (by simp [go_sem])]; exact (termsZ A).idle _)); clear hK K; try walk_nrm)
  (refine Goes.operZ rfl (by rfl) (by decide) ?_; intro wx hx K hK; replace hF := HZ.rely hF hx; clear hx; go_simp; refine hK _ _ ⟨?_, ?_⟩; (· (rw [listed_nil (by simp [go_sem])]; exact (termsZ A).idle _)); clear hK K; try walk_nrm)
  (refine Goes.operZ rfl (by rfl) (by decide) ?_; intro wx hx K hK; replace hF := HZ.rely hF hx; clear hx; go_simp; refine hK _ _ ⟨?_, ?_⟩; (· (rw [listed_nil (by simp [go_sem])]; exact (termsZ A).idle _)); clear hK K; try walk_nrm)
  (refine Goes.operZ rfl (by rfl) (by decide) ?_; intro wx hx K hK; replace hF := HZ.rely hF hx; clear hx; go_simp; refine hK _ _ ⟨?_, ?_⟩; (· (rw [listed_nil (by simp [go_sem] <;> rfl)]; exact (termsZ A).idle _)); clear hK K; try walk_nrm)
  (refine Goes.operZ rfl (by rfl) (by decide) ?_; intro wx hx K hK; replace hF := HZ.rely hF hx; clear hx; go_simp; refine hK _ _ ⟨?_, ?_⟩; (· (rw [listed_nil (by simp [go_sem])]; exact (termsZ A).idle _)); clear hK K; try walk_nrm)
  refine Goes.stillZ (termsZ A) rfl (fun _ => stepG_region_end) ?_
  refine Goes.stillZ (termsZ A) rfl (fun _ => stepG_cond (t := false) (by simp [Act.eval])) ?_
  simp only [if_false, Bool.false_eq_true]
  refine Goes.stillZ (termsZ A) rfl (fun _ => stepG_skip) ?_
  refine Goes.stillZ (termsZ A) rfl (fun _ => stepG_seq) ?_
  (refine Goes.stillZ (termsZ A) rfl (fun _ => stepG_region) ?_; simp only [List.size_toArray, List.length_cons, List.length_nil, Nat.reduceAdd, Nat.zero_add, List.range, List.range.loop])
  refine Goes.operZ rfl (by rfl) (by decide) ?_
  intro w2 hx K' hK'
  replace hF := HZ.rely hF hx
  clear hx
  go_simp
  refine hK' _ _ ⟨?_, ?_⟩
  · rw [listed_nil (by simp [go_sem])]; exact dz_alloc hF _
  clear hK' K'
  try walk_nrm
  have hQ := (tail_new hF).alloc (.cells #[.int .i64 1, .int .i64 5, .int .i64 3, .int .i64 1] 3)
  generalize w2.heap.size = bd at *
  generalize w2.alloc (.cells #[.int .i64 1, .int .i64 5, .int .i64 3, .int .i64 1] 3) = w3 at *
  clear hF
  simp only [List.nil_append] at hQ
  (refine Goes.operZ rfl (by rfl) (by decide) ?_; intro wx hx K hK; replace hQ := Tail.rely hQ hx; clear hx; go_simp; refine hK _ _ ⟨?_, ?_⟩; (· (rw [listed_nil (by simp [go_sem])]; exact (termsZ A).idle _)); clear hK K; try walk_nrm)
  refine Goes.stillZ (termsZ A) rfl (fun _ => stepG_region_end) ?_
  refine Goes.stillZ (termsZ A) rfl (fun _ => stepG_seq) ?_
  (refine Goes.stillZ (termsZ A) rfl (fun _ => stepG_region) ?_; simp only [List.size_toArray, List.length_cons, List.length_nil, Nat.reduceAdd, Nat.zero_add, List.range, List.range.loop])
  refine Goes.operZ rfl (by rfl) (by decide) ?_
  intro w4 hx K' hK'
  replace hQ := hQ.rely hx
  clear hx
  have hz := hQ.2.1
  simp only [List.length_cons, List.length_nil, Nat.zero_add] at hz
  go_simp
  try simp only [hz]
  refine hK' _ _ ⟨?_, ?_⟩
  · rw [listed_nil (by simp [go_sem])]; exact dz_alloc hQ.ge _
  clear hK' K'
  try walk_nrm
  replace hQ := hQ.alloc (.cells #[.int .i64 1] 3)
  generalize w4.alloc (.cells #[.int .i64 1] 3) = w5 at *
  clear hz
  simp only [List.nil_append, List.cons_append] at hQ
  (refine Goes.operZ rfl (by rfl) (by decide) ?_; intro wx hx K hK; replace hQ := Tail.rely hQ hx; clear hx; go_simp; refine hK _ _ ⟨?_, ?_⟩; (· (rw [listed_nil (by simp [go_sem])]; exact (termsZ A).idle _)); clear hK K; try walk_nrm)
  refine Goes.stillZ (termsZ A) rfl (fun _ => stepG_region_end) ?_
  refine Goes.stillZ (termsZ A) rfl (fun _ => stepG_seq) ?_
  refine Goes.stillZ (termsZ A) rfl (fun _ => stepG_seq) ?_
  (refine Goes.stillZ (termsZ A) rfl (fun _ => stepG_region) ?_; simp only [List.size_toArray, List.length_cons, List.length_nil, Nat.reduceAdd, Nat.zero_add, List.range, List.range.loop])
  (refine Goes.operZ rfl (by rfl) (by decide) ?_; intro wx hx K hK; replace hQ := Tail.rely hQ hx; clear hx; go_simp; refine hK _ _ ⟨?_, ?_⟩; (· (rw [listed_nil (by simp [go_sem])]; exact (termsZ A).idle _)); clear hK K; try walk_nrm)
  refine Goes.stillZ (termsZ A) rfl (fun _ => stepG_region_end) ?_
  replace hQ := hQ
  have hW : ∀ w, Tail A bd [.cells #[.int .i64 1, .int .i64 5, .int .i64 3, .int .i64 1] 3, .cells #[.int .i64 1] 3] w → NW A bd (bd + 1) 0 w := fun w h => by
    have h1 : w.heap[bd]? = some (.cells #[.int .i64 1, .int .i64 5, .int .i64 3, .int .i64 1] 3) := h.2.2 0 _ rfl
    have h2 : w.heap[bd + 1]? = some (.cells #[.int .i64 1] 3) := h.2.2 1 _ rfl
    have hz : w.heap.size = bd + 2 := h.2.1
    refine ⟨⟨h.1, Nat.le_succ_of_le h.1⟩, by omega, by omega, fun x hx => ?_, fun x hx => ?_⟩
    · rcases (show x = 0 ∨ x = 1 ∨ x = 2 ∨ x = 3 by omega) with rfl | rfl | rfl | rfl <;> exact cell_at h1 rfl
    · obtain rfl : x = 0 := by omega
      exact cell_at h2 rfl
  replace hQ := hW _ hQ
  clear hW
  refine Go.Conc.Goes.mono (n := 4000 + 65008) ?_ (by omega)
  have hL := fun Q => @loop0 A bd (bd + 1) Q _ hQ
  simp only [x8M, x6M, lIn, bIn, sL, sR, bodyM, Tryd.f3, Option.getD_some] at hL
  refine hL (After Tryd.prog true AtRel (DSz A) K0 4000 (base 3) _ []) _ _ _ _ _ _ _ _ _ _ _ _ _ _ _ _ _ _ _ _ _ _ _ _ _ _ _ _ _ _ _ _ _ _ _ _ _ _ _ _ _ _ _ _ _ _ _ _ _ _ _ _ _ _ _ _ _ _ _ _ _ _ _ _ _ _ _ _ _ _ _ _ _ _ _ _ _ _ _ _ _ _ _ _ _ _ _ _ _ _ _ _ _ _ ?_ (base 3) _ [] K0 4000 rfl (by simp [base]) (fun e a w h => h)
  clear hL hQ
  intro bw  v11 v12 v13 v51 v52 v53 v54 v55 v56 v57 v58 v59 v60 v61 v62 v63 v64 v65 v66 v67 v68 v69 v70 v71 v72 v73 v74 v75 v76 v77 v78 v79 v80 v81 v82 v83 v84 v85 v86 v87 v88 v89 v90 w hF
  simp only [After]
  have k3 : (K : Int) < 13 := by have := HK.out; omega
  have k0 : (0 : Int) ≤ (K : Int) := by omega
  refine Goes.stillZ (termsZ A) rfl (fun _ => stepG_seq) ?_
  (refine Goes.stillZ (termsZ A) rfl (fun _ => stepG_region) ?_; simp only [List.size_toArray, List.length_cons, List.length_nil, Nat.reduceAdd, Nat.zero_add, List.range, List.range.loop])
  (refine Goes.operZ rfl (by rfl) (by decide) ?_; intro wx hx K hK; replace hF := NW.rely hF hx; clear hx; go_simp; refine hK _ _ ⟨?_, ?_⟩; (· (rw [listed_nil (by simp [go_sem])]; exact (termsZ A).idle _)); clear hK K; try walk_nrm)
  (refine Goes.operZ rfl (by rfl) (by decide) ?_; intro wx hx K hK; replace hF := NW.rely hF hx; clear hx; go_simp; refine hK _ _ ⟨?_, ?_⟩; (· (rw [listed_nil (by simp [go_sem])]; exact (termsZ A).idle _)); clear hK K; try walk_nrm)
  (refine Goes.operZ rfl (by rfl) (by decide) ?_; intro wx hx K hK; replace hF := NW.rely hF hx; clear hx; go_simp; refine hK _ _ ⟨?_, ?_⟩; (· (rw [listed_nil (by simp [go_sem])]; exact (termsZ A).idle _)); clear hK K; try walk_nrm)
  (refine Goes.operZ rfl (by rfl) (by decide) ?_; intro wx hx K hK; replace hF := NW.rely hF hx; clear hx; go_simp; refine hK _ _ ⟨?_, ?_⟩; (· (rw [listed_nil (by simp [go_sem, *])]; exact (termsZ A).idle _)); clear hK K; try walk_nrm)
  refine Goes.operZ rfl (by rfl) (by decide) ?_
  intro w6 hx K' hK'
  replace hF := NW.rely hF hx
  clear hx
  have hc : w6.cell? ⟨bw, K, none⟩ = some (.int .i64 (T : Nat)) := by rw [HT.out]; exact hF.ways K (by have := HK.out; omega)
  go_simp
  refine hK' _ _ ⟨?_, ?_⟩
  · refine ⟨Nat.le_refl _, rfl, rfl, rfl, fun _ _ => rfl, ?_⟩
    co_evs (exact ⟨_, rfl, hF.lo.2, hF.lt.2⟩)
  clear hK' K' hc
  try walk_nrm
  (refine Goes.operZ rfl (by rfl) (by decide) ?_; intro wx hx K hK; replace hF := NW.rely hF hx; clear hx; go_simp; refine hK _ _ ⟨?_, ?_⟩; (· (rw [listed_nil (by simp [go_sem] <;> rfl)]; exact (termsZ A).idle _)); clear hK K; try walk_nrm)
  (refine Goes.operZ rfl (by rfl) (by decide) ?_; intro wx hx K hK; replace hF := NW.rely hF hx; clear hx; go_simp; refine hK _ _ ⟨?_, ?_⟩; (· (rw [listed_nil (by simp [go_sem])]; exact (termsZ A).idle _)); clear hK K; try walk_nrm)
  refine Goes.stillZ (termsZ A) rfl (fun _ => stepG_region_end) ?_
  refine Go.Conc.Goes.stop fun w12 hx => ?_
  rw [← hK0]
  exact ⟨_, _, rfl, rfl, rfl⟩
end
end Go.Proofs.YtmphfdibijbjeaaDoor
