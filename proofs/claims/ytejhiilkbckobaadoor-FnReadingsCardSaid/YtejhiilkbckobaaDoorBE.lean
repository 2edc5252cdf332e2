/- The draws of chapter 2 (package spec): l91Pile. -/
import Derived.Test.YtejhiilkbckobaaDoorBD
namespace Go.Proofs.YtejhiilkbckobaaDoor
open Go.RowKit
set_option linter.unusedVariables false
set_option maxRecDepth 100000
/-- what a draw of a pile leaves -/
def PilDrawn (w : World) (r : Nat) (ra : Option Addr) (len cap p : Nat) (e : Ending) (w' : World) : Prop :=
  ∃ (a : Option Addr) (n c : Nat) (f : Nat → Int) (p' : Nat), e = .returned (.slice a n c) ∧ Drn w' r a n f ∧ n ≤ 7 ∧ (∀ j, j < n → -1 ≤ f j ∧ f j ≤ 2000000) ∧ Rd w' r ra len cap p' ∧ p' ≤ p + 10 ∧ w.grownBy w' (some r)
theorem own_form {w : World} {base g n cap : Nat} {xs : List Value} (h : w.ownsRow base 3 1 (.slice (some ⟨g, 0, none⟩) n cap) n xs) : base ≤ g ∧ n ≤ cap ∧ g < w.heap.size := by
  rcases h.2 with ⟨he, _⟩ | ⟨g', cap', cur, he, hb, hg, hc1, hc2, hc3, htk⟩
  · cases he
  · injection he with e1 e2 e3
    injection e1 with e4
    injection e4 with e5
    have := lt_of_block' hg
    exact ⟨by omega, by omega, by omega⟩
theorem pil_own {w w1 : World} {r base : Nat} {ra : Option Addr} {len cap p p1 : Nat} {v : Value} (ys : List Int) (hl : ys.length ≤ 7) (hb : ∀ y ∈ ys, -1 ≤ y ∧ y ≤ 2000000) (hown : w1.ownsRow base 3 1 v ys.length (ys.map (Value.int .i64))) (hr : r < base)
    (h : Rd w1 r ra len cap p1) (hp : p1 ≤ p + 10) (g : w.grownBy w1 (some r)) : PilDrawn w r ra len cap p (.returned v) w1 := by
  obtain ⟨a, c, rfl, _, hd⟩ := Drn.of_own hown hr
  refine ⟨a, ys.length, c, _, p1, rfl, hd, hl, fun j hj => ?_, h, hp, g⟩
  have e : ys.getD j 0 = ys[j] := by rw [List.getD_eq_getElem?_getD, List.getElem?_eq_getElem hj]; rfl
  show -1 ≤ ys.getD j 0 ∧ ys.getD j 0 ≤ 2000000
  rw [e]
  exact hb _ (List.getElem_mem hj)
theorem own_news {w : World} {base g cap : Nat} {ys : List Int} (h : w.ownsRow base 3 1 (.slice (some ⟨g, 0, none⟩) ys.length cap) ys.length (ys.map (Value.int .i64))) : ∀ j u, (ys.map (Value.int .i64))[j]? = some u → w.cell? ((⟨g, 0, none⟩ : Addr).add j) = some u := by
  intro j u hu
  exact h.cells (g := g) rfl j u hu
theorem ints_cell (ys : List Int) : ∀ u ∈ ys.map (Value.int .i64), u.oneCell' = true := by intro u hu; obtain ⟨y, _, rfl⟩ := List.mem_map.1 hu; rfl
end Go.Proofs.YtejhiilkbckobaaDoor
