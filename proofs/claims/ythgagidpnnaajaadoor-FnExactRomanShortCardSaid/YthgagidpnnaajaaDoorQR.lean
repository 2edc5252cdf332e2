/- The program's RomanShort. -/
import Derived.Test.YthgagidpnnaajaaDoorQM
import Derived.Test.YthgagidpnnaajaaDoorQO
import Derived.Test.YthgagidpnnaajaaDoorRIj
namespace Go.Proofs.YthgagidpnnaajaaDoor
open Go.RowKit
set_option linter.unusedVariables false
set_option maxRecDepth 100000
/-- the function value at hand, and what it asks for -/
def Wanted (p n : Nat) (fv : Value) (W : Nat → Int) : Prop :=
  (fv = .func (.func 51) #[] #[.pointer (some ⟨p, 0, none⟩)] ∧ W = fun _ => (n : Int)) ∨
  ∃ (c : Nat) (v : Int), c < 7 ∧ -20000 ≤ v ∧ v ≤ 20000 ∧ fv = .func (.func 54) #[.agg #[.int .i64 c, .int .i64 v]] #[] ∧ W = fun g => wo c g v
theorem hit_ex (n L r : Nat) (W : Nat → Int) (hn : n ≤ 3999) (hno : ∀ j, 1 ≤ j → j < L → hasK n j = false) (h : Road n L r W) (hr : 1 ≤ r) (f : Nat) (hf : f < 7) : hitB (n + 667) (lvl (n + 667) L).1 W r f = ex r f (W f) := by
  rw [← road_found n L r W hno h hr f hf]
  have ht := (Lvl.any ((n : Int) + 666) (n + 667) (by omega) (by omega) L).tab f
  unfold hitB lookF
  by_cases h1 : 1 ≤ W f ∧ W f < ((n + 667 : Nat) : Int)
  · rw [if_pos h1, ht _ hf (by omega), Int.toNat_of_nonneg (by omega)]
    have h2 : W f ≤ (n : Int) + 666 := by omega
    simp [h1.1, h2]
  · rw [if_neg h1]
    rw [decide_eq_false (by omega), decide_eq_false (by omega)]
theorem firstOf_any (b n L r cap p : Nat) (fv : Value) (W : Nat → Int) (w : World) (hl : LV w) (hn : n ≤ 3999) (hL : L ≤ 15) (hno : ∀ j, 1 ≤ j → j < L → hasK n j = false) (hF : Found w b (n + 667) (lvl (n + 667) L).1) (hp : w.cell? ⟨p, 0, none⟩ = some (.int .i64 n))
    (hw : Wanted p n fv W) (h : Road n L r W) (hr : 1 ≤ r) :
    Calls Tryd.prog 52 #[.slice (some ⟨b, 0, none⟩) (n + 667) cap, .int .i64 r, fv] w fun e w' =>
      e = .returned (.agg #[.int .i64 (first7 (fun f => ex r f (W f)) : Nat), .int .i64 (W (first7 (fun f => ex r f (W f))))]) ∧ Below w.heap.size w w' := by
  have hr2 : r ≤ 15 := Nat.le_trans h.1 hL
  rw [← first7_congr _ _ (hit_ex n L r W hn hno h hr)]
  have hbd := (Lvl.any ((n : Int) + 666) (n + 667) (by omega) (by omega) L).bd
  rcases hw with ⟨rfl, rfl⟩ | ⟨c, v, hc, h1, h2, rfl, rfl⟩
  · exact firstOf_lit b (n + 667) cap r p _ _ w hF (by omega) (fun c v => Nat.le_trans (hbd c v) (by omega)) (by omega) (fun _ _ => by omega)
      (fun g _ w' hb => lit_any g p n w' ((hb.cell (World.block_lt_of_cell? w _ hp)).trans hp))
  · have hb := lv_bd c
    exact firstOf_wo b (n + 667) cap r c v _ _ w hF (by omega) (fun c v => Nat.le_trans (hbd c v) (by omega)) (by omega) (fun g _ => by unfold wo; split <;> omega)
      (fun g hg w' hb => without_any c g v w' (hl.step hb) hc hg (by omega) (by omega))
theorem sg_lb (l : Nat) (h : l < 7) : sg l = ((lb l).toNat : Int) := by
  rcases (show l = 0 ∨ l = 1 ∨ l = 2 ∨ l = 3 ∨ l = 4 ∨ l = 5 ∨ l = 6 by omega) with rfl | rfl | rfl | rfl | rfl | rfl | rfl <;> rfl
/-- what stands from round to round -/
structure Sh (w : World) (n L r : Nat) (fv tv : Value) (done : List UInt8) (W : Nat → Int) (wr : World) : Prop where
  rL : r ≤ L
  own : wr.ownsRow w.heap.size 5 1 tv done.length (Lib.strCells ⟨done.toArray⟩)
  len : done.length + r = L
  road : Road n L r W
  txt : shortT n = done ++ (txt r W).map lb
  ex : ∃ f, f < 7 ∧ Go.Proofs.YthgagidpnnaajaaDoor.ex r f (W f) = true
  bd : ∀ g, g < 7 → -(4000 + 1000 * ((L : Int) - r)) ≤ W g ∧ W g ≤ 4000 + 1000 * ((L : Int) - r)
  wanted : Wanted w.heap.size n fv W
  below : Below w.heap.size w wr
  num : wr.heap[w.heap.size]? = some (.cells #[.int .i64 n] 3 (0, 0))
  found : Found wr (w.heap.size + 1) (n + 667) (lvl (n + 667) L).1
theorem Sh.step {w : World} {n L r : Nat} {fv tv tv' : Value} {done : List UInt8} {W : Nat → Int} {wr w3 w6 : World} (h : Sh w n L (r + 1) fv tv done W wr) (hL : L ≤ 15) (g3 : Below wr.heap.size wr w3)
    (f : Nat) (hf : f = first7 (fun f => Go.Proofs.YthgagidpnnaajaaDoor.ex (r + 1) f (W f))) (ho : w6.ownsRow w.heap.size 5 1 tv' (done.length + 1) (Lib.strCells ⟨done.toArray⟩ ++ [.int .u8 (sg f)])) (g6 : w3.grownBy w6 tv.ownBlock) :
    Sh w n L r (.func (.func 54) #[.agg #[.int .i64 f, .int .i64 (W f)]] #[]) tv' (done ++ [lb f]) (fun g => wo f g (W f)) w6 := by
  have h7 : f < 7 := by rw [hf]; exact first7_lt _
  have hx := first7_of (fun f => Go.Proofs.YthgagidpnnaajaaDoor.ex (r + 1) f (W f)) h.ex
  rw [← hf] at hx
  have hrL := h.rL
  have hb := h.bd f h7
  have hlb := lv_bd f
  have own3 : w3.ownsRow w.heap.size 5 1 tv done.length (Lib.strCells ⟨done.toArray⟩) := h.own.kept (row := none) ⟨g3.os, g3.tape, g3.output, g3.size, fun k hk _ => g3.block k hk⟩ (by cases hv : tv.ownBlock <;> simp)
  refine ⟨by omega, ?_, by have := h.len; simp; omega, road_step n L r W f h7 h.road, ?_, road_next r W f hx.1, fun g hg => ?_, .inr ⟨f, W f, h7, by omega, by omega, rfl, rfl⟩, ?_, ?_, ?_⟩
  · rw [strCells_append, List.length_append]
    have e : Lib.strCells ⟨[lb f].toArray⟩ = [.int .u8 (sg f)] := by rw [sg_lb f h7]; rfl
    rw [e]; exact ho
  · rw [h.txt, hf]
    show _ = _
    rw [List.append_assoc]
    congr 1
  · unfold wo
    push_cast
    split <;> omega
  · exact (h.below.trans (g3.mono h.below.size)).grown g6 (Nat.le_trans h.below.size g3.size) (fun k e => (own3.lt k e).1)
  · exact grown_block g6 own3 ((g3.block _ (lt_of_block' h.num)).trans h.num) (by decide)
  · exact grown_block g6 own3 ((g3.block _ (lt_of_block' h.found)).trans h.found) (by decide)
end Go.Proofs.YthgagidpnnaajaaDoor
