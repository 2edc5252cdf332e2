/- The model's l3Fewest. -/
import Derived.Test.YtdognkjpiineiaaDoorAD
import Derived.Test.YtdognkjpiineiaaDoorBK
import Derived.Deep.AppendLies
import Derived.Laws.OwnMore
namespace Go.Proofs.YtdognkjpiineiaaDoor
open Go.RowKit
set_option linter.unusedVariables false
set_option maxRecDepth 100000
/-- the letter's place at a place of all letters -/
def at27 (k : Nat) : Nat := L27.getD k 0
theorem at27_lt : ∀ k, k < 27 → at27 k < 27 := by decide
theorem all27_val : ∀ k, k < 27 → av ((all27.data.getD k 0).toNat : Int) = vn (at27 k) := by decide +kernel
theorem all27_at (k : Nat) (h : k < all27.size) : av ((all27[k]'h).toNat : Int) = (vn (at27 k) : Nat) := by
  have e : all27.data.getD k 0 = all27[k]'h := by
    show all27.data.getD k 0 = all27.data[k]
    exact dif_pos h
  rw [← e]
  exact all27_val k h
theorem take27 (k : Nat) (h : k < 27) : L27.take (k + 1) = L27.take k ++ [at27 k] := by
  have hl : k < L27.length := by rw [len27]; exact h
  rw [List.take_succ_eq_append_getElem hl]
  unfold at27
  rw [List.getD_eq_getElem?_getD, List.getElem?_eq_getElem hl]; rfl
theorem bestF_one (t : List Nat) (x i b : Nat) : bestF t x [i] b = if vn i ≤ x then min b (1 + t.getD (x - vn i) 0) else b := rfl
/-- the best of the first k letters -/
def bestK (m k : Nat) : Nat := bestF (fewT m) (m + 1) (L27.take k) (m + 1)
theorem bestK_zero (m : Nat) : bestK m 0 = m + 1 := rfl
theorem bestK_succ (m k : Nat) (h : k < 27) : bestK m (k + 1) = if vn (at27 k) ≤ m + 1 then min (bestK m k) (1 + few (m + 1 - vn (at27 k))) else bestK m k := by
  unfold bestK
  rw [take27 k h, bestF_append, bestF_one]
  split
  · have := (vn_bd (at27 k) (at27_lt k h)).1
    rw [fewT_at m _ (by omega)]
  · rfl
theorem bestK_end (m : Nat) : bestK m 27 = few (m + 1) := by
  unfold bestK
  rw [few_succ, List.take_of_length_le (by rw [len27]; exact Nat.le_refl _)]
theorem bestK_le (m k : Nat) : bestK m k ≤ m + 1 := (bestF_le _ _ _ _).1
theorem one_newsA {w : World} {b : Nat} {y : Int} (h : w.heap[b]? = some (.cells #[.int .i64 y] 3 (0, 0))) : ∀ j u, ([.int .i64 y] : List Value)[j]? = some u → w.cell? ((⟨b, 0, none⟩ : Addr).add j) = some u := by
  intro j u hu
  rcases j with _ | j
  · simp at hu
    subst hu
    exact cell_at h rfl
  · simp at hu
theorem one_cellA {y : Int} : ∀ u ∈ ([.int .i64 y] : List Value), u.oneCell' = true := by intro u hu; simp at hu; subst hu; rfl
/-- the cells of the table up to m -/
def fewC (m : Nat) : List Value := intCells (fun k => (few k : Nat)) (m + 1)
theorem fewC_succ (m : Nat) : fewC m ++ [.int .i64 (few (m + 1) : Nat)] = fewC (m + 1) := by
  unfold fewC intCells
  rw [List.range_succ (n := m + 1), List.map_append]
  rfl
theorem own_formA {w : World} {base g n cap : Nat} {xs : List Value} (h : w.ownsRow base 3 1 (.slice (some ⟨g, 0, none⟩) n cap) n xs) : base ≤ g ∧ n ≤ cap ∧ g < w.heap.size := by
  rcases h.2 with ⟨he, _⟩ | ⟨g', cap', cur, he, hb, hg, hc1, hc2, hc3, htk⟩
  · cases he
  · injection he with e1 e2 e3
    injection e1 with e4
    injection e4 with e5
    have := lt_of_block' hg
    exact ⟨by omega, by omega, by omega⟩
set_option maxHeartbeats 1000000 in
theorem l3Fewest_any (n : Nat) (w : World) (hn : n ≤ 2000) :
    Calls Tryd.prog 48 #[.int .i64 n] w fun e w' => ∃ g cap, e = .returned (.slice (some ⟨g, 0, none⟩) (n + 1) cap) ∧ w'.ownsRow w.heap.size 3 1 (.slice (some ⟨g, 0, none⟩) (n + 1) cap) (n + 1) (fewC n) ∧ Below w.heap.size w w' := by
  obtain ⟨i0, hi, hz0, hz1, hz2⟩ := info_parts info_int
  have Hall := Lib.hid l3All_any
  have hasz := all27_size
  have Hval := Lib.hid all27_at
  generalize all27 = A at *
  have Ho0 : Hid ((w.alloc (.cells #[.int .i64 0] 3)).ownsRow w.heap.size 3 1 (.slice (some ⟨w.heap.size, 0, none⟩) 1 1) 1 [.int .i64 0]) := World.ownsRow_lit w #[.int .i64 0] 1 (Nat.le_refl _) (by decide) rfl
  go_enter Tryd.func48, Tryd.ntmps48
  go_wp2_with fail
  refine (Hall.out _).mono ?_
  rintro e w1 ⟨rfl, rfl⟩
  go_wp2_with fail
  go_loopw [3, 5] (fun v x wr => ∃ (m g cap : Nat), x = .int .i64 ((m : Int) + 1) ∧ m ≤ n ∧ v = .slice (some ⟨g, 0, none⟩) (m + 1) cap ∧ wr.ownsRow w.heap.size 3 1 (.slice (some ⟨g, 0, none⟩) (m + 1) cap) (m + 1) (fewC m) ∧ Below w.heap.size w wr) (fun _ x _ => n + 1 - (intOf x).toNat)
  case atStart => exact ⟨0, w.heap.size, 1, rfl, by omega, rfl, Ho0.out, (Below.refl _ _).alloc (Nat.le_refl _) _⟩
  case round =>
    clear Ho0
    obtain ⟨m, g, cap, rfl, hm, rfl, hown, hbel⟩ := hrel
    obtain ⟨f1, f2, f3⟩ := own_formA hown
    have Hown := Lib.hid hown; have Hbel := Lib.hid hbel
    have hszr := hbel.size
    clear hown hbel
    by_cases hlt : m < n
    · obtain ⟨wo, rfl⟩ : ∃ wo : World, wo = wr := ⟨_, rfl⟩
      have hq0 : decide ((m : Int) + 1 ≤ (n : Int)) = true := decide_eq_true (by omega)
      go_wp2_with fail
      go_loop [6, 7] (fun b i => ∃ (k : Nat), k ≤ 27 ∧ i = .int .i64 k ∧ b = .int .i64 (bestK m k : Nat)) (fun _ i => 27 - (intOf i).toNat)
      case atStart => exact ⟨0, by omega, rfl, rfl⟩
      case round =>
        obtain ⟨k, hk, rfl, rfl⟩ := hrel
        have hbk := bestK_le m k
        by_cases hk2 : k < 27
        · have hvb := vn_bd (at27 k) (at27_lt k hk2)
          have hs := bestK_succ m k hk2
          have Hans : Hid (∀ hix, av ((A[k]'hix).toNat : Int) = (vn (at27 k) : Nat)) := fun hix => Hval.out k hix
          generalize vn (at27 k) = v at *
          generalize bestK m k = b at *
          have Hs := Lib.hid hs; clear hs
          by_cases hv : v ≤ m + 1
          · have hc : wo.cell? ⟨g, m + 1 - v, none⟩ = some (.int .i64 (few (m + 1 - v) : Nat)) := by
              rw [Hown.out.cellAt _ (by omega)]
              exact intCells_at _ _ _ (by omega)
            have hfb := few_le (m + 1 - v)
            have Hs2 : Hid (bestK m (k + 1) = min b (1 + few (m + 1 - v))) := by show _ = _; rw [Hs.out, if_pos hv]
            generalize few (m + 1 - v) = f at *
            have hq : decide ((v : Int) ≤ (m : Int) + 1) = true := decide_eq_true (by omega)
            go_wp2_with fail
            refine (l3Value_any _ _).mono ?_
            rw [Hans.out]
            rintro e w1 ⟨rfl, rfl⟩
            go_wp2_with fail
            all_goals
              go_round
              case rel => exact ⟨k + 1, by omega, by go_num, congrArg (Value.int .i64) (by rw [Hs2.out]; omega)⟩
              case measure => simp [intOf]; omega
          · have Hs2 : Hid (bestK m (k + 1) = b) := by show _ = _; rw [Hs.out, if_neg hv]
            have hq : decide ((v : Int) ≤ (m : Int) + 1) = false := decide_eq_false (by omega)
            go_wp2_with fail
            refine (l3Value_any _ _).mono ?_
            rw [Hans.out]
            rintro e w1 ⟨rfl, rfl⟩
            go_wp2_with fail
            go_round
            case rel => exact ⟨k + 1, by omega, by go_num, by rw [Hs2.out]⟩
            case measure => simp [intOf]; omega
        · obtain rfl : k = 27 := by omega
          rw [bestK_end] at hbk
          rw [bestK_end]
          generalize hf : few (m + 1) = f at *
          have Hf := Lib.hid hf; clear hf
          have HO3 : Hid ((wo.alloc (.cells #[.int .i64 (f : Nat)] 3)).ownsRow w.heap.size 3 1 (.slice (some ⟨g, 0, none⟩) (m + 1) cap) (m + 1) (fewC m)) := Hown.out.alloc _
          have Hb3 : Hid (w.heap.size ≤ (wo.alloc (.cells #[.int .i64 (f : Nat)] 3)).heap.size) := by show _ ≤ _; simp; omega
          have Hrow : Hid (∀ b, (Value.slice (some ⟨g, 0, none⟩) (m + 1) cap).ownBlock = some b → w.heap.size ≤ b) := fun b hb => by have : g = b := by simpa [Value.ownBlock] using hb
                                                                                                                                     omega
          go_wp2_with (at_builtin; refine wpList_append_own _ rfl _ _ 47 rfl w.heap.size 3 i0 (.int .i64 0) 1 8 Tryd.underlying47 hi hz0 hz1 hz2 rfl (by decide) _ (m + 1) _ rfl HO3.out ⟨wo.heap.size, 0, none⟩ 1 1 [.int .i64 (f : Nat)] rfl rfl (one_newsA (heap_alloc_new wo _)) one_cellA (by unfold maxLen; omega) (by omega) Hb3.out ?_
                       intro v' w4 hown4 hg4 _
                       obtain ⟨g', cap', rfl, hb', _⟩ := hown4.form (by omega)
                       have HO4 : Hid (w4.ownsRow w.heap.size 3 1 (.slice (some ⟨g', 0, none⟩) (m + 1 + 1) cap') (m + 1 + 1) (fewC (m + 1))) := by (rw [← fewC_succ, Hf.out]; exact hown4)
                       have HB4 : Hid (Below w.heap.size w w4) := (Hbel.out.alloc hszr _).grown hg4 Hb3.out Hrow.out
                       clear hown4 hg4 hb')
          exact ⟨⟨m + 1, g', cap', by go_num, by omega, rfl, HO4.out, HB4.out⟩, by simp [intOf]; omega⟩
    · obtain rfl : m = n := by omega
      go_wp2_with fail
      go_ret
      exact ⟨g, cap, rfl, Hown.out, Hbel.out⟩
end Go.Proofs.YtdognkjpiineiaaDoor
