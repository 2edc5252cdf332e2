/- The program's chapter 4: readings, PlaceReadings. -/
import Derived.Test.YtejhiilkbckobaaDoorDF
import Derived.Sort.OwnSortedInts
import Derived.Laws.EntriesVeiled
namespace Go.Proofs.YtejhiilkbckobaaDoor
open Go.RowKit
set_option linter.unusedVariables false
set_option maxRecDepth 100000
def srt (zs : List Int) : List Int := zs.mergeSort fun x y => decide (x ≤ y)
theorem srt_len (zs : List Int) : (srt zs).length = zs.length := List.length_mergeSort _
theorem sortFound_any {w : World} {B pf : Nat} {zs : List Int} {v : Value} (hp : pf < B) (hh : w.heap[pf]? = some (.cells #[v] 31 (0, 0))) (ho : w.ownsRow B 3 1 v zs.length (zs.map (Value.int .i64))) (hl : zs.length ≤ 10000) :
    ∃ p c, v = .slice p zs.length c ∧ Calls Tryd.prog 47 #[.slice p zs.length c] w fun e w' => e = .returned (.tuple #[]) ∧ w'.heap[pf]? = some (.cells #[v] 31 (0, 0)) ∧ w'.ownsRow B 3 1 v zs.length ((srt zs).map (Value.int .i64)) ∧ Part B pf w w' := by
  rcases ho.2 with ⟨rfl, h0⟩ | ⟨g, cap, cur, rfl, hb, hg, h1, h2, h3, h4⟩
  · obtain rfl : zs = [] := List.length_eq_zero_iff.1 h0
    refine ⟨none, 0, rfl, (Tryd.slices_Sort_int_none none 0 w).mono ?_⟩
    rintro e w' ⟨rfl, rfl⟩
    exact ⟨rfl, hh, by rw [show srt [] = [] from List.length_eq_zero_iff.1 (srt_len [])]; exact ho, Part.refl _ _ _⟩
  · refine ⟨_, _, rfl, (Tryd.slices_Sort_int g 0 cap zs w (fun j hj => ?_) (lt_of_block' hg) (by omega)).mono ?_⟩
    · have hj' : j < zs.length := by simpa using hj
      rw [Nat.zero_add]
      refine ⟨?_, ho.frozenAt j⟩
      rw [ho.cellAt j (by omega)]
      simp [hj']
    · rintro e w' ⟨rfl, nn, os, rfl⟩
      have hgr := grownBy_sortedI (w := w) (g := g) (n := nn) (os := os) (srt zs).toArray
      refine ⟨rfl, (hgr.block pf (lt_of_block' hh) (by simp; omega)).trans hh, ownsRow_sortedI (srt_len zs) hb hg h1 h2 h3, ?_⟩
      exact ⟨rfl, rfl, rfl, hgr.size, fun k hk hne => by
        by_cases hkw : k < w.heap.size
        · exact hgr.block k hkw (by simp; omega)
        · exact absurd (lt_of_block' hg) (by omega)⟩
def ReadR (w : World) (l : List UInt8) (w' : World) (e : Ending) : Prop :=
  ∃ p c, e = .returned (.slice p (rds l).length c) ∧ Rsp w' w.heap.size w'.heap.size p (rds l).length (rdsF l) ∧ Below w.heap.size w w'
/-- the world in which the closure is called -/
def wRead (w : World) : World := (w.alloc (.cells #[.slice none 0 0] 31)).alloc (.cells #[.func (.func 45) #[] #[.pointer (some ⟨w.heap.size, 0, none⟩), .pointer (some ⟨w.heap.size + 1, 0, none⟩)]] 69)
theorem rsp_of {w : World} {B n c : Nat} {p : Option Addr} {ys : List Int} (h : w.ownsRow B 3 1 (.slice p n c) n (ys.map (Value.int .i64))) : Rsp w B w.heap.size p n (fun k => ys.getD k 0) := by
  obtain ⟨a, cap, e1, _, h3⟩ := Rsp.of_own h
  injection e1 with e3 _ _
  rw [e3]
  exact h3
theorem read_shut {w w2 w3 w4 : World} {l : List UInt8} {p : Option Addr} {c : Nat} (hb : Below w.heap.size w w2) (h3 : Part (w.heap.size + 2) w.heap.size w2 w3) (h4 : Part (w.heap.size + 2) w.heap.size w3 w4)
    (ho : w4.ownsRow (w.heap.size + 2) 3 1 (.slice p (ints (rgs 3 l 0)).length c) (ints (rgs 3 l 0)).length ((srt (ints (rgs 3 l 0))).map (Value.int .i64))) (he : ((rgs 3 l 0).map fun x : Nat => (x : Int)).mergeSort (fun x y => decide (x ≤ y)) = (rds l).map fun x : Nat => (x : Int)) :
    ReadR w l w4 (.returned (.slice p (ints (rgs 3 l 0)).length c)) := by
  have e1 : srt (ints (rgs 3 l 0)) = ints (rds l) := he
  have e2 : (ints (rgs 3 l 0)).length = (rds l).length := by rw [← srt_len, e1, ints_len]
  rw [e1, e2] at ho
  rw [e2]
  have h34 := h3.trans h4
  refine ⟨p, c, rfl, (rsp_of ho).mono (by omega) (Nat.le_refl _), hb.trans ⟨h34.os, h34.tape, h34.output, h34.size, fun k hk => h34.block k (by omega) (by omega)⟩⟩
set_option maxRecDepth 100000 in
set_option maxHeartbeats 1000000 in
theorem readings_any (l : List UInt8) (ad : Option Addr) (w : World) (hne : l ≠ []) (hp : Prs l) (hl : l.length ≤ 8) (ht : Txt w w.heap.size ad l) : Calls Tryd.prog 35 #[.slice ad l.length l.length] w fun e w' => ReadR w l w' e := by
  have hsz : (wRead w).heap.size = w.heap.size + 2 := by simp [wRead]
  have hbel : Below w.heap.size w (wRead w) := ((Below.refl _ _).alloc (Nat.le_refl _) _).alloc (by simp) _
  have R := Lib.hid (read_any w.heap.size (w.heap.size + 1) (w.heap.size + 2) (by omega) (by omega) (by omega) 3 (by omega) l 0 ad [] (wRead w) 3 rfl hp hl (by decide) (by decide) (by omega)
    (fun k hk => by
      obtain ⟨b, off, e, hb, hc⟩ := ht k hk
      exact ⟨b, off, e, hb, (hbel.cell (p := ⟨b, off + k, none⟩) hb).trans hc⟩)
    (by unfold Clo wRead; exact alloc_at _ _ _ (by simp))
    ⟨.slice none 0 0, (Below.heap_alloc _ _ _ (by simp)).trans (heap_alloc_new w _), World.ownsRow_nil _ _ _ _⟩)
  have HB := Lib.hid hbel; have HS := Lib.hid hsz
  have hrl := rgs_len 3 l 0 hl
  have HE := Lib.hid (rgs_sorted l hne hp)
  clear hsz hbel ht
  rw [List.nil_append] at R
  go_enter Tryd.func35, Tryd.ntmps35
  go_wp2_with fail
  refine R.out.mono ?_
  rintro e w3 ⟨rfl, hf, hpt⟩
  obtain ⟨v, hh, ho⟩ := hf
  obtain ⟨p, c, rfl, hcall⟩ := sortFound_any (by omega) hh ho (by rw [ints_len]; omega)
  have hc3 : w3.cell? ⟨w.heap.size, 0, none⟩ = some (.slice p (ints (rgs 3 l 0)).length c) := cell_at hh rfl
  have HC := Lib.hid hcall
  have HP3 := Lib.hid hpt
  clear hh ho hcall hpt R
  go_wp2_with fail
  refine HC.out.mono ?_
  rintro e w4 ⟨rfl, hh4, ho4, hp4⟩
  have hc4 : w4.cell? ⟨w.heap.size, 0, none⟩ = some (.slice p (ints (rgs 3 l 0)).length c) := cell_at hh4 rfl
  have HF : Hid (ReadR w l w4 (.returned (.slice p (ints (rgs 3 l 0)).length c))) := Lib.hid (read_shut HB.out HP3.out hp4 ho4 HE.out)
  clear hh4 ho4 hp4
  go_wp2_with fail
  go_ret
  exact HF.out
theorem txt_pressed {w : World} {b : Nat} {l : List UInt8} (h : w.heap[b]? = some (.cells (Lib.byteCells l).toArray 5 (0, 0))) : Txt w w.heap.size (some ⟨b, 0, none⟩) l := fun k hk => by
  refine ⟨b, 0, rfl, lt_of_block' h, ?_⟩
  rw [Nat.zero_add]
  refine cell_at h ?_
  rw [List.getElem?_toArray]
  unfold Lib.byteCells
  simp [List.getD_eq_getElem?_getD, hk]
set_option maxRecDepth 100000 in
theorem iPlaceReadings_any (l : List UInt8) (w : World) (hl : l.length ≤ 1048576) : Calls Tryd.prog 15 #[.string ⟨l.toArray⟩] w fun e w' => RowR w w' (rdsF l) (rds l).length (prsB l) e := by
  cases hb : prsB l with
  | false =>
    have C := Lib.hid (pressed_no l w hl hb)
    clear hb
    go_enter Tryd.func15, Tryd.ntmps15
    go_wp2_with fail
    refine C.out.mono ?_
    rintro e w1 ⟨rfl, g1⟩
    have G1 := Lib.hid g1; clear g1 C
    go_wp2_with fail
    go_ret2
    exact ⟨none, 0, 0, rfl, rfl, Rsp.none_ _ _ _ _ _, G1.out⟩
  | true =>
    obtain ⟨h1, h2, h3⟩ := (prsB_iff l).1 hb
    have C := Lib.hid (pressed_yes l w hb)
    have R := Lib.hid (fun (ad : Option Addr) (w : World) (ht : Txt w w.heap.size ad l) => readings_any l ad w (by intro e; subst e; simp at h1) h3 h2 ht)
    clear hb h1 h2 h3
    go_enter Tryd.func15, Tryd.ntmps15
    go_wp2_with fail
    refine C.out.mono ?_
    rintro e w1 ⟨b, rfl, hb, hg, g1⟩
    have HT := Lib.hid (txt_pressed hg)
    have G1 := Lib.hid g1; clear g1 hg C
    go_wp2_with fail
    refine (R.out _ _ HT.out).mono ?_
    rintro e w2 ⟨p, c, rfl, hr, g2⟩
    have HR : Hid (RowR w w2 (rdsF l) (rds l).length true (.returned (.tuple #[.slice p (rds l).length c, .bool true]))) := Lib.hid ⟨p, _, c, rfl, (if_pos rfl).symm, hr.mono G1.out.size (Nat.le_refl _), G1.out.trans (g2.mono G1.out.size)⟩
    clear hr g2 R
    go_wp2_with fail
    go_ret2
    exact HR.out
end Go.Proofs.YtejhiilkbckobaaDoor
