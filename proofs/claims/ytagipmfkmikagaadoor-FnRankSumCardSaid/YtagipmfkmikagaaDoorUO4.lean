/- The machine that reads ranked texts: its beginning, and one step. -/
import Derived.Test.YtagipmfkmikagaaDoorUO3
namespace Go.Proofs.YtagipmfkmikagaaDoor
open Go.RowKit
set_option linter.unusedVariables false
set_option maxRecDepth 100000
/-- the world behind a part's variable: where it lies -/
theorem part_kept {w1 w4 : World} {b : Nat} (hm : Mid b (b + 1) w1 w4) {w : World} (g : Below w.heap.size w w1) (hb : w.heap.size ≤ b) {c : Nat} {q : Q} (h : Rst w N0 c q) : Rst w4 N0 c q :=
  h.bel (hm.bel g hb)
set_option maxHeartbeats 2000000 in
theorem startOfRanks_any (w : World) : Calls Tryd.prog 37 #[] w fun e w' => ∃ b, e = .returned (.pointer (some ⟨b, 0, none⟩)) ∧ Rst w' N0 b (3, 0, 0, 0) ∧ Below w.heap.size w w' := by
  have C1 := Lib.hid (fun W => partBefore_any 0 0 W (by decide) (fun h => by cases h))
  rw [show lfp 0 0 = none from rfl] at C1
  go_enter Tryd.func37, Tryd.ntmps37
  go_wp2_with fail
  refine (C1.out w).mono ?_
  rintro e w1 ⟨bp, rfl, _, hs1, hb1⟩
  clear C1
  have HS1 := Lib.hid hs1; have HB1 := Lib.hid hb1; clear hs1 hb1
  have HV1 : Hid (VRow 54 (w1.alloc (.cells rzero6 54)) w1.heap.size 6 (fun _ => .pointer none)) := Lib.hid (VRow.new w1 _ 6 (fun _ => .pointer none))
  go_wp2_with (first
    | ((with_reducible refine here6 ⟨none, .store 54 (.tmp 1) (.tmp 4), _, _, _, _⟩ ?_)
       go_loud (refine wpList_store_vals rfl 54 (.tmp 1) (.tmp 4) rfl 54 w1.heap.size 6 0 6 _ _ rfl rfl HV1.out (by omega) szPart (prV_one 0 0 bp 5 6) ?_)
       intro w2 hv2 hm2
       have HB2 := Lib.hid (hm2.bel (below_alloc w1 _) (Nat.le_refl _))
       have HV2 : Hid (VRow 54 w2 w1.heap.size 6 (prV 0 0 bp 5)) := Lib.hid (hv2.congr fun j hj => ovr_all _ _ 6 j hj)
       have hc4 := HV2.out.cell 4 (by omega)
       rw [prV_ptr (by omega) (by omega) (by omega)] at hc4
       have HC4 := hc4
       clear hv2 hm2))
  refine (partBefore_any 1 (bp 4) w2 (by decide) (fun _ => (HS1.out 4 (by decide) (by decide)).bel HB2.out)).mono ?_
  rintro e w3 ⟨bq, rfl, hl3, hs3, hb3⟩
  have HB3 := Lib.hid (bel_chain (bel_chain HB1.out HB2.out) hb3)
  have HL3 := Lib.hid (hl3 rfl); have HS3 := Lib.hid hs3
  clear hl3 hs3 hb3 HS1 HV1 HB1 HB2 HV2 hc4 HC4
  have HV3 : Hid (VRow 54 (w3.alloc (.cells rzero6 54)) w3.heap.size 6 (fun _ => .pointer none)) := Lib.hid (VRow.new w3 _ 6 (fun _ => .pointer none))
  generalize bp 4 = pl at *
  go_wp2_with (first
    | ((with_reducible refine here6 ⟨none, .store 54 (.tmp 2) (.tmp 8), _, _, _, _⟩ ?_)
       go_loud (refine wpList_store_vals rfl 54 (.tmp 2) (.tmp 8) rfl 54 w3.heap.size 6 0 6 _ _ rfl rfl HV3.out (by omega) szPart (prV_one 1 pl bq 5 6) ?_)
       intro w4 hv4 hm4
       have HG4 := Lib.hid (hm4.bel (below_alloc w3 _) (Nat.le_refl _))
       have HV4 : Hid (VRow 54 w4 w3.heap.size 6 (prV 1 pl bq 5)) := Lib.hid (hv4.congr fun j hj => ovr_all _ _ 6 j hj)
       clear hv4 hm4))
  have HB4 := Lib.hid (bel_chain HB3.out HG4.out)
  have hp4 : Prt w4 N0 w3.heap.size 1 pl bq 5 := ⟨HV4.out, fun _ => HL3.out.bel HG4.out, fun j h1 h2 => (HS3.out j h1 h2).bel HG4.out⟩
  have HO5 : Hid (Opn w4.heap.size (newS w4 false) N0 w4.heap.size (.slice none 0 0) false []) := Lib.hid (Opn.new w4.heap.size w4 N0 false (Nat.le_refl _) (fun k h => h.elim))
  have HG5 := Lib.hid (newS_bel w4 false)
  refine (behindDigit_any w3.heap.size 1 pl 5 0 3 bq (Av w4.heap.size (.slice none 0 0) N0) (newS w4 false) (hp4.fresh HG5.out (Nat.le_refl _) (fun k h => nil_own k h)) (by decide) (by decide) (by decide) (HO5.out.bound (fun k h => h.elim)) _ _ rfl rfl).mono ?_
  rintro e w6 ⟨rfl, hr6, hb6⟩
  have HO6 := Lib.hid (HO5.out.below hb6); have HR6 := Lib.hid hr6
  have HG6 := Lib.hid (bel_chain HG5.out hb6)
  clear hr6 hb6 HO5 HG5 hp4
  go_wp2_with fail
  refine (link_any w4.heap.size w4.heap.size (newS w4 false).heap.size (.slice none 0 0) false [] N0 (rdgs, (2, 1, 0, 3)) w6 HO6.out HR6.out (by decide) HG6.out.size (fun k h => h.elim)).mono ?_
  rintro e w7 ⟨rfl, v1, ho7, hl7⟩
  have HG7 := Lib.hid (bel_lnk HG6.out HO6.out (Nat.le_refl _) hl7)
  have HO7 := Lib.hid ho7
  clear ho7 hl7 HO6 HG6
  go_wp2_with fail
  have hn : Rst (newS w7 true) (Av w4.heap.size v1 N0) w7.heap.size (4, 0, 0, 0) := (Opn.new w7.heap.size w7 (Av w4.heap.size v1 N0) true (Nat.le_refl _) (HO7.out.bound (fun k h => h.elim))).close (4, 0, 0, 0) rfl rfl
  refine (link_any w4.heap.size w4.heap.size w7.heap.size v1 false _ N0 ([111], (4, 0, 0, 0)) (newS w7 true) (HO7.out.below (newS_bel w7 true)) hn (by show 1 ≤ 8; decide) (bel_chain HG7.out (newS_bel w7 true)).size (fun k h => h.elim)).mono ?_
  rintro e w8 ⟨rfl, v2, ho8, hl8⟩
  have HR8 := Lib.hid (ho8.close (3, 0, 0, 0) rfl rfl)
  have HG8 := Lib.hid (bel_chain HB4.out (bel_lnk (bel_chain HG7.out (newS_bel w7 true)) (HO7.out.below (newS_bel w7 true)) (Nat.le_refl _) hl8))
  clear ho8 hl8 hn
  go_wp2_with fail
  go_ret
  exact ⟨_, rfl, HR8.out, HG8.out⟩
theorem indexByte_pos (l : List UInt8) (c : UInt8) : 0 ≤ Lib.indexByte l c ↔ l.contains c = true := by
  induction l with
  | nil => simp [Lib.indexByte]
  | cons b l ih =>
    have hg := Lib.indexByte_ge l c
    unfold Lib.indexByte
    by_cases h : b = c
    · subst h; simp
    · have h1 : (b == c) = false := by rw [beq_eq_false_iff_ne]; exact h
      have h2 : (c == b) = false := by rw [beq_eq_false_iff_ne]; exact fun e => h e.symm
      rw [List.contains_cons, h1, h2, Bool.false_or, ← ih]
      simp only [Bool.false_eq_true, if_false]
      split
      · rename_i e
        rw [beq_iff_eq] at e
        rw [e]
      · rename_i e
        rw [beq_iff_eq] at e
        omega
theorem indexByteL (l : List UInt8) (c : UInt8) (w : World) : Calls Tryd.prog 56 #[.string ⟨l.toArray⟩, .int .u8 (c.toNat : Int)] w fun e w' => e = .returned (.int .i64 (Lib.indexByte l c)) ∧ w = w' := by
  have := indexByteR ⟨l.toArray⟩ c w
  simpa using this
theorem addr_add (g k : Nat) : (⟨g, 0, none⟩ : Addr).add k = ⟨g, k, none⟩ := by unfold Addr.add; split <;> simp_all
theorem find_yes {α : Type} (p : α → Bool) (t : α) (l : List α) (h : p t = true) : (t :: l).find? p = some t := by rw [List.find?_cons, h]
theorem find_no {α : Type} (p : α → Bool) (t : α) (l : List α) (h : p t = false) : (t :: l).find? p = l.find? p := by rw [List.find?_cons, h]
/-- what next hands back -/
def NxR (w : World) (X : Nat → Prop) (v : Value) : Option Q → Prop
  | some q => ∃ b, v = .pointer (some ⟨b, 0, none⟩) ∧ Rst w X b q
  | none => v = .pointer none
theorem NxR.bel {w w' : World} {X : Nat → Prop} {v : Value} {o : Option Q} (h : NxR w X v o) (g : Below w.heap.size w w') : NxR w' X v o := by
  cases o with
  | none => exact h
  | some q =>
    obtain ⟨b, h1, h2⟩ := h
    exact ⟨b, h1, h2.bel g⟩
theorem nx_find (ts : List (Lk × Nat)) (q : Q) (h : ts.map Prod.fst = lk q) (c : UInt8) : nx q c = (ts.find? (fun t => t.1.1.contains c)).map (fun t => t.1.2) := by
  unfold nx
  rw [← h, List.find?_map, Option.map_map]
  rfl
set_option maxHeartbeats 1000000 in
theorem next_any (b : Nat) (q : Q) (X : Nat → Prop) (w : World) (h : Rst w X b q) (c : UInt8) :
    Calls Tryd.prog 54 #[.pointer (some ⟨b, 0, none⟩), .int .u8 (c.toNat : Int)] w fun e w' => (∃ v, e = .returned v ∧ NxR w' X v (nx q c)) ∧ Below w.heap.size w w' := by
  cases h with
  | mk _ _ v ts h0 h1 h2 h3 h4 h5 =>
    rw [nx_find ts q h0 c]
    have hc0 : w.cell? ⟨b, 0, none⟩ = some v := cell_at h1 rfl
    have H2 := Lib.hid h2; have H5 := Lib.hid h5
    have hform : ∃ ad cap, v = .slice ad ts.length cap ∧ (0 < ts.length → ∃ g, ad = some ⟨g, 0, none⟩) := by
      rcases h2.2 with ⟨rfl, h0⟩ | ⟨g, cap, cur, rfl, _⟩
      · exact ⟨none, 0, by rw [h0], fun h => by omega⟩
      · exact ⟨some ⟨g, 0, none⟩, cap, rfl, fun _ => ⟨g, rfl⟩⟩
    obtain ⟨ad, cap, rfl, had⟩ := hform
    have HN : Hid (ts.length ≤ 9223372036854775807) := Lib.hid (by
      rcases h2.2 with ⟨_, h0⟩ | ⟨_, cap, _, _, _, _, h1, h2, _⟩
      · omega
      · unfold maxLen at h2; omega)
    clear h0 h1 h2 h3 h4 h5
    go_enter Tryd.func54, Tryd.ntmps54
    go_wp2_with fail
    go_loopw [12] (fun i wr => ∃ j : Nat, j ≤ ts.length ∧ i = .int .i64 j ∧ Hid (ts.find? (fun t => t.1.1.contains c) = (ts.drop j).find? (fun t => t.1.1.contains c)) ∧ Hid (Below w.heap.size w wr)) (fun i _ => ts.length - (intOf i).toNat)
    case atStart => exact ⟨0, by omega, rfl, Lib.hid rfl, Lib.hid (Below.refl _ _)⟩
    case round =>
      obtain ⟨j, hj, rfl, HF, HB⟩ := hrel
      by_cases hlt : j < ts.length
      · obtain ⟨g, rfl⟩ := had (by omega)
        obtain ⟨a1, a2⟩ := tCells_at ts j hlt
        have c1 := H2.out.cells (g := g) rfl (j * 2) _ a1
        have c2 := H2.out.cells (g := g) rfl (j * 2 + 1) _ a2
        rw [addr_add] at c1 c2
        have hg : g < w.heap.size := (H2.out.lt g rfl).2
        have d1 : wr.cell? ⟨g, j * 2, none⟩ = some (.string ⟨ts[j].1.1.toArray⟩) := (HB.out.cell (p := ⟨g, j * 2, none⟩) hg).trans c1
        have d2 : wr.cell? ⟨g, j * 2 + 1, none⟩ = some (.pointer (some ⟨ts[j].2, 0, none⟩)) := (HB.out.cell (p := ⟨g, j * 2 + 1, none⟩) hg).trans c2
        have hn := HN.out
        have hi1 : (j : Int) < (ts.length : Int) := by omega
        have HI := Lib.hid (indexByte_pos ts[j].1.1 c)
        have HT := Lib.hid (H5.out ts[j] (List.getElem_mem hlt))
        have HD : Hid (ts.drop j = ts[j] :: ts.drop (j + 1)) := Lib.hid (List.drop_eq_getElem_cons hlt)
        have C := Lib.hid (fun W => indexByteL ts[j].1.1 c W)
        clear a1 a2 c1 c2 had
        generalize ts[j] = t at *
        generalize Lib.indexByte t.1.1 c = z at *
        by_cases hz : 0 ≤ z
        · have HQ : Hid (NxR w X (.pointer (some ⟨t.2, 0, none⟩)) ((ts.find? (fun t => t.1.1.contains c)).map (fun t => t.1.2))) := Lib.hid (by
            rw [HF.out, HD.out, find_yes (fun t : Lk × Nat => t.1.1.contains c) t _ (HI.out.1 hz)]
            exact ⟨t.2, rfl, HT.out⟩)
          go_wp2_with fail
          refine (C.out _).mono ?_
          rintro e w2 ⟨rfl, rfl⟩
          go_wp2_with fail
          go_ret
          exact ⟨⟨_, rfl, HQ.out.bel (HB.out.alloc (by have := HB.out.size; omega) _)⟩, HB.out.alloc HB.out.size _⟩
        · have HF2 : Hid (ts.find? (fun t => t.1.1.contains c) = (ts.drop (j + 1)).find? (fun t => t.1.1.contains c)) := Lib.hid (by
            rw [HF.out, HD.out, find_no (fun t : Lk × Nat => t.1.1.contains c) t _ (by rw [Bool.eq_false_iff]; exact fun h => hz (HI.out.2 h))])
          go_wp2_with fail
          refine (C.out _).mono ?_
          rintro e w2 ⟨rfl, rfl⟩
          go_wp2_with fail
          go_roundw
          case rel => exact ⟨j + 1, by omega, by go_num, HF2, Lib.hid (HB.out.alloc HB.out.size _)⟩
          case measure => simp [intOf]; omega
      · obtain rfl : j = ts.length := by omega
        have HQ : Hid (NxR wr X (.pointer none) ((ts.find? (fun t => t.1.1.contains c)).map (fun t => t.1.2))) := Lib.hid (by
          rw [HF.out, List.drop_length]
          rfl)
        go_wp2_with fail
        go_ret
        exact ⟨⟨_, rfl, HQ.out⟩, HB.out⟩
end Go.Proofs.YtagipmfkmikagaaDoor
