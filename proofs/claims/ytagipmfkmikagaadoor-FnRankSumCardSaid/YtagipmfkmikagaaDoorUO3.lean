/- The machine that reads ranked texts, as it lies in the program's memory: partBefore. -/
import Derived.Test.YtagipmfkmikagaaDoorUO2
namespace Go.Proofs.YtagipmfkmikagaaDoor
open Go.RowKit
set_option linter.unusedVariables false
set_option maxRecDepth 100000
theorem szPart : (Tryd.prog.info? 54).map (·.size) = some 6 := by kernel_rfl
def N0 : Nat → Prop := fun _ => False
def TwoX (b : Nat) : Nat → Prop := fun k => k = b ∨ k = b + 1
theorem Opn.bound {B : Nat} {w : World} {X : Nat → Prop} {b : Nat} {v : Value} {e : Bool} {ts : List (Lk × Nat)} (h : Opn B w X b v e ts) (hX : ∀ k, X k → k < w.heap.size) : ∀ k, Av b v X k → k < w.heap.size := fun k hk =>
  hk.elim (fun e => e ▸ lt_of_block' h.blk) (fun h' => h'.elim (fun h' => (h.row.lt k h').2) (hX k))
theorem nil_own {P : Prop} (k : Nat) (h : (Value.slice none 0 0).ownBlock = some k) : P := by simp [Value.ownBlock] at h
/-- one round's store -/
theorem Prt.put {w : World} {pb u pl r c : Nat} {X : Nat → Prop} {bp : Nat → Nat} (h : Prt w X pb u pl bp r) (hx : X pb) (hc : Rst w X c (0, u, r, 0)) (hr : r ≤ 4) (hr1 : 1 ≤ r) : Prt (w.setCell ⟨pb, r, none⟩ (ptr c)) X pb u pl (fun j => if j = r then c else bp j) (r + 1) := by
  have k : ∀ {c' q}, Rst w X c' q → Rst (w.setCell ⟨pb, r, none⟩ (ptr c)) X c' q := fun h => h.keep (fun k _ hk => Below.heap_setCell _ _ _ _ (fun e => hk (by rw [show k = pb from e]; exact hx))) (fun _ _ h => h)
  refine ⟨(h.row.set_ r (ptr c)).congr fun j hj => ?_, fun hu => k (h.left hu), fun j h1 h2 => ?_⟩
  · unfold prV
    by_cases e : j = r
    · subst e
      rw [if_pos rfl, if_neg (by omega), if_pos ⟨hr1, by omega⟩]
      show _ = ptr (if j = j then c else bp j)
      rw [if_pos rfl]
    · rw [if_neg e]
      by_cases e5 : j = 5
      · rw [if_pos e5, if_pos e5]
      · rw [if_neg e5, if_neg e5]
        by_cases g : 1 ≤ j ∧ j < r
        · rw [if_pos g, if_pos ⟨g.1, by omega⟩]
          show _ = ptr (if j = r then c else bp j)
          rw [if_neg e]
        · rw [if_neg g, if_neg (by omega)]
  · by_cases e : j = r
    · subst e
      rw [if_pos rfl]
      exact k hc
    · rw [if_neg e]
      exact k (h.st j h1 (by omega))
theorem prV_one (u pl : Nat) (bp : Nat → Nat) (r n : Nat) : OneV (prV u pl bp r) n := fun j _ => by
  unfold prV
  split
  · split <;> rfl
  · split <;> rfl
/-- the pointer to what is left -/
def lfp (u pl : Nat) : Option Addr := if u = 1 then some ⟨pl, 0, none⟩ else none
theorem rst_two {w w' : World} {c : Nat} {q : Q} (h : Rst w N0 c q) (g : Below w.heap.size w w') : Rst w' (TwoX w.heap.size) c q :=
  h.keep (fun k hk _ => g.block k hk) (fun k hk hx => hx.elim (fun e => by omega) (fun e => by omega))
abbrev rzero6 : Array Value := #[.pointer none, .pointer none, .pointer none, .pointer none, .pointer none, .pointer none]
/-- both blocks of a part -/
def twoW (w : World) (po : Option Addr) : World := (w.alloc (.cells rzero6 54)).alloc (.cells #[.pointer none, .pointer none, .pointer none, .pointer none, .pointer none, .pointer po] 54)
theorem twoW_at (w : World) (po : Option Addr) : VRow 54 (twoW w po) w.heap.size 6 (fun _ => .pointer none) ∧ VRow 54 (twoW w po) (w.heap.size + 1) 6 (fun j => if j = 5 then .pointer po else .pointer none) ∧ Below w.heap.size w (twoW w po) ∧ w.heap.size + 2 ≤ (twoW w po).heap.size := by
  have h1 : VRow 54 (w.alloc (.cells rzero6 54)) w.heap.size 6 (fun _ => .pointer none) := VRow.new w _ 6 (fun _ => .pointer none)
  have h2 : VRow 54 (twoW w po) (w.alloc (.cells rzero6 54)).heap.size 6 (fun j => if j = 5 then .pointer po else .pointer none) := VRow.new (w.alloc (.cells rzero6 54)) _ 6 (fun j => if j = 5 then .pointer po else .pointer none)
  rw [World.size_alloc] at h2
  exact ⟨h1.alloc _, h2, ((Below.refl _ _).alloc (Nat.le_refl _) _).alloc (by simp) _, by simp [twoW]⟩
/-- a new state, before anything was written in it -/
def newS (w : World) (e : Bool) : World := w.alloc (.cells #[.slice none 0 0, .bool e] 58)
theorem newS_bel (w : World) (e : Bool) : Below w.heap.size w (newS w e) := below_alloc w _
theorem newS_size (w : World) (e : Bool) : (newS w e).heap.size = w.heap.size + 1 := World.size_alloc w _
theorem digs_def : rdgs = [49, 50, 51, 52, 53, 54, 55, 56, 57] := rfl
/-- the round, in words of the memory: the state with its links, by the calls that it makes -/
theorem bel_lnk {a w w' : World} {b : Nat} {v v' : Value} {B : Nat} {X : Nat → Prop} {e : Bool} {ts : List (Lk × Nat)} (g : Below a.heap.size a w) (o : Opn B w X b v e ts) (hB : a.heap.size ≤ B) (l : Lnk b v v' w w') : Below a.heap.size a w' :=
  l.bel g (Nat.le_trans hB o.bB) (fun k h => Nat.le_trans hB (o.row.lt k h).1) g.size
theorem round_end {w wr w8 : World} {u pl r : Nat} {bp : Nat → Nat} {c : Nat} (hP : Prt wr (TwoX w.heap.size) (w.heap.size + 1) u pl bp r) (hV : VRow 54 wr w.heap.size 6 (fun _ => .pointer none)) (hB : Below w.heap.size w wr) (hS : w.heap.size + 2 ≤ wr.heap.size)
    (h8 : Below wr.heap.size wr w8) (hc : Rst w8 (TwoX w.heap.size) c (0, u, r, 0)) (hr1 : 1 ≤ r) (hr : r < 5) :
    w8.cell? ⟨w.heap.size + 1, r, none⟩ = some (.pointer none) ∧ w8.frozen? ⟨w.heap.size + 1, r, none⟩ = false ∧ (Prt (w8.setCell ⟨w.heap.size + 1, r, none⟩ (.pointer (some ⟨c, 0, none⟩))) (TwoX w.heap.size) (w.heap.size + 1) u pl (fun j => if j = r then c else bp j) (r + 1) ∧
      VRow 54 (w8.setCell ⟨w.heap.size + 1, r, none⟩ (.pointer (some ⟨c, 0, none⟩))) w.heap.size 6 (fun _ => .pointer none) ∧ Below w.heap.size w (w8.setCell ⟨w.heap.size + 1, r, none⟩ (.pointer (some ⟨c, 0, none⟩))) ∧ w.heap.size + 2 ≤ (w8.setCell ⟨w.heap.size + 1, r, none⟩ (.pointer (some ⟨c, 0, none⟩))).heap.size) := by
  have hP8 := hP.bel h8
  have hs := h8.size
  refine ⟨?_, hP8.row.frozen r, hP8.put (.inr rfl) hc (by omega) hr1, ?_, (hB.trans (h8.mono (by omega))).setCell (by show w.heap.size ≤ w.heap.size + 1; omega) _, by simp [World.setCell]; omega⟩
  · rw [hP8.row.cell r (by omega)]
    unfold prV
    rw [if_neg (by omega), if_neg (by omega)]
  · exact (hV.below h8).keep (Below.heap_setCell _ _ _ _ (by show w.heap.size ≠ w.heap.size + 1; omega))
theorem links_B (u pl r d n : Nat) (hr : ¬ 1 < r) : (wlT u pl ++ [((rdgs, (2, u, r - 1, r - 1)), d)]).map Prod.fst = lk (0, u, r, 0) := by
  rw [List.map_append, wlT_fst]
  show _ = wl u ++ ([(rdgs, (2, u, r - 1, r - 1))] ++ if 1 < r then [([111], (1, u, r, 0))] else [])
  rw [if_neg hr]
  rfl
theorem links_B2 (u pl r d n : Nat) (hr : 1 < r) : (wlT u pl ++ [((rdgs, (2, u, r - 1, r - 1)), d)] ++ [(([111], (1, u, r, 0)), n)]).map Prod.fst = lk (0, u, r, 0) := by
  rw [List.map_append, List.map_append, wlT_fst]
  show _ = wl u ++ ([(rdgs, (2, u, r - 1, r - 1))] ++ if 1 < r then [([111], (1, u, r, 0))] else [])
  rw [if_pos hr]
  simp
theorem wlT_len (u pl : Nat) : (wlT u pl).length ≤ 1 := by unfold wlT; split <;> simp
set_option maxHeartbeats 4000000 in
theorem partBefore_any (u pl : Nat) (w : World) (hu : u < 2) (hl : u = 1 → Rst w N0 pl (0, 0, 4, 0)) :
    Calls Tryd.prog 51 #[.pointer (lfp u pl)] w fun e w' => ∃ bp, e = .returned (.agg (vals (prV u pl bp 5) 6).toArray) ∧ (u = 1 → Rst w' N0 pl (0, 0, 4, 0)) ∧ (∀ j, 1 ≤ j → j < 5 → Rst w' N0 (bp j) (0, u, j, 0)) ∧ Below w.heap.size w w' := by
  have hpv : ∀ j, prV u pl (fun _ => 0) 1 j = if j = 5 then .pointer (lfp u pl) else .pointer none := fun j => by
    unfold prV lfp ptr
    by_cases e : j = 5
    · rw [if_pos e, if_pos e]; split <;> rfl
    · rw [if_neg e, if_neg e, if_neg (by omega)]
  obtain ⟨z1, z2, z3, z4⟩ := twoW_at w (lfp u pl)
  have hp0 : Prt (twoW w (lfp u pl)) (TwoX w.heap.size) (w.heap.size + 1) u pl (fun _ => 0) 1 := ⟨z2.congr fun j _ => (hpv j).symm, fun h => rst_two (hl h) z3, fun j h1 h2 => by omega⟩
  have HP0 := Lib.hid hp0; have HZ1 := Lib.hid z1; have HZ3 := Lib.hid z3; have HZ4 := Lib.hid z4
  clear z1 z2 z3 z4 hl hp0 hpv
  generalize lfp u pl = po at *
  go_enter Tryd.func51, Tryd.ntmps51
  go_wp2_with fail
  go_loopw [4] (fun i wr => ∃ (r : Nat) (bp : Nat → Nat), 1 ≤ r ∧ r ≤ 5 ∧ i = .int .i64 r ∧ Hid (Prt wr (TwoX w.heap.size) (w.heap.size + 1) u pl bp r) ∧ Hid (VRow 54 wr w.heap.size 6 (fun _ => .pointer none)) ∧ Hid (Below w.heap.size w wr) ∧ Hid (w.heap.size + 2 ≤ wr.heap.size)) (fun i _ => 5 - (intOf i).toNat)
  case atStart => exact ⟨1, _, by omega, by omega, rfl, HP0, HZ1, HZ3, HZ4⟩
  case round =>
    obtain ⟨r, bp, hr1, hr5, rfl, HP, HV, HB, HS⟩ := hrel
    by_cases hlt : r < 5
    · have hXw : ∀ k, TwoX w.heap.size k → k < wr.heap.size := fun k hk => by have := HS.out; exact hk.elim (fun e => by omega) (fun e => by omega)
      have HX := Lib.hid hXw
      have hi1 : (r : Int) < 5 := by omega
      have ho0 := Opn.new wr.heap.size wr (TwoX w.heap.size) false (Nat.le_refl _) hXw
      have hb1 := newS_bel wr false
      have HO0 : Hid (Opn wr.heap.size (newS wr false) (TwoX w.heap.size) wr.heap.size (.slice none 0 0) false []) := Lib.hid ho0
      have HB1 := Lib.hid hb1
      have HX1 : Hid (∀ k, TwoX w.heap.size k → k < (newS wr false).heap.size) := Lib.hid fun k hk => Nat.lt_of_lt_of_le (hXw k hk) hb1.size
      clear hXw ho0 hb1
      go_wp2_with fail
      refine (letEnd_any wr.heap.size wr.heap.size (w.heap.size + 1) u pl r bp _ _ [] (TwoX w.heap.size) (newS wr false) HO0.out (HP.out.fresh HB1.out (Nat.le_refl _) (fun k h => nil_own k h)) (by decide) HB1.out.size HX1.out).mono ?_
      rintro e w2 ⟨rfl, v1, ho1, hl1⟩
      have HB2 := Lib.hid (bel_lnk HB1.out HO0.out (Nat.le_refl _) hl1)
      have HO1 := Lib.hid ho1; clear ho1 hl1 HO0 HB1 HX1
      rw [List.nil_append] at HO1
      go_wp2_with fail
      have HX2 : Hid (∀ k, TwoX w.heap.size k → k < w2.heap.size) := Lib.hid fun k hk => Nat.lt_of_lt_of_le (HX.out k hk) HB2.out.size
      have hw1 : IntKind.i64.wrap ((r : Int) - 1) = (r : Int) - 1 := IntWalk.i64_in _ (by omega)
      refine (behindDigit_any (w.heap.size + 1) u pl r (r - 1) (r - 1) bp (Av wr.heap.size v1 (TwoX w.heap.size)) w2 (HP.out.fresh HB2.out (Nat.le_refl _) (fun k h => (HO1.out.row.lt k h).1)) (Nat.le_refl _) (by omega) (by omega) (HO1.out.bound HX2.out) _ _ (by omega) (by omega)).mono ?_
      rintro e w3 ⟨rfl, hr3, hb3⟩
      have HR3 := Lib.hid hr3
      have HO2 := Lib.hid (HO1.out.below hb3)
      have HB3 := Lib.hid (bel_chain HB2.out hb3)
      have HX3 : Hid (∀ k, TwoX w.heap.size k → k < w3.heap.size) := Lib.hid fun k hk => Nat.lt_of_lt_of_le (HX2.out k hk) hb3.size
      clear hr3 hb3 HO1 HB2 HX2
      go_wp2_with fail
      have hwl := wlT_len u pl
      refine (link_any wr.heap.size wr.heap.size w2.heap.size v1 true (wlT u pl) (TwoX w.heap.size) (rdgs, (2, u, r - 1, r - 1)) w3 HO2.out HR3.out (by omega) HB3.out.size HX3.out).mono ?_
      rintro e w4 ⟨rfl, v2, ho3, hl3⟩
      have HB4 := Lib.hid (bel_lnk HB3.out HO2.out (Nat.le_refl _) hl3)
      have HX4 : Hid (∀ k, TwoX w.heap.size k → k < w4.heap.size) := Lib.hid fun k hk => Nat.lt_of_lt_of_le (HX3.out k hk) hl3.size
      have HO3 := Lib.hid ho3
      clear ho3 hl3 HO2 HB3 HX3 HR3
      by_cases hr : 1 < r
      · have hr' : (1 : Int) < (r : Int) := by omega
        have hw2 : IntKind.i64.wrap ((r : Int) - 2) = (r : Int) - 2 := IntWalk.i64_in _ (by omega)
        have ho4 := Opn.new w4.heap.size w4 (Av wr.heap.size v2 (TwoX w.heap.size)) false (Nat.le_refl _) (HO3.out.bound HX4.out)
        have HO4 : Hid (Opn w4.heap.size (newS w4 false) (Av wr.heap.size v2 (TwoX w.heap.size)) w4.heap.size (.slice none 0 0) false []) := Lib.hid ho4
        have HB5 := Lib.hid (newS_bel w4 false)
        have HX5 : Hid (∀ k, Av wr.heap.size v2 (TwoX w.heap.size) k → k < (newS w4 false).heap.size) := Lib.hid fun k hk => Nat.lt_of_lt_of_le (HO3.out.bound HX4.out k hk) HB5.out.size
        clear ho4
        go_wp2_with fail
        refine (behindDigit_any (w.heap.size + 1) u pl r 0 (r - 2) bp (Av w4.heap.size (.slice none 0 0) (Av wr.heap.size v2 (TwoX w.heap.size))) (newS w4 false) ((HP.out.fresh HB4.out (Nat.le_refl _) (fun k h => (HO3.out.row.lt k h).1)).fresh HB5.out (Nat.le_refl _) (fun k h => nil_own k h)) (Nat.zero_le _) (by omega) (by omega) (HO4.out.bound HX5.out) _ _ rfl (by omega)).mono ?_
        rintro e w6 ⟨rfl, hr6, hb6⟩
        have HR6 := Lib.hid hr6
        have HO5 := Lib.hid (HO4.out.below hb6)
        have HB6 := Lib.hid (bel_chain HB5.out hb6)
        have HX6 : Hid (∀ k, Av wr.heap.size v2 (TwoX w.heap.size) k → k < w6.heap.size) := Lib.hid fun k hk => Nat.lt_of_lt_of_le (HX5.out k hk) hb6.size
        clear hr6 hb6 HO4 HB5 HX5
        go_wp2_with fail
        refine (link_any w4.heap.size w4.heap.size (newS w4 false).heap.size (.slice none 0 0) false [] (Av wr.heap.size v2 (TwoX w.heap.size)) (rdgs, (2, u, 0, r - 2)) w6 HO5.out HR6.out (by decide) HB6.out.size HX6.out).mono ?_
        rintro e w7 ⟨rfl, v3, ho6, hl6⟩
        have HN := Lib.hid (ho6.close (1, u, r, 0) rfl rfl)
        have hb7 := bel_lnk HB6.out HO5.out (Nat.le_refl _) hl6
        have HO7 := Lib.hid (HO3.out.below hb7)
        have HB7 := Lib.hid (bel_chain HB4.out hb7)
        have HX7 : Hid (∀ k, TwoX w.heap.size k → k < w7.heap.size) := Lib.hid fun k hk => Nat.lt_of_lt_of_le (HX4.out k hk) hb7.size
        clear ho6 hl6 hb7 HO3 HB4 HX4 HO5 HB6 HX6 HR6
        go_wp2_with fail
        refine (link_any wr.heap.size wr.heap.size w4.heap.size v2 true (wlT u pl ++ [((rdgs, (2, u, r - 1, r - 1)), w2.heap.size)]) (TwoX w.heap.size) ([111], (1, u, r, 0)) w7 HO7.out HN.out (by rw [List.length_append]; show _ + 1 ≤ 8; omega) HB7.out.size HX7.out).mono ?_
        rintro e w8 ⟨rfl, v4, ho8, hl8⟩
        have hb8 := bel_lnk HB7.out HO7.out (Nat.le_refl _) hl8
        obtain ⟨hc8, hf8, h9⟩ := round_end HP.out HV.out HB.out HS.out hb8 (ho8.close (0, u, r, 0) (links_B2 u pl r _ _ hr) rfl) hr1 hlt
        have H9 := Lib.hid h9
        clear ho8 hl8 hb8 h9
        go_wp2_with fail
        go_roundw
        case rel => exact ⟨r + 1, _, by omega, by omega, by go_num, Lib.hid H9.out.1, Lib.hid H9.out.2.1, Lib.hid H9.out.2.2.1, Lib.hid H9.out.2.2.2⟩
        case measure => simp [intOf]; omega
      · have hr' : ¬ (1 : Int) < (r : Int) := by omega
        obtain ⟨hc8, hf8, h9⟩ := round_end HP.out HV.out HB.out HS.out HB4.out (HO3.out.close (0, u, r, 0) (links_B u pl r _ 0 hr) rfl) hr1 hlt
        have H9 := Lib.hid h9
        clear h9
        go_wp2_with fail
        go_roundw
        case rel => exact ⟨r + 1, _, by omega, by omega, by go_num, Lib.hid H9.out.1, Lib.hid H9.out.2.1, Lib.hid H9.out.2.2.1, Lib.hid H9.out.2.2.2⟩
        case measure => simp [intOf]; omega
    · obtain rfl : r = 5 := by omega
      go_wp2_with (first
        | ((with_reducible refine here6 ⟨some 40, _, _, _, _, _⟩ ?_)
           go_loud (refine wpList_load_vals rfl 54 (.tmp 3) rfl 54 (w.heap.size + 1) 6 0 6 _ _ rfl HP.out.row (by omega) Tryd.underlying54 rfl szPart ?_))
        | ((with_reducible refine here6 ⟨none, .store 54 (.tmp 2) (.tmp 40), _, _, _, _⟩ ?_)
           go_loud (refine wpList_store_vals rfl 54 (.tmp 2) (.tmp 40) rfl 54 w.heap.size 6 0 6 _ _ rfl rfl HV.out (by omega) szPart (fun j hj => prV_one u pl bp 5 6 (0 + j) (by omega)) ?_)
           intro w4 hb4 hm4
           have HB4 := Lib.hid hb4; have HM4 := Lib.hid hm4; clear hb4 hm4))
      have hk : ∀ {c q}, Rst wr (TwoX w.heap.size) c q → Rst w4 N0 c q := fun h => h.keep (fun k hk hx => HM4.out.block k (fun e => hx (.inl (by omega)))) (fun _ _ h => h.elim)
      refine bodyPost_ret (results_vals1 Tryd.results51 _ _ 54 w.heap.size 6 _ _ rfl HB4.out Tryd.underlying54 rfl szPart) rfl ⟨bp, ?_, fun h => hk (HP.out.left h), fun j h1 h2 => hk (HP.out.st j h1 h2), HM4.out.bel HB.out (Nat.le_refl _)⟩
      rw [vals_congr (fun j hj => ovr_all _ _ 6 j hj), vals_congr (fun j hj => by rw [Nat.zero_add])]
end Go.Proofs.YtagipmfkmikagaaDoor
