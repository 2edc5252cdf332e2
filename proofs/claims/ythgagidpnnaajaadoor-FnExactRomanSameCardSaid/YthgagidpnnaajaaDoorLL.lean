/- The program's RomanLoose. -/
import Derived.Test.YthgagidpnnaajaaDoorLI
namespace Go.Proofs.YthgagidpnnaajaaDoor
open Go.RowKit
set_option linter.unusedVariables false
set_option maxRecDepth 100000
/-- both cells of a block of two are stored -/
theorem set2 {w : World} {b : Nat} {x y x' y' : Value} {T : TypeId} (h : w.heap[b]? = some (.cells #[x, y] T (0, 0))) :
    ((w.setCell ⟨b, 0, none⟩ x').setCell ⟨b, 1, none⟩ y').heap[b]? = some (.cells #[x', y'] T (0, 0)) := by
  simpa using heap_setCell_same (w.setCell ⟨b, 0, none⟩ x') b 1 _ T y' (heap_setCell_same w b 0 _ T x' h)
theorem free2 {w : World} {b j : Nat} {C : Array Value} {T : TypeId} (h : w.heap[b]? = some (.cells C T (0, 0))) : w.frozen? ⟨b, j, none⟩ = false := by simp [World.frozen?, h]
theorem fst1_lt (s : List UInt8) (h : okL s = true) : fst1 s < 7 := by
  cases s with
  | nil => decide
  | cons c r =>
    rw [okL_cons, Bool.and_eq_true] at h
    exact of_decide_eq_true h.1
theorem drop_at (l : List UInt8) (j : Nat) (hj : j < l.length) : l.drop j = l[j] :: l.drop (j + 1) := List.drop_eq_getElem_cons hj
theorem okL_drop (l : List UInt8) (j : Nat) (h : okL l = true) : okL (l.drop j) = true := by
  unfold okL at *
  rw [List.all_eq_true] at *
  exact fun x hx => h x (List.mem_of_mem_drop hx)
theorem iRomanLoose_in (l : List UInt8) (w : World) (hl : LV w) (h1 : 1 ≤ l.length) (h2 : l.length ≤ 16) : Calls Tryd.prog 18 #[.string ⟨l.toArray⟩] w fun e w' => e = .returned (looseR l) ∧ Below w.heap.size w w' := by
  have H := Lib.hid hl; clear hl
  go_enter Tryd.func18, Tryd.ntmps18
  go_wp2_with fail
  refine (noText_any _).mono ?_
  rintro e w1 ⟨rfl, g1⟩
  have Hw1 := Lib.hid (H.out.step g1)
  go_wp2_with fail
  go_loopw [5] (fun i wr => ∃ v : Int, i = .int .i64 v ∧ -1 ≤ v ∧ v < l.length ∧ okL (l.drop (v + 1).toNat) = true ∧ wr.heap[w1.heap.size]? = some (.cells #[.int .i64 (fst1 (l.drop (v + 1).toNat) : Nat), .int .i64 (looseL (l.drop (v + 1).toNat))] 47 (0, 0)) ∧ Below w1.heap.size w1 wr) (fun i _ => (intOf i + 1).toNat)
  case atStart =>
    refine ⟨_, rfl, by omega, by omega, ?_, ?_, (Below.refl _ _).alloc (Nat.le_refl _) _⟩
    · rw [show ((l.length : Int) - 1 + 1).toNat = l.length by omega, List.drop_length]; rfl
    · rw [show ((l.length : Int) - 1 + 1).toNat = l.length by omega, List.drop_length]; exact heap_alloc_new _ _
  case round =>
    obtain ⟨v, rfl, hv0, hv1, hok, htb, hbel⟩ := hrel
    by_cases hge : 0 ≤ v
    · obtain ⟨j, rfl⟩ := Int.eq_ofNat_of_zero_le hge
      have hj : j < l.length := by omega
      rw [show ((j : Int) + 1).toNat = j + 1 by omega] at hok htb
      have Hdr := Lib.hid (drop_at l j hj)
      have hbd := looseL_bd (l.drop (j + 1))
      have hle : (l.drop (j + 1)).length ≤ 16 := by simp; omega
      have hfl := fst1_lt _ hok
      generalize hR : l.drop (j + 1) = R at *
      have HR := Lib.hid hR; clear hR
      generalize hf : fst1 R = f at *
      generalize hx : looseL R = x at *
      have Hf := Lib.hid hf; have Hx := Lib.hid hx; clear hf hx
      have hc0 := cell_at htb (j := 0) rfl
      have hc1 := cell_at htb (j := 1) rfl
      have hlr : LV wr := Hw1.out.step hbel
      have Hlr := Lib.hid hlr; clear hlr
      obtain ⟨z, hz⟩ : ∃ z, li (l[j].toNat : Int) = z := ⟨_, rfl⟩
      have Hz := Lib.hid hz; clear hz
      by_cases hli : z < 7
      · have Hans : Hid (∀ hix, letterOfR (((⟨l.toArray⟩ : ByteArray)[j]'hix).toNat : Int) = .tuple #[.int .i64 (z : Nat), .bool true]) := fun hix => by
          show letterOfR (l[j].toNat : Int) = _
          unfold letterOfR; rw [Hz.out, if_pos hli]
        have hokj : Hid (okL (l.drop j) = true) := by
          show _ = _
          rw [Hdr.out, okL_cons, Bool.and_eq_true, Hz.out]; exact ⟨decide_eq_true hli, hok⟩
        have Hval : Hid (looseL (l.drop j) = bef z f x) := by
          show _ = _
          rw [Hdr.out, looseL, Hf.out, Hx.out, Hz.out]
        have Hfst : Hid (fst1 (l.drop j) = z) := by show _ = _; rw [Hdr.out]; exact Hz.out
        go_wp2_with fail
        refine (letterOf_any _ _).mono ?_
        rw [Hans.out]
        rintro e w2 ⟨rfl, rfl⟩
        go_wp2_with fail
        refine (before_any z f x _ Hlr.out hli hfl (by omega) (by omega)).mono ?_
        rintro e w2 ⟨rfl, g2⟩
        have hsz : w1.heap.size < wr.heap.size := lt_of_block' htb
        have htb2 := (g2.block _ hsz).trans htb
        have hd0 := cell_at htb2 (j := 0) rfl
        have hd1 := cell_at htb2 (j := 1) rfl
        have hf0 : w2.frozen? ⟨w1.heap.size, 0, none⟩ = false := free2 htb2
        have hf1 : w2.frozen? ⟨w1.heap.size, 1, none⟩ = false := free2 htb2
        have R1 := set2 (x' := .int .i64 (z : Nat)) (y' := .int .i64 (bef z f x)) htb2
        have R2 : Below w1.heap.size w1 ((w2.setCell ⟨w1.heap.size, 0, none⟩ (.int .i64 (z : Nat))).setCell ⟨w1.heap.size, 1, none⟩ (.int .i64 (bef z f x))) :=
          (((bel_under hbel hbel.size g2).setCell (p := ⟨w1.heap.size, 0, none⟩) (Nat.le_refl _) _).setCell (p := ⟨w1.heap.size, 1, none⟩) (Nat.le_refl _) _)
        clear hc0 hc1 htb htb2 g2 hbel
        have HR1 := Lib.hid R1; have HR2 := Lib.hid R2; clear R1 R2
        go_wp2_with fail
        go_roundw
        case rel =>
          refine ⟨(j : Int) - 1, rfl, by omega, by omega, ?_, ?_, HR2.out⟩
          · rw [show ((j : Int) - 1 + 1).toNat = j by omega]; exact hokj.out
          · rw [show ((j : Int) - 1 + 1).toNat = j by omega, Hfst.out, Hval.out]; exact HR1.out
        case measure => simp [intOf]
      · have Hans : Hid (∀ hix, letterOfR (((⟨l.toArray⟩ : ByteArray)[j]'hix).toNat : Int) = .tuple #[.int .i64 0, .bool false]) := fun hix => by
          show letterOfR (l[j].toNat : Int) = _
          unfold letterOfR; rw [Hz.out, if_neg hli]
        have Hfin : Hid (looseR l = .tuple #[.int .i64 0, .bool false]) := by
          show _ = _
          unfold looseR
          rw [if_neg]
          rintro ⟨_, _, h3⟩
          have h4 := okL_drop l j h3
          rw [Hdr.out, okL_cons, Bool.and_eq_true, Hz.out] at h4
          exact hli (of_decide_eq_true h4.1)
        clear hli
        go_wp2_with fail
        refine (letterOf_any _ _).mono ?_
        rw [Hans.out]
        rintro e w2 ⟨rfl, rfl⟩
        go_wp2_with fail
        go_ret2
        exact ⟨ret_of Hfin.out.symm, bel_chain g1 hbel⟩
    · obtain rfl : v = -1 := by omega
      rw [show ((-1 : Int) + 1).toNat = 0 from rfl, List.drop_zero] at hok htb
      have Hfin : Hid (looseR l = .tuple #[.int .i64 (looseL l), .bool true]) := by
        show _ = _
        unfold looseR
        rw [if_pos ⟨h1, h2, hok⟩]
      have hc1 := cell_at htb (j := 1) rfl
      clear hok
      go_wp2_with fail
      go_ret2
      exact ⟨ret_of Hfin.out.symm, bel_chain g1 hbel⟩
theorem iRomanLoose_out (s : ByteArray) (w : World) (h : ¬ (1 ≤ s.size ∧ s.size ≤ 16)) : Calls Tryd.prog 18 #[.string s] w fun e w' => e = .returned (.tuple #[.int .i64 0, .bool false]) ∧ Below w.heap.size w w' := by
  by_cases h1 : s.size < 1
  · have h1' : s.size = 0 := by omega
    clear h
    go_enter Tryd.func18, Tryd.ntmps18
    go_wp2
    go_ret2
    exact ⟨rfl, Below.refl _ _⟩
  · have h2 : 16 < s.size := by omega
    clear h
    go_enter Tryd.func18, Tryd.ntmps18
    go_wp2
    go_ret2
    exact ⟨rfl, Below.refl _ _⟩
theorem looseR_out (l : List UInt8) (h : ¬ (1 ≤ l.length ∧ l.length ≤ 16)) : looseR l = .tuple #[.int .i64 0, .bool false] := by
  unfold looseR
  rw [if_neg]
  rintro ⟨h1, h2, _⟩
  exact h ⟨h1, h2⟩
theorem iRomanLoose_any (l : List UInt8) (w : World) (hl : LV w) : Calls Tryd.prog 18 #[.string ⟨l.toArray⟩] w fun e w' => e = .returned (looseR l) ∧ Below w.heap.size w w' := by
  by_cases h : 1 ≤ l.length ∧ l.length ≤ 16
  · exact iRomanLoose_in l w hl h.1 h.2
  · rw [looseR_out l h]
    refine iRomanLoose_out ⟨l.toArray⟩ w ?_
    have e : (⟨l.toArray⟩ : ByteArray).size = l.length := by show l.toArray.size = l.length; simp
    rw [e]
    exact h
theorem as_list (s : ByteArray) : ∃ l : List UInt8, s = ⟨l.toArray⟩ := ⟨s.data.toList, by cases s; simp⟩
/-- the strict value's answer: that of strictValue -/
def strictB (l : List UInt8) : Bool := decide (1 ≤ l.length ∧ l.length ≤ 16 ∧ okL l = true ∧ 1 ≤ looseL l ∧ looseL l ≤ 3999 ∧ strict (looseL l).toNat = l)
end Go.Proofs.YthgagidpnnaajaaDoor
