/- The program's chapter 4: the closure that reads. -/
import Derived.Test.YtejhiilkbckobaaDoorDE
namespace Go.Proofs.YtejhiilkbckobaaDoor
open Go.RowKit
set_option linter.unusedVariables false
set_option maxRecDepth 100000
/-- a part of a pressed text, in a block below B -/
def Txt (w : World) (B : Nat) (a : Option Addr) (l : List UInt8) : Prop := ∀ k, k < l.length → ∃ b off, a = some ⟨b, off, none⟩ ∧ b < B ∧ w.cell? ⟨b, off + k, none⟩ = some (.int .u8 ((l.getD k 0).toNat : Int))
/-- what has been found -/
def Fnd (w : World) (pf B : Nat) (xs : List Int) : Prop := ∃ v, w.heap[pf]? = some (.cells #[v] 31 (0, 0)) ∧ w.ownsRow B 3 1 v xs.length (xs.map (Value.int .i64))
/-- what is kept: all blocks below B but pf -/
structure Part (B pf : Nat) (w w' : World) : Prop where
  os : w'.os = w.os
  tape : w'.tape = w.tape
  output : w'.output = w.output
  size : w.heap.size ≤ w'.heap.size
  block : ∀ k, k < B → k ≠ pf → w'.heap[k]? = w.heap[k]?
theorem Part.refl (B pf : Nat) (w : World) : Part B pf w w := ⟨rfl, rfl, rfl, Nat.le_refl _, fun _ _ _ => rfl⟩
theorem Part.trans {B pf : Nat} {a b c : World} (h : Part B pf a b) (g : Part B pf b c) : Part B pf a c :=
  ⟨g.os.trans h.os, g.tape.trans h.tape, g.output.trans h.output, Nat.le_trans h.size g.size, fun k h1 h2 => (g.block k h1 h2).trans (h.block k h1 h2)⟩
theorem Part.drewN {B pf : Nat} {a b : World} (h : Part B pf a b) (q : Nat) : Part B pf a (b.drewN q) := h.trans ⟨rfl, rfl, rfl, Nat.le_refl _, fun _ _ _ => rfl⟩
theorem Part.below {B pf : Nat} {a b c : World} (h : Part B pf a b) (g : Below b.heap.size b c) (hB : B ≤ b.heap.size) : Part B pf a c :=
  h.trans ⟨g.os, g.tape, g.output, g.size, fun k hk _ => g.block k (by omega)⟩
theorem Part.grown {B pf : Nat} {a b c : World} {row : Option Nat} (h : Part B pf a b) (g : b.grownBy c row) (hB : B ≤ b.heap.size) (hr : ∀ j, row = some j → B ≤ j) : Part B pf a c :=
  h.trans ⟨g.os, g.tape, g.output, g.size, fun k hk _ => g.block k (by omega) fun e => by have := hr k e.symm; omega⟩
theorem Part.setCell {B pf : Nat} {a b : World} (h : Part B pf a b) (i : Nat) (v : Value) : Part B pf a (b.setCell ⟨pf, i, none⟩ v) :=
  h.trans ⟨rfl, rfl, rfl, by simp [World.setCell], fun k _ hk => Below.heap_setCell _ _ _ _ hk⟩
theorem Part.cell {B pf : Nat} {w w' : World} (h : Part B pf w w') {a : Addr} (h1 : a.block < B) (h2 : a.block ≠ pf) : w'.cell? a = w.cell? a := World.cell?_of_block (h.block _ h1 h2)
theorem Txt.part {w w' : World} {B pf : Nat} {a : Option Addr} {l : List UInt8} (h : Txt w pf a l) (g : Part B pf w w') (hp : pf < B) : Txt w' pf a l := fun k hk => by
  obtain ⟨b, off, e, hb, hc⟩ := h k hk
  exact ⟨b, off, e, hb, (g.cell (by show b < B; omega) (by show b ≠ pf; omega)).trans hc⟩
theorem Txt.form {w : World} {B : Nat} {a : Option Addr} {l : List UInt8} (h : Txt w B a l) (hl : 0 < l.length) : ∃ b off, a = some ⟨b, off, none⟩ ∧ b < B ∧ ∀ k, k < l.length → w.cell? ⟨b, off + k, none⟩ = some (.int .u8 ((l.getD k 0).toNat : Int)) := by
  obtain ⟨b, off, e, hb, _⟩ := h 0 hl
  refine ⟨b, off, e, hb, fun k hk => ?_⟩
  obtain ⟨b', off', e', _, hc⟩ := h k hk
  rw [e] at e'
  injection e' with e1
  injection e1 with e2 e3
  subst e2 e3
  exact hc
theorem Txt.drop {w : World} {B b off : Nat} {l : List UInt8} (h : ∀ k, k < l.length → w.cell? ⟨b, off + k, none⟩ = some (.int .u8 ((l.getD k 0).toNat : Int))) (hb : b < B) (j : Nat) (ad : Addr) (ha : j < l.length → ad = ⟨b, off + j, none⟩) : Txt w B (some ad) (l.drop j) := fun k hk => by
  rw [List.length_drop] at hk
  refine ⟨b, off + j, by rw [ha (by omega)], hb, ?_⟩
  rw [Nat.add_assoc, h (j + k) (by omega)]
  simp [List.getD_eq_getElem?_getD, List.getElem?_drop]
theorem strOf_bytes (m : List UInt8) : strOfNums (m.map fun c => (c.toNat : Int)) = ⟨m.toArray⟩ := by
  have e : (m.map fun c => (c.toNat : Int)).map (fun n => UInt8.ofNat n.toNat) = m := by
    rw [List.map_map]
    conv => rhs; rw [← List.map_id m]
    refine List.map_congr_left fun c _ => ?_
    simp
  unfold strOfNums
  rw [e]
theorem txt_string {w : World} {b off : Nat} {l : List UInt8} (h : ∀ k, k < l.length → w.cell? ⟨b, off + k, none⟩ = some (.int .u8 ((l.getD k 0).toNat : Int))) (j : Nat) (hj : j ≤ l.length) :
    Sem.run Tryd.prog (convert 50 9 (.slice (some ⟨b, off, none⟩) j j)) w = .ok (.string ⟨(l.take j).toArray⟩) w := by
  have hlen : (l.take j).length = j := by rw [List.length_take]; omega
  have := run_convert_bytes_arg (P := Tryd.prog) w 50 5 Tryd.underlying50 Tryd.underlying5 b off j j ((l.take j).map fun c => (c.toNat : Int)) (by rw [List.length_map, hlen]) (fun i hi => by
    rw [h i (by omega)]
    simp [List.getD_eq_getElem?_getD, hi, show i < l.length by omega]) 9 Tryd.underlying9
  rw [this, strOf_bytes]
theorem Fnd.grow {w : World} {pf B : Nat} {xs : List Int} (h : Fnd w pf B xs) (o : Obj) : Fnd (w.alloc o) pf B xs := by
  obtain ⟨v, h1, h2⟩ := h
  exact ⟨v, (Below.heap_alloc w o pf (lt_of_block' h1)).trans h1, h2.alloc o⟩
theorem Fnd.below {w w' : World} {pf B : Nat} {xs : List Int} (h : Fnd w pf B xs) (g : Below w.heap.size w w') : Fnd w' pf B xs := by
  obtain ⟨v, h1, h2⟩ := h
  exact ⟨v, (g.block pf (lt_of_block' h1)).trans h1, World.ownsRow.kept h2 (row := none) ⟨g.os, g.tape, g.output, g.size, fun k hk _ => g.block k hk⟩ (by cases hv : v.ownBlock with | none => exact .inl rfl | some b => exact .inr (by simp))⟩
/-- the closure's own cell -/
def Clo (w : World) (pf pr : Nat) : Prop := w.heap[pr]? = some (.cells #[.func (.func 45) #[] #[.pointer (some ⟨pf, 0, none⟩), .pointer (some ⟨pr, 0, none⟩)]] 69 (0, 0))
/-- what is found is put back into its variable -/
theorem Fnd.put {w w4 : World} {pf B n : Nat} {xs : List Int} {v v' : Value} (ho : w.ownsRow B 3 1 v xs.length (xs.map (Value.int .i64))) (h1 : w.heap[pf]? = some (.cells #[v] 31 (0, 0))) (hg : w.grownBy w4 v.ownBlock) (hp : pf < B)
    (h4 : w4.ownsRow B 3 1 v' (xs.length + 1) (xs.map (Value.int .i64) ++ [.int .i64 n])) :
    Fnd (w4.setCell ⟨pf, 0, none⟩ v') pf B (xs ++ ints [n]) ∧ w4.cell? ⟨pf, 0, none⟩ = some v ∧ w4.frozen? ⟨pf, 0, none⟩ = false := by
  have hh : w4.heap[pf]? = some (.cells #[v] 31 (0, 0)) := (hg.block pf (lt_of_block' h1) (fun e => by have := (ho.lt pf e.symm).1; omega)).trans h1
  refine ⟨⟨v', ?_, ?_⟩, cell_at hh rfl, by simp [World.frozen?, hh]⟩
  · rw [heap_setCell_same _ _ _ _ _ _ hh]; rfl
  · have e1 : xs.map (Value.int .i64) ++ [.int .i64 (n : Int)] = (xs ++ ints [n]).map (Value.int .i64) := by simp [ints]
    rw [e1] at h4
    rw [show (xs ++ ints [n]).length = xs.length + 1 by simp [ints]]
    exact ownsRow_setCell_below h4 (by exact hp) _
set_option maxRecDepth 100000 in
set_option maxHeartbeats 1000000 in
theorem read_nil (f : Nat) (n : Nat) (a : Option Addr) (pf pr B : Nat) (xs : List Int) (w : World) (hn : n ≤ 215999) (hx : xs.length ≤ 10000) (hp : pf < B) (hB : B ≤ w.heap.size) (hf : Fnd w pf B xs) :
    Calls Tryd.prog 45 #[.slice a 0 0, .int .i64 n, .int .i64 f, .pointer (some ⟨pf, 0, none⟩), .pointer (some ⟨pr, 0, none⟩)] w fun e w' => e = .returned (.tuple #[]) ∧ Fnd w' pf B (xs ++ ints (rgs f [] n)) ∧ Part B pf w w' := by
  obtain ⟨i0, hi, hz0, hz1, hz2⟩ := info_parts info_int
  obtain ⟨v, h1, h2⟩ := hf
  have hc : w.cell? ⟨pf, 0, none⟩ = some v := cell_at h1 rfl
  have Ho : Hid ((w.alloc (.cells #[.int .i64 n] 3)).ownsRow B 3 1 v xs.length (xs.map (Value.int .i64))) := Lib.hid (h2.alloc _)
  have HP := Lib.hid ((Part.refl B pf w).below ((Below.refl _ _).alloc (Nat.le_refl _) (.cells #[.int .i64 n] 3)) hB)
  have H1 : Hid ((w.alloc (.cells #[.int .i64 n] 3)).heap[pf]? = some (.cells #[v] 31 (0, 0))) := Lib.hid ((Below.heap_alloc w _ pf (lt_of_block' h1)).trans h1)
  have HB := Lib.hid (Nat.le_trans hB HP.out.size)
  rw [rgs_nil]
  clear h1 h2
  go_enter Tryd.func45, Tryd.ntmps45
  go_wp2_with (at_builtin; refine wpList_append_own _ rfl _ _ 31 rfl B 3 i0 (.int .i64 0) 1 8 Tryd.underlying31 hi hz0 hz1 hz2 rfl (by decide) _ xs.length _ rfl Ho.out ⟨w.heap.size, 0, none⟩ 1 1 [.int .i64 n] rfl rfl (grown_news w n) one_cell (by unfold maxLen; omega) (by omega) HB.out ?_
               intro v' w4 hown4 hg4 _
               obtain ⟨g', cap', rfl, _, _⟩ := hown4.form (by omega)
               obtain ⟨hf4, hc4, hfr4⟩ := Fnd.put Ho.out H1.out hg4 hp hown4
               have HF4 := Lib.hid hf4
               have HP4 := Lib.hid ((HP.out.grown hg4 HB.out (fun j hj => (Ho.out.lt j hj).1)).setCell 0 (.slice (some ⟨g', 0, none⟩) (xs.length + 1) cap'))
               clear hf4 hown4 hg4)
  exact bodyPost_ret (results_none rfl _ _ _) rfl ⟨rfl, HF4.out, HP4.out⟩
theorem pow_bd (f : Nat) (h : f ≤ 2) : 60 ^ (3 - (f + 1)) ≤ 3600 := by
  rcases (show f = 0 ∨ f = 1 ∨ f = 2 by omega) with rfl | rfl | rfl <;> decide
set_option maxRecDepth 100000 in
set_option maxHeartbeats 2000000 in
theorem read_any (pf pr B : Nat) (hpf : pf < B) (hpr : pr < B) (hne : pr ≠ pf) (f : Nat) : f ≤ 3 → ∀ (l : List UInt8) (n : Nat) (a : Option Addr) (xs : List Int) (w : World) (dg : Int), dg = f → Prs l → l.length ≤ 8 → n < 60 ^ (3 - f) → xs.length + 8 ^ f ≤ 10000 → B ≤ w.heap.size → Txt w pf a l → Clo w pf pr → Fnd w pf B xs →
    Calls Tryd.prog 45 #[.slice a l.length l.length, .int .i64 n, .int .i64 dg, .pointer (some ⟨pf, 0, none⟩), .pointer (some ⟨pr, 0, none⟩)] w fun e w' => e = .returned (.tuple #[]) ∧ Fnd w' pf B (xs ++ ints (rgs f l n)) ∧ Part B pf w w' := by
  induction f with
  | zero =>
    intro hf l n a xs w dg hdg hl hl8 hn hx hB ht hc hfn
    by_cases h0 : l = []
    · subst h0
      subst hdg
      exact read_nil 0 n a pf pr B xs w (by have e : 60 ^ (3 - 0) = 216000 := by decide
                                            omega) (by omega) hpf hB hfn
    · rw [rgs_none l n h0]
      have hlen : 0 < l.length := List.length_pos_iff.2 h0
      have HF := Lib.hid hfn
      have t1 : ((l.length : Int) == 0) = false := by rw [beq_eq_false_iff_ne]; omega
      subst hdg
      clear hn hx ht hc hfn h0
      go_enter Tryd.func45, Tryd.ntmps45
      go_wp2_with fail
      exact bodyPost_ret (results_none rfl _ _ _) rfl ⟨rfl, by simpa [ints] using HF.out, Part.refl _ _ _⟩
  | succ f ih =>
    intro hf l n a xs w dg hdg hl hl8 hn hx hB ht hc hfn
    have hn6 : n ≤ 3599 := by have := pow_bd f (by omega); omega
    by_cases h0 : l = []
    · subst h0
      subst hdg
      exact read_nil (f + 1) n a pf pr B xs w (by omega) (Nat.le_trans (Nat.le_add_right _ _) hx) hpf hB hfn
    · have hlen : 0 < l.length := List.length_pos_iff.2 h0
      obtain ⟨b, off, rfl, hb, hcs⟩ := ht.form hlen
      have t1 : ((l.length : Int) == 0) = false := by rw [beq_eq_false_iff_ne]; omega
      have t2 : (dg == 0) = false := by rw [beq_eq_false_iff_ne]; omega
      have hd0 : 0 ≤ dg := by omega
      have hd3 : dg ≤ 3 := by omega
      have Hdg := Lib.hid hdg; have IH := Lib.hid ih; have HX := Lib.hid hx; have HL := Lib.hid hl; have HC := Lib.hid hc; have HF := Lib.hid hfn; have HCS := Lib.hid hcs
      have HN : Hid (∀ d, d < 60 → n * 60 + d < 60 ^ (3 - f)) := Lib.hid fun d hd => by
        rw [show 3 - f = (3 - (f + 1)) + 1 by omega, Nat.pow_succ]; omega
      rw [rgs_full f l n h0]
      clear hdg ih hx hl hc hfn hcs hn h0 ht
      go_enter Tryd.func45, Tryd.ntmps45
      go_wp2_with fail
      go_loopw [24] (fun i wr => ∃ k : Nat, i = .int .i64 k ∧ k ≤ l.length ∧ Fnd wr pf B (xs ++ ints (rgJ f l n k)) ∧ Part B pf w wr) (fun i _ => l.length - (intOf i).toNat)
      case atStart => exact ⟨0, rfl, by omega, by simpa [rgJ, ints] using HF.out, Part.refl _ _ _⟩
      case round =>
        clear HF
        obtain ⟨k, rfl, hk, hfr, hpr2⟩ := hrel
        have HFr := Lib.hid hfr; have HPr := Lib.hid hpr2; clear hfr hpr2
        by_cases hlt : k < l.length
        · have C := Lib.hid (cut_any b off l.length k wr (by omega) hl8)
          have HBr : Hid (B ≤ wr.heap.size) := Lib.hid (Nat.le_trans hB HPr.out.size)
          go_wp2_with fail
          refine C.out.mono ?_
          rintro e w1 ⟨ad, q, rfl, had, rfl⟩
          have HAD := Lib.hid had; clear had C
          have hcv := txt_string (w := wr.drewN q) (b := b) (off := off) (l := l) (fun j hj => (HPr.out.cell (a := ⟨b, off + j, none⟩) (by show b < B; omega) (by show b ≠ pf; omega)).trans (HCS.out j hj)) (k + 1) (by omega)
          go_wp2_with fail
          have htl : (l.take (k + 1)).length ≤ 1048576 := by rw [List.length_take]; omega
          have HCl : Hid (∀ w2, Below wr.heap.size (wr.drewN q) w2 → w2.cell? ⟨pr, 0, none⟩ = some (.func (.func 45) #[] #[.pointer (some ⟨pf, 0, none⟩), .pointer (some ⟨pr, 0, none⟩)])) := Lib.hid fun w2 g2 =>
            (g2.cell (p := ⟨pr, 0, none⟩) (by have := HBr.out; show pr < wr.heap.size; omega)).trans ((HPr.out.cell (a := ⟨pr, 0, none⟩) hpr hne).trans (cell_at HC.out rfl))
          cases hr : rdo (l.take (k + 1)) with
          | none =>
            have C := Lib.hid (fun w => readClay_no (l.take (k + 1)) w htl hr)
            have HJ := Lib.hid (rgJ_none f l n k hr)
            clear hr hcv htl
            generalize l.take (k + 1) = s at *
            refine (C.out _).mono ?_
            rintro e w2 ⟨rfl, g2⟩
            have HF2 : Hid (Fnd w2 pf B (xs ++ ints (rgJ f l n (k + 1)))) := by rw [HJ.out]; exact (HFr.out.below (((Mid.refl 0 0 wr).drewN q).bel0)).below g2
            have HP2 := Lib.hid ((HPr.out.drewN q).below g2 HBr.out)
            clear g2 C HCl HJ
            go_wp2_with fail
            go_roundw
            case rel => exact ⟨k + 1, by go_num, by omega, HF2.out, HP2.out⟩
            case measure => simp [intOf]; omega
          | some d =>
            have hd := ((rdo_iff _ d).1 hr).1
            have C := Lib.hid (fun w => readClay_yes (l.take (k + 1)) d w htl hr)
            have HJ := Lib.hid (rgJ_some f l n k d hr)
            have Hxl : Hid ((xs ++ ints (rgJ f l n k)).length + 8 ^ f ≤ 10000) := Lib.hid (by
              rw [List.length_append, ints_len]
              have h1 := rgJ_len f l n k hl8
              have h2 := HX.out
              rw [Nat.pow_succ] at h2
              have h3 := Nat.mul_le_mul_right (8 ^ f) (show k + 1 ≤ 8 by omega)
              rw [Nat.succ_mul] at h3
              omega)
            clear hr hcv htl
            generalize l.take (k + 1) = s at *
            refine (C.out _).mono ?_
            rintro e w2 ⟨rfl, g2⟩
            have hcr := HCl.out w2 g2
            have HF2 : Hid (Fnd w2 pf B (xs ++ ints (rgJ f l n k))) := (HFr.out.below (((Mid.refl 0 0 wr).drewN q).bel0)).below g2
            have HP2 := Lib.hid ((HPr.out.drewN q).below g2 HBr.out)
            have R := Lib.hid (IH.out (by omega) (l.drop (k + 1)) (n * 60 + d) (some ad) (xs ++ ints (rgJ f l n k)) w2 (dg - 1) (by have := Hdg.out; omega) (HL.out.drop _) (by rw [List.length_drop]; omega) (HN.out d hd) Hxl.out (Nat.le_trans hB HP2.out.size)
              (Txt.drop (fun j hj => (HP2.out.cell (a := ⟨b, off + j, none⟩) (by show b < B; omega) (by show b ≠ pf; omega)).trans (HCS.out j hj)) hb (k + 1) ad HAD.out) ((HP2.out.block pr hpr hne).trans HC.out) HF2.out)
            rw [List.length_drop, show ((n * 60 + d : Nat) : Int) = (n : Int) * 60 + (d : Nat) by omega] at R
            clear g2 C HCl
            go_wp2_with fail
            refine R.out.mono ?_
            rintro e w3 ⟨rfl, hf3, hp3⟩
            have HF3 : Hid (Fnd w3 pf B (xs ++ ints (rgJ f l n (k + 1)))) := by rw [HJ.out, ints_append, ← List.append_assoc]; exact hf3
            have HP3 := Lib.hid (HP2.out.trans hp3)
            clear hf3 hp3 R HJ HF2 HP2 hcr
            go_wp2_with fail
            go_roundw
            case rel => exact ⟨k + 1, by go_num, by omega, HF3.out, HP3.out⟩
            case measure => simp [intOf]; omega
        · obtain rfl : k = l.length := by omega
          go_wp2_with fail
          go_end0
          exact ⟨rfl, HFr.out, HPr.out⟩
end Go.Proofs.YtejhiilkbckobaaDoor
