/- The model's chapter 4 (package spec): l4Parts. -/
import Derived.Test.YtejhiilkbckobaaDoorCS
import Derived.Test.YtejhiilkbckobaaDoorBE
import Derived.Test.YtejhiilkbckobaaDoorBO
namespace Go.Proofs.YtejhiilkbckobaaDoor
open Go.RowKit
set_option linter.unusedVariables false
set_option maxRecDepth 100000
/-- the readings that begin with a digit up to j -/
def prtJ (f : Nat) (l : List UInt8) (n j : Nat) : List Nat := (List.range j).flatMap fun i => if (cdig (i + 1)) <+: l then prts f (l.drop (cdig (i + 1)).length) (60 * n + (i + 1)) else []
theorem prtJ_zero (f : Nat) (l : List UInt8) (n : Nat) : prtJ f l n 0 = [] := rfl
theorem prtJ_succ (f : Nat) (l : List UInt8) (n j : Nat) : prtJ f l n (j + 1) = prtJ f l n j ++ if (cdig (j + 1)) <+: l then prts f (l.drop (cdig (j + 1)).length) (60 * n + (j + 1)) else [] := by
  unfold prtJ; rw [List.range_succ, List.flatMap_append]; simp
theorem prts_cons (f : Nat) (c : UInt8) (s : List UInt8) (n : Nat) : prts (f + 1) (c :: s) n = prtJ f (c :: s) n 59 := by simp only [prts]; rfl
theorem prts_len (f : Nat) : ∀ l n, (prts f l n).length ≤ 60 ^ f := by
  induction f with
  | zero => intro l n; cases l <;> simp [prts]
  | succ f ih =>
    intro l n
    cases l with
    | nil => simp only [prts, List.length_singleton]; exact Nat.one_le_pow _ _ (by omega)
    | cons c s =>
      rw [prts_cons]
      have : ∀ j, (prtJ f (c :: s) n j).length ≤ j * 60 ^ f := fun j => by
        induction j with
        | zero => simp [prtJ]
        | succ j ihj =>
          rw [prtJ_succ, List.length_append, show (j + 1) * 60 ^ f = j * 60 ^ f + 60 ^ f from Nat.succ_mul _ _]
          refine Nat.add_le_add ihj ?_
          split
          · exact ih _ _
          · simp
      have h := this 59
      rw [Nat.pow_succ]
      omega
theorem prtJ_len (f : Nat) (l : List UInt8) (n j : Nat) : (prtJ f l n j).length ≤ j * 60 ^ f := by
  induction j with
  | zero => simp [prtJ]
  | succ j ihj =>
    rw [prtJ_succ, List.length_append, show (j + 1) * 60 ^ f = j * 60 ^ f + 60 ^ f from Nat.succ_mul _ _]
    refine Nat.add_le_add ihj ?_
    split
    · exact prts_len f _ _
    · simp
/-- natural numbers as the program's -/
def ints (l : List Nat) : List Int := l.map fun x : Nat => (x : Int)
theorem ints_len (l : List Nat) : (ints l).length = l.length := by simp [ints]
theorem ints_append (a b : List Nat) : ints (a ++ b) = ints a ++ ints b := by simp [ints]
/-- an own row of integers -/
def Grown (base : Nat) (w : World) (g cap : Nat) (xs : List Int) : Prop := w.ownsRow base 3 1 (.slice (some ⟨g, 0, none⟩) xs.length cap) xs.length (xs.map (Value.int .i64))
theorem pre_ext (l : List UInt8) (k : Nat) : (⟨l.toArray⟩ : ByteArray).extract 0 k = ⟨(l.take k).toArray⟩ ∧ (⟨l.toArray⟩ : ByteArray).extract k l.length = ⟨(l.drop k).toArray⟩ := by
  rw [Lib.extract_eq, Lib.extract_eq]
  refine ⟨by simp, ?_⟩
  rw [List.take_of_length_le (by simp)]
theorem pre_take (L l : List UInt8) : L <+: l ↔ l.take L.length = L := by
  constructor
  · rintro ⟨t, rfl⟩; simp
  · intro h; exact ⟨l.drop L.length, by conv => rhs; rw [← List.take_append_drop L.length l, h]⟩
/-- append of one number to an own row, the fact of its law -/
theorem grown_news (w : World) (x : Int) : ∀ j u, ([.int .i64 x] : List Value)[j]? = some u → (w.alloc (.cells #[.int .i64 x] 3)).cell? ((⟨w.heap.size, 0, none⟩ : Addr).add j) = some u := one_news (heap_alloc_new w _)
set_option maxHeartbeats 1000000 in
theorem l4Parts_nil (f : Nat) (dg : Int) (n base g cap : Nat) (xs : List Int) (w : World) (hn : n ≤ 215999) (hx : xs.length ≤ 300000) (hb : base ≤ w.heap.size) (hg : Grown base w g cap xs) :
    Calls Tryd.prog 33 #[.string ⟨#[]⟩, .int .i64 n, .int .i64 dg, .slice (some ⟨g, 0, none⟩) xs.length cap] w fun e w' => ∃ g' cap', e = .returned (.slice (some ⟨g', 0, none⟩) (xs ++ ints (prts f [] n)).length cap') ∧ Grown base w' g' cap' (xs ++ ints (prts f [] n)) ∧ Below base w w' := by
  obtain ⟨i0, hi, hz0, hz1, hz2⟩ := info_parts info_int
  obtain ⟨f1, f2, f3⟩ := own_form hg
  have hprts : prts f [] n = [n] := by cases f <;> rfl
  rw [hprts]
  have Hg : Hid ((w.alloc (.cells #[.int .i64 n] 3)).ownsRow base 3 1 (.slice (some ⟨g, 0, none⟩) xs.length cap) xs.length (xs.map (Value.int .i64))) := Lib.hid (World.ownsRow.alloc hg _)
  have Hb : Hid (base ≤ (w.alloc (.cells #[.int .i64 n] 3)).heap.size) := Lib.hid (by simp; omega)
  have Hbel : Hid (Below base w (w.alloc (.cells #[.int .i64 n] 3))) := Lib.hid ((Below.refl _ _).alloc hb _)
  have hrow : Hid (∀ b, (Value.slice (some ⟨g, 0, none⟩) xs.length cap).ownBlock = some b → base ≤ b) := Lib.hid fun b hb => by
    have e : g = b := by simpa [Value.ownBlock] using hb
    omega
  clear hg
  go_enter Tryd.func33, Tryd.ntmps33
  go_wp2_with (at_builtin; refine wpList_append_own _ rfl _ _ 31 rfl base 3 i0 (.int .i64 0) 1 8 Tryd.underlying31 hi hz0 hz1 hz2 rfl (by decide) _ xs.length _ rfl Hg.out ⟨w.heap.size, 0, none⟩ 1 1 [.int .i64 n] rfl rfl (grown_news w n) one_cell (by unfold maxLen; omega) (by omega) Hb.out ?_
               intro v' w4 hown4 hg4 _
               obtain ⟨g', cap', rfl, hb', _⟩ := hown4.form (by omega)
               have HO4 : Hid (Grown base w4 g' cap' (xs ++ ints [n])) := by (have e1 : xs.map (Value.int .i64) ++ [.int .i64 n] = (xs ++ ints [n]).map (Value.int .i64) := by simp [ints]); rw [e1] at hown4; unfold Grown; (have e2 : (xs ++ ints [n]).length = xs.length + 1 := by simp [ints]); rw [e2]; exact hown4
               have HB4 : Hid (Below base w w4) := Hbel.out.grown hg4 Hb.out hrow.out
               clear hown4 hg4 hb')
  go_ret
  exact ⟨g', cap', by simp [ints], HO4.out, HB4.out⟩
set_option maxHeartbeats 1000000 in
theorem l4Parts_any (f : Nat) : f ≤ 3 → ∀ (l : List UInt8) (n base g cap : Nat) (xs : List Int) (w : World) (dg : Int), dg = 3 - (f : Int) → l.length ≤ 100 → n < 60 ^ (3 - f) → xs.length + 60 ^ f ≤ 300000 → base ≤ w.heap.size → Grown base w g cap xs →
    Calls Tryd.prog 33 #[.string ⟨l.toArray⟩, .int .i64 n, .int .i64 dg, .slice (some ⟨g, 0, none⟩) xs.length cap] w fun e w' => ∃ g' cap', e = .returned (.slice (some ⟨g', 0, none⟩) (xs ++ ints (prts f l n)).length cap') ∧ Grown base w' g' cap' (xs ++ ints (prts f l n)) ∧ Below base w w' := by
  induction f with
  | zero =>
    intro hf l n base g cap xs w dg hdg hl hn hx hb hg
    cases l with
    | nil => exact l4Parts_nil 0 dg n base g cap xs w (by have e : 60 ^ (3 - 0) = 216000 := by decide
                                                          omega) (by omega) hb hg
    | cons c s =>
      have hne : ((c :: s) == []) = false := by rfl
      have hd : dg = 3 := by omega
      clear hdg
      subst hd
      have Hg := Lib.hid hg; clear hg hn hx
      go_enter Tryd.func33, Tryd.ntmps33
      go_wp2_with fail
      go_ret
      exact ⟨g, cap, by simp [prts, ints], by have := Hg.out; simpa [prts, ints] using this, Below.refl _ _⟩
  | succ f ih =>
    intro hf l n base g cap xs w dg hdg hl hn hx hb hg
    have hn6 : n ≤ 3599 := by
      rcases (show f = 0 ∨ f = 1 ∨ f = 2 by omega) with rfl | rfl | rfl
      · have e : 60 ^ (3 - (0 + 1)) = 3600 := by decide
        omega
      · have e : 60 ^ (3 - (1 + 1)) = 60 := by decide
        omega
      · have e : 60 ^ (3 - (2 + 1)) = 1 := by decide
        omega
    cases l with
    | nil => exact l4Parts_nil (f + 1) dg n base g cap xs w (by omega) (by have := Nat.one_le_pow (f + 1) 60 (by omega); omega) hb hg
    | cons c s =>
      have hne : ((c :: s) == []) = false := by rfl
      have hq : (dg == 3) = false := by rw [beq_eq_false_iff_ne]; omega
      have hd0 : 0 ≤ dg := by omega
      have hd3 : dg ≤ 2 := by omega
      have Hdg := Lib.hid hdg
      have Hn : Hid (∀ d, d < 60 → 60 * n + d < 60 ^ (3 - f)) := Lib.hid fun d hd => by
        rw [show 3 - f = (3 - (f + 1)) + 1 by omega, Nat.pow_succ]; omega
      have Hx : Hid (xs.length + 60 ^ (f + 1) ≤ 300000) := Lib.hid hx
      have Hg := Lib.hid hg; have IH := Lib.hid ih; clear hg hn hx hdg ih
      rw [prts_cons]
      generalize hlv : c :: s = l at *
      have hlp : 1 ≤ l.length := by rw [← hlv]; simp
      clear hlv
      go_enter Tryd.func33, Tryd.ntmps33
      go_wp2_with fail
      go_loopw [3, 9] (fun v x wr => ∃ (j gj capj : Nat), j ≤ 59 ∧ x = .int .i64 ((j : Int) + 1) ∧ v = .slice (some ⟨gj, 0, none⟩) (xs ++ ints (prtJ f l n j)).length capj ∧ Grown base wr gj capj (xs ++ ints (prtJ f l n j)) ∧ Below base w wr) (fun _ x _ => 60 - (intOf x).toNat)
      case atStart => exact ⟨0, g, cap, by omega, rfl, by simp [prtJ, ints], by have := Hg.out; simpa [prtJ, ints] using this, Below.refl _ _⟩
      case round =>
        clear Hg
        obtain ⟨j, gj, capj, hj, rfl, rfl, hown, hbel⟩ := hrel
        have Hown := Lib.hid hown; have Hbel := Lib.hid hbel; clear hown hbel
        by_cases hlt : j < 59
        · have C := Lib.hid (l4Digit_int ((j : Int) + 1) wr (by omega) (by omega))
          rw [show ((j : Int) + 1).toNat = j + 1 by omega] at C
          have hL := cdig_len (j + 1) (by omega)
          have Hs := Lib.hid (prtJ_succ f l n j)
          by_cases hp : (cdig (j + 1)) <+: l
          · obtain ⟨p1, p2⟩ := pre_ext l (cdig (j + 1)).length
            have hle := hp.length_le
            rw [(pre_take _ _).1 hp] at p1
            have R : Hid (∀ w1, wr = w1 → Calls Tryd.prog 33 #[.string ⟨(l.drop (cdig (j + 1)).length).toArray⟩, .int .i64 (60 * (n : Int) + ((j : Int) + 1)), .int .i64 (dg + 1), .slice (some ⟨gj, 0, none⟩) (xs ++ ints (prtJ f l n j)).length capj] w1 fun e w' => ∃ g' cap', e = .returned (.slice (some ⟨g', 0, none⟩) (xs ++ ints (prtJ f l n (j + 1))).length cap') ∧ Grown base w' g' cap' (xs ++ ints (prtJ f l n (j + 1))) ∧ Below base w1 w') := Lib.hid fun w1 hw1 => by
              subst hw1
              have hb' : base ≤ wr.heap.size := Nat.le_trans hb Hbel.out.size
              have := IH.out (by omega) (l.drop (cdig (j + 1)).length) (60 * n + (j + 1)) base gj capj (xs ++ ints (prtJ f l n j)) wr (dg + 1) (by have := Hdg.out; omega) (by simp; omega) (Hn.out _ (by omega))
                (by rw [List.length_append, ints_len]; have := prtJ_len f l n j; have := Hx.out; rw [Nat.pow_succ] at this; have := Nat.mul_le_mul_right (60 ^ f) (show j + 1 ≤ 60 by omega); rw [Nat.succ_mul] at this; omega) hb' Hown.out
              rw [Hs.out, if_pos hp, ints_append, ← List.append_assoc]
              rwa [show ((60 * n + (j + 1) : Nat) : Int) = 60 * (n : Int) + ((j : Int) + 1) by omega] at this
            clear hp Hs
            generalize cdig (j + 1) = L at *
            generalize hm : (xs ++ ints (prtJ f l n j)).length = M at *
            go_wp2_with fail
            refine C.out.mono ?_
            rintro e w1 ⟨rfl, rfl⟩
            go_wp2_with fail
            refine (R.out _ rfl).mono ?_
            rintro e w2 ⟨g', cap', rfl, hg', hb2⟩
            have HG2 := Lib.hid hg'; have HB2 := Lib.hid (Hbel.out.trans hb2); clear hg' hb2
            go_wp2_with fail
            go_roundw
            case rel => exact ⟨j + 1, g', cap', by omega, by go_num, by rw [List.length_append], HG2.out, HB2.out⟩
            case measure => simp [intOf]; omega
          · rw [if_neg hp, List.append_nil] at Hs
            have Hown2 : Hid (Grown base wr gj capj (xs ++ ints (prtJ f l n (j + 1)))) := Lib.hid (by rw [Hs.out]; exact Hown.out)
            have Hm2 : Hid ((xs ++ ints (prtJ f l n (j + 1))).length = (xs ++ ints (prtJ f l n j)).length) := Lib.hid (by rw [Hs.out])
            by_cases hle : (cdig (j + 1)).length ≤ l.length
            · obtain ⟨p1, p2⟩ := pre_ext l (cdig (j + 1)).length
              have hne2 : (l.take (cdig (j + 1)).length == cdig (j + 1)) = false := by rw [beq_eq_false_iff_ne]; exact fun e => hp ((pre_take _ _).2 e)
              have hTl : (l.take (cdig (j + 1)).length).length ≤ 100 := Nat.le_trans (List.length_take_le _ _) (by omega)
              generalize l.take (cdig (j + 1)).length = T at *
              clear hp Hs p2
              generalize cdig (j + 1) = L at *
              generalize hm : (xs ++ ints (prtJ f l n j)).length = M at *
              go_wp2_with fail
              refine C.out.mono ?_
              rintro e w1 ⟨rfl, rfl⟩
              go_wp2_with fail
              go_roundw
              case rel => exact ⟨j + 1, gj, capj, by omega, by go_num, by rw [Hm2.out], Hown2.out, Hbel.out⟩
              case measure => simp [intOf]; omega
            · clear hp Hs
              generalize cdig (j + 1) = L at *
              generalize hm : (xs ++ ints (prtJ f l n j)).length = M at *
              go_wp2_with fail
              refine C.out.mono ?_
              rintro e w1 ⟨rfl, rfl⟩
              go_wp2_with fail
              go_roundw
              case rel => exact ⟨j + 1, gj, capj, by omega, by go_num, by rw [Hm2.out], Hown2.out, Hbel.out⟩
              case measure => simp [intOf]; omega
        · obtain rfl : j = 59 := by omega
          generalize hm : (xs ++ ints (prtJ f l n 59)).length = M at *
          have Hm := Lib.hid hm; clear hm
          go_wp2_with fail
          go_ret
          refine ⟨gj, capj, ?_, Hown.out, Hbel.out⟩
          rw [Hm.out]
          rfl
end Go.Proofs.YtejhiilkbckobaaDoor
