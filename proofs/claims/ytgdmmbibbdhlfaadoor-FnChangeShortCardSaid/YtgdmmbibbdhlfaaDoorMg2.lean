/- Several texts of mine, one after another: AI, AO, AR, AS, CR, CS, YC, YE, VR, YN, YL, YT, Sh, BO, BT, CT, CU. -/
import Derived.Test.YtgdmmbibbdhlfaaDoorMg1
import Derived.Lib.Strings
import Derived.Lib.Bytealg
import Derived.StillTailTactics
import Derived.Outline
import Derived.Lib.Hide
import Derived.Lib.ItoaNum
import Derived.Lib.ItoaMem
import Derived.Test.YtgdmmbibbdhlfaaDoorRows
import Derived.Lib.LaidTab
import Derived.LaidLaws
import Derived.Below
import Derived.Shelf.Strings.Builder1
import Derived.Shelf.Strings.Builder2
import Derived.Shelf.Strings.OnBuilder
import Derived.Shelf.LaysM
import Derived.Shelf.Strconv.Itoa3
import Derived.Shelf.Bits.Mul64
import Derived.Shelf.Strings.Repeat
import Derived.Test.YtgdmmbibbdhlfaaDoorProg
import Derived.Deep.RegionLaw
import Derived.Deep.AppendLies
import Derived.Laws.OwnMore
/- The program's letters with values: the library's three functions that it calls, alphaLetterOf, sign, value, signOfDigit. -/
namespace Go.Proofs.YtgdmmbibbdhlfaaDoor
open Go.RowKit
set_option linter.unusedVariables false
set_option maxRecDepth 100000
theorem ret_val {a b : Value} (h : a = b) : Ending.returned a = .returned b := by rw [h]
def signsA : ByteArray := ⟨#[97, 98, 99, 100, 101, 102, 103, 104, 105, 106, 107, 108, 109, 110, 111, 112, 113, 114, 115, 116, 117, 118, 119, 120, 121, 122, 42]⟩
/-- the place of a letter, -1 for another byte -/
def ixA (c : Int) : Int := if 97 ≤ c ∧ c ≤ 122 then c - 97 else if c = 42 then 26 else -1
theorem indexByte_signs (c : UInt8) : Lib.indexByte signsA.data.toList c = ixA (c.toNat : Int) := by
  have h : ∀ k, k < 256 → Lib.indexByte signsA.data.toList (UInt8.ofNat k) = ixA ((UInt8.ofNat k).toNat : Int) := by decide +kernel
  have e := h c.toNat c.toNat_lt
  rwa [UInt8.ofNat_toNat] at e
theorem ixA_bd (c : Int) : -1 ≤ ixA c ∧ ixA c ≤ 26 := by unfold ixA; split <;> (try split) <;> omega
theorem av_ix (c : Int) (h : 0 ≤ ixA c) : av c = vl (ixA c).toNat := by
  unfold ixA at *
  split at h
  · rename_i hc
    rw [if_pos hc]
    have e : ∀ k, k < 26 → av ((97 + k : Nat) : Int) = vl k := by decide +kernel
    have := e (c - 97).toNat (by omega)
    rwa [show ((97 + (c - 97).toNat : Nat) : Int) = c by omega] at this
  · split at h
    · rename_i hn hc
      subst hc
      decide
    · omega
theorem av_no (c : Int) (h : ixA c < 0) : av c = 0 := by
  unfold ixA at h
  split at h
  · omega
  · split at h
    · omega
    · unfold av
      repeat (first | omega | split)
theorem av_pos_ix (c : Int) : 0 < av c ↔ 0 ≤ ixA c := by
  constructor
  · intro h
    rcases Int.lt_or_le (ixA c) 0 with h' | h'
    · rw [av_no c h'] at h; omega
    · exact h'
  · intro h
    rw [av_ix c h]
    have := ixA_bd c
    have := (vl_bd (ixA c).toNat (by omega)).1
    omega
/-- alphaLetterOf's answer -/
def letterR (c : Int) : Value := if 0 ≤ ixA c then .tuple #[.int .i64 (ixA c), .bool true] else .tuple #[.int .i64 0, .bool false]
theorem sign_cut : ∀ l, l < 27 → signsA.extract l (l + 1) = ⟨[lt l].toArray⟩ := by
  have h : ∀ l, l < 27 → (signsA.extract l (l + 1)).data = [lt l].toArray := by decide +kernel
  exact fun l hl => ByteArray.ext (h l hl)
theorem aSign_any (l : Nat) (w : World) (h : l < 27) : Calls Tryd.prog 60 #[.int .i64 l] w fun e w' => e = .returned (.string ⟨[lt l].toArray⟩) ∧ w = w' := by
  have H := Lib.hid (sign_cut l h)
  go_enter Tryd.func60, Tryd.ntmps60
  go_wp2
  go_ret
  exact ⟨ret_val (congrArg Value.string H.out), rfl⟩
theorem signOfDigit_any (d p : Nat) (w : World) (hd : d ≤ 9) (hp : p ≤ 2) : Calls Tryd.prog 48 #[.int .i64 d, .int .i64 p] w fun e w' => e = .returned (.string ⟨(dl d p).toArray⟩) ∧ w = w' := by
  unfold dl
  by_cases h : d = 0
  · subst h
    rw [if_pos rfl]
    go_enter Tryd.func48, Tryd.ntmps48
    go_wp2
    go_ret
    exact ⟨rfl, rfl⟩
  · rw [if_neg h]
    have hz : ((d : Int) == 0) = false := by rw [beq_eq_false_iff_ne]; omega
    have He := Lib.hid (show (p : Int) * 9 + d - 1 = ((9 * p + d - 1 : Nat) : Int) by omega)
    clear h
    go_enter Tryd.func48, Tryd.ntmps48
    go_wp2_with fail
    rw [He.out]
    refine (aSign_any _ _ (by omega)).mono ?_
    rintro e w1 ⟨rfl, rfl⟩
    go_wp2_with fail
    go_ret
    exact ⟨rfl, rfl⟩
end Go.Proofs.YtgdmmbibbdhlfaaDoor

/- The program's AlphaOf, sumOfLetters, cutThousands. -/
namespace Go.Proofs.YtgdmmbibbdhlfaaDoor
open Go.RowKit
set_option linter.unusedVariables false
set_option maxRecDepth 100000
theorem signOfDigit_int (d p : Int) (w : World) (h0 : 0 ≤ d) (hd : d ≤ 9) (hp0 : 0 ≤ p) (hp : p ≤ 2) : Calls Tryd.prog 48 #[.int .i64 d, .int .i64 p] w fun e w' => e = .returned (.string ⟨(dl d.toNat p.toNat).toArray⟩) ∧ w = w' := by
  obtain ⟨a, rfl⟩ := Int.eq_ofNat_of_zero_le h0
  obtain ⟨b, rfl⟩ := Int.eq_ofNat_of_zero_le hp0
  exact signOfDigit_any a b w (by omega) (by omega)
/-- AlphaOf's answer -/
def alphaOfR (n : Int) : Value := if 1 ≤ n ∧ n ≤ 9999 then .tuple #[.string ⟨(aof n.toNat).toArray⟩, .bool true] else .tuple #[.string ⟨#[]⟩, .bool false]
theorem dl_int (d p : Int) (a b : Nat) (h1 : d.toNat = a) (h2 : p.toNat = b) : dl d.toNat p.toNat = dl a b := by rw [h1, h2]
set_option maxRecDepth 100000 in
theorem iAlphaOf_nat (n : Nat) (w : World) (hw : AT w) (h1 : 1 ≤ n) (h2 : n ≤ 9999) :
    Calls Tryd.prog 32 #[.int .i64 n] w fun e w' => e = .returned (.tuple #[.string ⟨(aof n).toArray⟩, .bool true]) ∧ w = w' := by
  have Hw := Lib.hid hw; clear hw
  obtain ⟨L0, H0, b0⟩ : ∃ L : List UInt8, Hid (dl ((n : Int) / 1000).toNat (0 : Int).toNat = L) ∧ L.length ≤ 1 := ⟨_, Lib.hid rfl, dl_len _ _⟩
  obtain ⟨L1, H1, b1⟩ : ∃ L : List UInt8, Hid (dl ((n : Int) / 100 % 10).toNat (2 : Int).toNat = L) ∧ L.length ≤ 1 := ⟨_, Lib.hid rfl, dl_len _ _⟩
  obtain ⟨L2, H2, b2⟩ : ∃ L : List UInt8, Hid (dl ((n : Int) / 10 % 10).toNat (1 : Int).toNat = L) ∧ L.length ≤ 1 := ⟨_, Lib.hid rfl, dl_len _ _⟩
  obtain ⟨L3, H3, b3⟩ : ∃ L : List UInt8, Hid (dl ((n : Int) % 10).toNat (0 : Int).toNat = L) ∧ L.length ≤ 1 := ⟨_, Lib.hid rfl, dl_len _ _⟩
  obtain ⟨hd, Hd, b4⟩ : ∃ hd : List UInt8, Hid (hd = if n / 1000 = 0 then [] else 39 :: L0) ∧ hd.length ≤ 2 := ⟨_, Lib.hid rfl, by split <;> simp; omega⟩
  have Hh : Hid (aof n = hd ++ L1 ++ L2 ++ L3) := by
    show _ = _
    rw [Hd.out, ← H0.out, ← H1.out, ← H2.out, ← H3.out, show ((n : Int) / 1000).toNat = n / 1000 by omega, show ((n : Int) / 100 % 10).toNat = n / 100 % 10 by omega, show ((n : Int) / 10 % 10).toNat = n / 10 % 10 by omega, show ((n : Int) % 10).toNat = n % 10 by omega]
    unfold aof
    simp only [List.append_assoc]
    rfl
  have hA : decide ((n : Int) < 1) = false := decide_eq_false (by omega)
  have hB : decide (9999 < (n : Int)) = false := decide_eq_false (by omega)
  rcases Nat.lt_or_ge n 1000 with hc | hc
  all_goals
    have hC : decide (1000 ≤ (n : Int)) = decide (1000 ≤ n) := by simp; omega
    first | rw [show decide (1000 ≤ n) = false from decide_eq_false (by omega)] at hC | rw [show decide (1000 ≤ n) = true from decide_eq_true (by omega)] at hC
    go_enter Tryd.func32, Tryd.ntmps32
    go_wp2_with fail
    try (refine (signOfDigit_int _ _ _ (by omega) (by omega) (by omega) (by omega)).mono ?_; rw [H0.out]; rintro e w1 ⟨rfl, rfl⟩; go_wp2_with fail)
    go_loop [4, 5] (fun t i => ∃ (k : Nat) (tl : List UInt8), k ≤ 3 ∧ tl.length ≤ 2 + k ∧ t = .string ⟨tl.toArray⟩ ∧ i = .int .i64 (2 - (k : Int)) ∧ Hid (tl = if k = 0 then hd else if k = 1 then hd ++ L1 else if k = 2 then hd ++ L1 ++ L2 else hd ++ L1 ++ L2 ++ L3)) (fun _ i => (intOf i + 1).toNat)
    case atStart =>
      refine ⟨0, hd, by omega, by omega, ?_, rfl, Lib.hid rfl⟩
      have e := Hd.out
      first
        | (rw [if_pos (by omega)] at e; subst e; rfl)
        | (rw [if_neg (by omega)] at e; subst e; exact congrArg Value.string (bytes_append [39] _))
    case round =>
      obtain ⟨k, tl, hk, hl, rfl, rfl, Ht⟩ := hrel
      have hr0 := Hw.out.2 0 (by omega)
      have hr1 := Hw.out.2 1 (by omega)
      have hr2 := Hw.out.2 2 (by omega)
      simp only [rkv, List.getD_cons_zero, List.getD_cons_succ] at hr0 hr1 hr2
      rcases (show k = 0 ∨ k = 1 ∨ k = 2 ∨ k = 3 by omega) with rfl | rfl | rfl | rfl
      · go_wp2_with fail
        refine (signOfDigit_int _ _ _ (by omega) (by omega) (by omega) (by omega)).mono ?_
        rw [H1.out]
        rintro e w1 ⟨rfl, rfl⟩
        go_wp2_with fail
        go_round
        case rel => exact ⟨1, tl ++ L1, by omega, by simp; omega, by rw [bytes_append], rfl, Lib.hid (by rw [Ht.out]; rfl)⟩
        case measure => simp [intOf]
      · go_wp2_with fail
        refine (signOfDigit_int _ _ _ (by omega) (by omega) (by omega) (by omega)).mono ?_
        rw [H2.out]
        rintro e w1 ⟨rfl, rfl⟩
        go_wp2_with fail
        go_round
        case rel => exact ⟨2, tl ++ L2, by omega, by simp; omega, by rw [bytes_append], rfl, Lib.hid (by rw [Ht.out]; rfl)⟩
        case measure => simp [intOf]
      · go_wp2_with fail
        refine (signOfDigit_int _ _ _ (by omega) (by omega) (by omega) (by omega)).mono ?_
        rw [H3.out]
        rintro e w1 ⟨rfl, rfl⟩
        go_wp2_with fail
        go_round
        case rel => exact ⟨3, tl ++ L3, by omega, by simp; omega, by rw [bytes_append], rfl, Lib.hid (by rw [Ht.out]; rfl)⟩
        case measure => simp [intOf]
      · go_wp2_with fail
        go_ret2
        exact ⟨ret_bytes_yes (by rw [Hh.out, Ht.out]; rfl), rfl⟩
theorem iAlphaOf_any (n : Int) (w : World) (hw : AT w) : Calls Tryd.prog 32 #[.int .i64 n] w fun e w' => e = .returned (alphaOfR n) ∧ w = w' := by
  unfold alphaOfR
  by_cases h : 1 ≤ n ∧ n ≤ 9999
  · rw [if_pos h]
    obtain ⟨k, rfl⟩ := Int.eq_ofNat_of_zero_le (show 0 ≤ n by omega)
    exact iAlphaOf_nat k w hw (by omega) (by omega)
  · rw [if_neg h]
    clear hw
    by_cases h1 : n < 1
    · clear h
      go_enter Tryd.func32, Tryd.ntmps32
      go_wp2
      go_ret2
      exact ⟨rfl, rfl⟩
    · have h2 : 9999 < n := by omega
      clear h
      go_enter Tryd.func32, Tryd.ntmps32
      go_wp2
      go_ret2
      exact ⟨rfl, rfl⟩
/-- sumOfLetters' answer -/
def sumLR (l : List UInt8) : Value := if okA l = true then .tuple #[.int .i64 (asum l), .bool true] else .tuple #[.int .i64 0, .bool false]
end Go.Proofs.YtgdmmbibbdhlfaaDoor

/- The program's cutThousands, AlphaRead, AlphaSum, AlphaSame, AlphaNines, AlphaAdd. -/
namespace Go.Proofs.YtgdmmbibbdhlfaaDoor
open Go.RowKit
set_option linter.unusedVariables false
set_option maxRecDepth 100000
theorem ext01 (c : UInt8) (r : List UInt8) : ((⟨(c :: r).toArray⟩ : ByteArray).extract 0 1).toList = [c] := by
  rw [Lib.extract_toList]; rfl
theorem ext1 (c : UInt8) (r : List UInt8) : (⟨(c :: r).toArray⟩ : ByteArray).extract 1 (r.length + 1) = ⟨r.toArray⟩ := by
  rw [Lib.extract_eq]
  congr 1
  simp
theorem AT.drewN {w : World} (h : AT w) (n : Nat) : AT (w.drewN n) := h.step (bel_drewN (Below.refl _ _) n)
/-- cutThousands' answer -/
def cutR : List UInt8 → Value
  | [] => .tuple #[.int .i64 0, .string ⟨#[]⟩, .bool true]
  | c :: r => if c ≠ 39 then .tuple #[.int .i64 0, .string ⟨(c :: r).toArray⟩, .bool true] else match r with
    | [] => .tuple #[.int .i64 0, .string ⟨#[]⟩, .bool false]
    | d :: q => if 0 < av (d.toNat : Int) then .tuple #[.int .i64 (1000 * av (d.toNat : Int)), .string ⟨q.toArray⟩, .bool true] else .tuple #[.int .i64 0, .string ⟨#[]⟩, .bool false]
theorem cutR_other (c : UInt8) (r : List UInt8) (h : c ≠ 39) : cutR (c :: r) = .tuple #[.int .i64 0, .string ⟨(c :: r).toArray⟩, .bool true] := by
  show (if c ≠ 39 then _ else _) = _
  rw [if_pos h]
theorem cutR_one : cutR [39] = .tuple #[.int .i64 0, .string ⟨#[]⟩, .bool false] := rfl
theorem cutR_two (d : UInt8) (q : List UInt8) : cutR (39 :: d :: q) = if 0 < av (d.toNat : Int) then .tuple #[.int .i64 (1000 * av (d.toNat : Int)), .string ⟨q.toArray⟩, .bool true] else .tuple #[.int .i64 0, .string ⟨#[]⟩, .bool false] := rfl
/-- AlphaRead's answer -/
def alphaReadR (l : List UInt8) : Value := if isA l = true then .tuple #[.int .i64 (rdA l), .bool true] else .tuple #[.int .i64 0, .bool false]
theorem alphaReadR_no (l : List UInt8) (h : ¬ (okA l = true ∨ ∃ c r, l = 39 :: c :: r ∧ okA (c :: r) = true)) : alphaReadR l = .tuple #[.int .i64 0, .bool false] := by
  unfold alphaReadR
  rw [if_neg fun h' => h (isA_shape l h')]
/-- AlphaSum's answer -/
def alphaSumR (l : List UInt8) : Value := if 1 ≤ l.length ∧ l.length ≤ 20 ∧ okA l = true then .tuple #[.int .i64 (asum l), .bool true] else .tuple #[.int .i64 0, .bool false]
/-- is it a word? -/
def isW (l : List UInt8) : Bool := decide (1 ≤ l.length ∧ l.length ≤ 20 ∧ okA l = true)
theorem alphaSumR_yes (l : List UInt8) (h : isW l = true) : alphaSumR l = .tuple #[.int .i64 (asum l), .bool true] := by unfold alphaSumR; rw [if_pos (of_decide_eq_true h)]
theorem alphaSumR_no (l : List UInt8) (h : isW l = false) : alphaSumR l = .tuple #[.int .i64 0, .bool false] := by unfold alphaSumR; rw [if_neg (of_decide_eq_false h)]
theorem isW_bd (l : List UInt8) (h : isW l = true) : 1 ≤ asum l ∧ asum l ≤ 18000 := by
  obtain ⟨h1, h2, h3⟩ := of_decide_eq_true h
  have := asum_pos l h3
  have := asum_bd l
  omega
/-- AlphaSame's answer -/
def sameB (v u : List UInt8) : Bool := isW v && (isW u && decide (asum v = asum u))
/-- AlphaNines' answer -/
def ninesR (l : List UInt8) : Value := if isW l = true then .tuple #[.int .i64 ((asum l - 1) % 9 + 1), .bool true] else .tuple #[.int .i64 0, .bool false]
/-- AlphaAdd's answer -/
def alphaAddR (s t : List UInt8) : Value := if isA s = true ∧ isA t = true then alphaOfR (rdA s + rdA t) else .tuple #[.string ⟨#[]⟩, .bool false]
theorem alphaReadR_yes (l : List UInt8) (h : isA l = true) : alphaReadR l = .tuple #[.int .i64 (rdA l), .bool true] := by unfold alphaReadR; rw [if_pos h]
theorem alphaReadR_not (l : List UInt8) (h : ¬ isA l = true) : alphaReadR l = .tuple #[.int .i64 0, .bool false] := by unfold alphaReadR; rw [if_neg h]
theorem alphaOfR_two (n : Int) : ∃ (s : ByteArray) (b : Bool), alphaOfR n = .tuple #[.string s, .bool b] := by
  unfold alphaOfR; split
  · exact ⟨_, _, rfl⟩
  · exact ⟨_, _, rfl⟩
end Go.Proofs.YtgdmmbibbdhlfaaDoor

/- The model's chapter 3 but AlphaLeast: l3Value, l3Letter, l3Of, AlphaOf, AlphaRead, AlphaSum, AlphaSame, AlphaNines, AlphaAdd. -/
namespace Go.Proofs.YtgdmmbibbdhlfaaDoor
open Go.RowKit
set_option linter.unusedVariables false
set_option maxRecDepth 100000
theorem conv_one (w : World) (b : UInt8) (x : Int) (hx : x = (b.toNat : Int)) : (convert 22 9 (.slice (some ⟨w.heap.size, 0, none⟩) 1 1)).run Tryd.prog (w.alloc (.cells #[.int .u8 x] 5)) = .ok (.string ⟨[b].toArray⟩) (w.alloc (.cells #[.int .u8 x] 5)) := by
  subst hx
  refine run_convert_bytes_back (P := Tryd.prog) _ 22 9 5 ⟨w.heap.size, 0, none⟩ 1 [b] Tryd.underlying22 Tryd.underlying5 Tryd.underlying9 ?_
  intro j hj
  obtain rfl : j = 0 := by simp at hj; omega
  exact cell_at (heap_alloc_new w (.cells #[.int .u8 (b.toNat : Int)] 5)) rfl
theorem lt_toNat (i : Nat) (h : i < 26) : ((lt i).toNat : Int) = 97 + i := by
  unfold lt
  rw [if_pos h, UInt8.toNat_ofNat']
  omega
theorem l3Letter_any (d p : Nat) (w : World) (hd : d ≤ 9) (hp : p ≤ 2) : Calls Tryd.prog 57 #[.int .i64 d, .int .i64 p] w fun e w' => e = .returned (.string ⟨(dl d p).toArray⟩) ∧ Below w.heap.size w w' := by
  unfold dl
  by_cases h : d = 0
  · subst h
    rw [if_pos rfl]
    go_enter Tryd.func57, Tryd.ntmps57
    go_wp2
    go_ret
    exact ⟨rfl, Below.refl _ _⟩
  · rw [if_neg h]
    have hz : ((d : Int) == 0) = false := by rw [beq_eq_false_iff_ne]; omega
    rcases (show (p = 2 ∧ d = 9) ∨ (p = 2 ∧ d ≠ 9) ∨ p = 0 ∨ p = 1 by omega) with ⟨rfl, rfl⟩ | ⟨rfl, h9⟩ | rfl | rfl
    · clear h hz
      go_enter Tryd.func57, Tryd.ntmps57
      go_wp2
      go_ret
      exact ⟨rfl, Below.refl _ _⟩
    · have hz2 : ((d : Int) == 9) = false := by rw [beq_eq_false_iff_ne]; omega
      have hcv := conv_one w (lt (9 * 2 + d - 1)) (115 + d - 1) (by rw [lt_toNat _ (by omega)]; omega)
      clear h h9
      go_enter Tryd.func57, Tryd.ntmps57
      go_wp2
      go_ret
      exact ⟨ret_bytes (by rw [show 9 * 2 + d - 1 = 17 + d by omega]), (Below.refl _ _).alloc (Nat.le_refl _) _⟩
    · have hcv := conv_one w (lt (9 * 0 + d - 1)) (97 + d - 1) (by rw [lt_toNat _ (by omega)]; omega)
      clear h
      go_enter Tryd.func57, Tryd.ntmps57
      go_wp2
      go_ret
      exact ⟨ret_bytes (by rw [show 9 * 0 + d - 1 = d - 1 by omega]), (Below.refl _ _).alloc (Nat.le_refl _) _⟩
    · have hcv := conv_one w (lt (9 * 1 + d - 1)) (106 + d - 1) (by rw [lt_toNat _ (by omega)]; omega)
      clear h
      go_enter Tryd.func57, Tryd.ntmps57
      go_wp2
      go_ret
      exact ⟨ret_bytes (by rw [show 9 * 1 + d - 1 = 8 + d by omega]), (Below.refl _ _).alloc (Nat.le_refl _) _⟩
theorem l3Letter_int (d p : Int) (w : World) (h0 : 0 ≤ d) (hd : d ≤ 9) (hp0 : 0 ≤ p) (hp : p ≤ 2) : Calls Tryd.prog 57 #[.int .i64 d, .int .i64 p] w fun e w' => e = .returned (.string ⟨(dl d.toNat p.toNat).toArray⟩) ∧ Below w.heap.size w w' := by
  obtain ⟨a, rfl⟩ := Int.eq_ofNat_of_zero_le h0
  obtain ⟨b, rfl⟩ := Int.eq_ofNat_of_zero_le hp0
  exact l3Letter_any a b w (by omega) (by omega)
theorem l3Of_nat (n : Nat) (w : World) (h2 : n ≤ 9999) :
    Calls Tryd.prog 41 #[.int .i64 n] w fun e w' => e = .returned (.string ⟨(aof n).toArray⟩) ∧ Below w.heap.size w w' := by
  obtain ⟨L0, H0, b0⟩ : ∃ L : List UInt8, Hid (dl ((n : Int) / 1000).toNat (0 : Int).toNat = L) ∧ L.length = (if n / 1000 = 0 then 0 else 1) := ⟨_, Lib.hid rfl, by rw [dl_len_eq, show ((n : Int) / 1000).toNat = n / 1000 by omega]⟩
  obtain ⟨L1, H1, b1⟩ : ∃ L : List UInt8, Hid (dl ((n : Int) / 100 % 10).toNat (2 : Int).toNat = L) ∧ L.length ≤ 1 := ⟨_, Lib.hid rfl, dl_len _ _⟩
  obtain ⟨L2, H2, b2⟩ : ∃ L : List UInt8, Hid (dl ((n : Int) / 10 % 10).toNat (1 : Int).toNat = L) ∧ L.length ≤ 1 := ⟨_, Lib.hid rfl, dl_len _ _⟩
  obtain ⟨L3, H3, b3⟩ : ∃ L : List UInt8, Hid (dl ((n : Int) % 10).toNat (0 : Int).toNat = L) ∧ L.length ≤ 1 := ⟨_, Lib.hid rfl, dl_len _ _⟩
  have Hh : Hid (aof n = (if n / 1000 = 0 then [] else 39 :: L0) ++ L1 ++ L2 ++ L3) := by
    show _ = _
    rw [← H0.out, ← H1.out, ← H2.out, ← H3.out, show ((n : Int) / 1000).toNat = n / 1000 by omega, show ((n : Int) / 100 % 10).toNat = n / 100 % 10 by omega, show ((n : Int) / 10 % 10).toNat = n / 10 % 10 by omega, show ((n : Int) % 10).toNat = n % 10 by omega]
    unfold aof
    simp only [List.append_assoc]
    rfl
  by_cases hc : n / 1000 = 0
  · rw [if_pos hc] at b0 Hh
    obtain rfl : L0 = [] := List.eq_nil_of_length_eq_zero b0
    go_enter Tryd.func41, Tryd.ntmps41
    go_wp2_with fail
    refine (l3Letter_int _ _ _ (by omega) (by omega) (by omega) (by omega)).mono ?_
    rw [H0.out]
    rintro e w1 ⟨rfl, g1⟩
    go_wp2_with fail
    refine (l3Letter_int _ _ _ (by omega) (by omega) (by omega) (by omega)).mono ?_
    rw [H1.out]
    rintro e w2 ⟨rfl, g2⟩
    go_wp2_with fail
    refine (l3Letter_int _ _ _ (by omega) (by omega) (by omega) (by omega)).mono ?_
    rw [H2.out]
    rintro e w3 ⟨rfl, g3⟩
    go_wp2_with fail
    refine (l3Letter_int _ _ _ (by omega) (by omega) (by omega) (by omega)).mono ?_
    rw [H3.out]
    rintro e w4 ⟨rfl, g4⟩
    go_wp2_with fail
    go_ret
    exact ⟨ret_bytes (by rw [Hh.out]; simp [bytes_append]), bel_chain (bel_chain g1 g2) (bel_chain g3 g4)⟩
  · rw [if_neg hc] at b0 Hh
    have hne : (L0 == []) = false := by rw [beq_eq_false_iff_ne]; intro e; subst e; simp at b0
    have Hc := Lib.hid hc; clear hc
    go_enter Tryd.func41, Tryd.ntmps41
    go_wp2_with fail
    refine (l3Letter_int _ _ _ (by omega) (by omega) (by omega) (by omega)).mono ?_
    rw [H0.out]
    rintro e w1 ⟨rfl, g1⟩
    go_wp2_with fail
    refine (l3Letter_int _ _ _ (by omega) (by omega) (by omega) (by omega)).mono ?_
    rw [H1.out]
    rintro e w2 ⟨rfl, g2⟩
    go_wp2_with fail
    refine (l3Letter_int _ _ _ (by omega) (by omega) (by omega) (by omega)).mono ?_
    rw [H2.out]
    rintro e w3 ⟨rfl, g3⟩
    go_wp2_with fail
    refine (l3Letter_int _ _ _ (by omega) (by omega) (by omega) (by omega)).mono ?_
    rw [H3.out]
    rintro e w4 ⟨rfl, g4⟩
    go_wp2_with fail
    go_ret
    exact ⟨ret_bytes (by rw [show (⟨#[39]⟩ : ByteArray) = ⟨[39].toArray⟩ from rfl]; simp only [bytes_append]; rw [Hh.out]; rfl), bel_chain (bel_chain g1 g2) (bel_chain g3 g4)⟩
theorem l3Of_int (n : Int) (w : World) (h0 : 0 ≤ n) (h2 : n ≤ 9999) : Calls Tryd.prog 41 #[.int .i64 n] w fun e w' => e = .returned (.string ⟨(aof n.toNat).toArray⟩) ∧ Below w.heap.size w w' := by
  obtain ⟨k, rfl⟩ := Int.eq_ofNat_of_zero_le h0
  exact l3Of_nat k w (by omega)
theorem sAlphaOf_any (n : Int) (w : World) : Calls Tryd.prog 24 #[.int .i64 n] w fun e w' => e = .returned (alphaOfR n) ∧ Below w.heap.size w w' := by
  unfold alphaOfR
  by_cases h : 1 ≤ n ∧ n ≤ 9999
  · rw [if_pos h]
    obtain ⟨h1, h2⟩ := h
    go_enter Tryd.func24, Tryd.ntmps24
    go_wp2_with fail
    refine (l6In_any _ _ _ _).mono ?_
    rintro e w1 ⟨rfl, rfl⟩
    rw [show (decide (1 ≤ n ∧ n ≤ 9999)) = true from decide_eq_true ⟨h1, h2⟩]
    go_wp2_with fail
    refine (l3Of_int _ _ (by omega) (by omega)).mono ?_
    rintro e w1 ⟨rfl, g1⟩
    go_wp2_with fail
    go_ret2
    exact ⟨rfl, g1⟩
  · rw [if_neg h]
    have H := Lib.hid h; clear h
    go_enter Tryd.func24, Tryd.ntmps24
    go_wp2_with fail
    refine (l6In_any _ _ _ _).mono ?_
    rintro e w1 ⟨rfl, rfl⟩
    rw [show (decide (1 ≤ n ∧ n ≤ 9999)) = false from decide_eq_false H.out]
    go_wp2_with fail
    go_ret2
    exact ⟨rfl, Below.refl _ _⟩
end Go.Proofs.YtgdmmbibbdhlfaaDoor

/- Chapter 4, plain: the readings of a pressed text. -/
namespace Go.Proofs.YtgdmmbibbdhlfaaDoor
set_option linter.unusedVariables false
set_option maxRecDepth 100000
/-- a text without its spaces -/
def bare (l : List UInt8) : List UInt8 := l.filter (fun c => c != 32)
/-- the digits of a number -/
def digs (n : Nat) : List Nat := if _h : n < 60 then [n] else digs (n / 60) ++ [n % 60]
termination_by n
decreasing_by omega
theorem digs_low (n : Nat) (h : n < 60) : digs n = [n] := by rw [digs, dif_pos h]
theorem digs_high (n : Nat) (h : ¬ n < 60) : digs n = digs (n / 60) ++ [n % 60] := by rw [digs, dif_neg h]
def dfold (n : Nat) (ds : List Nat) : Nat := ds.foldl (fun a d => 60 * a + d) n
theorem digs_fold (n : Nat) : dfold 0 (digs n) = n := by
  induction n using Nat.strongRecOn with
  | ind n ih =>
    by_cases h : n < 60
    · rw [digs_low n h]; unfold dfold; simp
    · rw [digs_high n h]
      have e := ih (n / 60) (by omega)
      unfold dfold at *
      rw [List.foldl_append, e]
      simp only [List.foldl_cons, List.foldl_nil]
      omega
theorem fold_digs (r : List Nat) : ∀ n, 1 ≤ n → (∀ d ∈ r, d < 60) → digs (dfold n r) = digs n ++ r := by
  induction r with
  | nil => intro n _ _; simp [dfold]
  | cons d r ih =>
    intro n hn hd
    have h1 := hd d (by simp)
    show digs (dfold (60 * n + d) r) = _
    rw [ih (60 * n + d) (by omega) (fun e he => hd e (by simp [he])), digs_high _ (by omega), show (60 * n + d) / 60 = n by omega, show (60 * n + d) % 60 = d by omega]
    simp
theorem fold_digs0 (d : Nat) (r : List Nat) (h1 : 1 ≤ d) (h2 : d < 60) (h : ∀ e ∈ r, e < 60) : digs (dfold 0 (d :: r)) = d :: r := by
  show digs (dfold (60 * 0 + d) r) = _
  rw [fold_digs r _ (by omega) h, digs_low _ (by omega)]
  simp
theorem digs_lt (n : Nat) : ∀ d ∈ digs n, d < 60 := by
  induction n using Nat.strongRecOn with
  | ind n ih =>
    intro d hd
    by_cases h : n < 60
    · rw [digs_low n h] at hd; simp at hd; omega
    · rw [digs_high n h] at hd
      rcases List.mem_append.1 hd with hd | hd
      · exact ih (n / 60) (by omega) d hd
      · simp at hd; omega
theorem digs_ne (n : Nat) : digs n ≠ [] := by
  by_cases h : n < 60
  · rw [digs_low n h]; simp
  · rw [digs_high n h]; simp
theorem many_mem (c : UInt8) (k : Nat) : ∀ x ∈ (many [c] k), x = c := by
  intro x hx
  unfold many at hx
  simp at hx
  exact hx.2
theorem cdig_mem (d : Nat) : ∀ c ∈ cdig d, (d = 0 ∧ c = 46) ∨ (d ≠ 0 ∧ (c = 60 ∨ c = 89)) := by
  intro c hc
  unfold cdig at hc
  split at hc
  · rename_i h; simp at hc; exact .inl ⟨h, hc⟩
  · rename_i h
    rcases List.mem_append.1 hc with hc | hc
    · exact .inr ⟨h, .inl (many_mem 60 _ c hc)⟩
    · exact .inr ⟨h, .inr (many_mem 89 _ c hc)⟩
theorem bare_cdig (d : Nat) : bare (cdig d) = cdig d := by
  unfold bare
  rw [List.filter_eq_self]
  intro c hc
  rcases cdig_mem d c hc with ⟨_, rfl⟩ | ⟨_, rfl | rfl⟩ <;> decide
theorem bare_clay (n : Nat) : bare (clay n) = (digs n).flatMap cdig := by
  induction n using Nat.strongRecOn with
  | ind n ih =>
    by_cases h : n < 60
    · rw [clay_low n h, digs_low n h, bare_cdig]; simp
    · rw [clay_high n h, digs_high n h]
      have e := ih (n / 60) (by omega)
      have e2 := bare_cdig (n % 60)
      unfold bare at *
      rw [List.filter_append, e, List.flatMap_append, List.filter_cons_of_neg (by decide), e2]
      simp
theorem clay_dot (n : Nat) : (46 : UInt8) ∈ clay n ↔ 0 ∈ digs n := by
  have hd : ∀ d, (46 : UInt8) ∈ cdig d ↔ d = 0 := fun d => by
    constructor
    · intro h
      rcases cdig_mem d 46 h with h | ⟨_, h | h⟩
      · exact h.1
      · exact absurd h (by decide)
      · exact absurd h (by decide)
    · rintro rfl; simp [cdig]
  induction n using Nat.strongRecOn with
  | ind n ih =>
    by_cases h : n < 60
    · rw [clay_low n h, digs_low n h, hd]
      constructor
      · rintro rfl; simp
      · intro h; simp at h; omega
    · have e : (46 : UInt8) ∈ clay (n / 60) ↔ 0 ∈ digs (n / 60) := ih (n / 60) (by omega)
      rw [clay_high n h, digs_high n h, List.mem_append, List.mem_append, List.mem_cons, hd, e]
      constructor
      · rintro (h | h | h)
        · exact .inl h
        · exact absurd h (by decide)
        · exact .inr (by simp [h])
      · rintro (h | h)
        · exact .inl h
        · refine .inr (.inr ?_)
          simp at h
          omega
theorem digs_len (n : Nat) : (digs n).length ≤ 3 ↔ n ≤ 215999 := by
  by_cases h1 : n < 60
  · rw [digs_low n h1]; simp; omega
  · rw [digs_high n h1]
    by_cases h2 : n / 60 < 60
    · rw [digs_low _ h2]; simp; omega
    · rw [digs_high _ h2]
      by_cases h3 : n / 60 / 60 < 60
      · rw [digs_low _ h3]; simp; omega
      · rw [digs_high _ h3]
        have := digs_ne (n / 60 / 60 / 60)
        have h4 : 1 ≤ (digs (n / 60 / 60 / 60)).length := List.length_pos_iff.2 this
        simp only [List.length_append, List.length_cons, List.length_nil]
        omega
/-- a reading of a text -/
def isRd (s : List UInt8) (x : Nat) : Bool := decide (1 ≤ x) && decide ((46 : UInt8) ∉ clay x) && decide (bare (clay x) = s)
/-- all readings -/
def rds (s : List UInt8) : List Nat := (List.range 216000).filter (isRd s)
theorem mem_rds (s : List UInt8) (x : Nat) : x ∈ rds s ↔ x ≤ 215999 ∧ isRd s x = true := by
  unfold rds
  rw [List.mem_filter, List.mem_range]
  constructor <;> (rintro ⟨h1, h2⟩; exact ⟨by omega, h2⟩)
theorem isRd_iff (s : List UInt8) (x : Nat) : isRd s x = true ↔ 1 ≤ x ∧ 0 ∉ digs x ∧ (digs x).flatMap cdig = s := by
  unfold isRd
  rw [Bool.and_eq_true, Bool.and_eq_true, decide_eq_true_eq, decide_eq_true_eq, decide_eq_true_eq, clay_dot, bare_clay, and_assoc]
theorem rds_asc (s : List UInt8) : (rds s).Pairwise (· < ·) := List.Pairwise.filter _ List.pairwise_lt_range
/-- two ascending lists with the same members -/
theorem asc_unique : ∀ (a b : List Nat), a.Pairwise (· < ·) → b.Pairwise (· < ·) → (∀ x, x ∈ a ↔ x ∈ b) → a = b
  | [], [], _, _, _ => rfl
  | [], y :: b, _, _, h => absurd ((h y).2 (by simp)) (by simp)
  | x :: a, [], _, _, h => absurd ((h x).1 (by simp)) (by simp)
  | x :: a, y :: b, ha, hb, h => by
    obtain ⟨ha1, ha2⟩ := List.pairwise_cons.1 ha
    obtain ⟨hb1, hb2⟩ := List.pairwise_cons.1 hb
    have hxy : x = y := by
      rcases List.mem_cons.1 ((h x).1 (by simp)) with e | e
      · exact e
      · rcases List.mem_cons.1 ((h y).2 (by simp)) with e' | e'
        · exact e'.symm
        · have := ha1 y e'; have := hb1 x e; omega
    subst hxy
    rw [asc_unique a b ha2 hb2 (fun z => ?_)]
    constructor
    · intro hz
      rcases List.mem_cons.1 ((h z).1 (by simp [hz])) with e | e
      · have := ha1 z hz; omega
      · exact e
    · intro hz
      rcases List.mem_cons.1 ((h z).2 (by simp [hz])) with e | e
      · have := hb1 z hz; omega
      · exact e
/-- the digits that a text can be cut into, f at most, one after another -/
def prts : Nat → List UInt8 → Nat → List Nat
  | _, [], n => [n]
  | 0, _ :: _, _ => []
  | f + 1, c :: s, n => (List.range 59).flatMap fun j => if (cdig (j + 1)) <+: (c :: s) then prts f ((c :: s).drop (cdig (j + 1)).length) (60 * n + (j + 1)) else []
theorem mem_prts (f : Nat) : ∀ (s : List UInt8) (n x : Nat), x ∈ prts f s n ↔ ∃ ds : List Nat, ds.length ≤ f ∧ (∀ d ∈ ds, 1 ≤ d ∧ d < 60) ∧ ds.flatMap cdig = s ∧ x = dfold n ds := by
  have hne : ∀ d, 1 ≤ d → d < 60 → cdig d ≠ [] := fun d h1 h2 h => by have := cdig_len d h2; rw [h] at this; simp at this
  have hnil : ∀ (f n x : Nat), x ∈ ([n] : List Nat) ↔ ∃ ds : List Nat, ds.length ≤ f ∧ (∀ d ∈ ds, 1 ≤ d ∧ d < 60) ∧ ds.flatMap cdig = [] ∧ x = dfold n ds := fun f n x => by
    constructor
    · intro h
      exact ⟨[], by simp, by simp, by simp, by simpa [dfold] using h⟩
    · rintro ⟨ds, h1, h2, h3, h4⟩
      cases ds with
      | nil => simpa [dfold] using h4
      | cons d r =>
        simp only [List.flatMap_cons, List.append_eq_nil_iff] at h3
        exact absurd h3.1 (hne d (h2 d (by simp)).1 (h2 d (by simp)).2)
  induction f with
  | zero =>
    intro s n x
    cases s with
    | nil => simp only [prts]; exact hnil 0 n x
    | cons c s =>
      simp only [prts, List.not_mem_nil, false_iff]
      rintro ⟨ds, h1, h2, h3, h4⟩
      have : ds = [] := List.length_eq_zero_iff.1 (by omega)
      subst this
      simp at h3
  | succ f ih =>
    intro s n x
    cases s with
    | nil => simp only [prts]; exact hnil (f + 1) n x
    | cons c s =>
      simp only [prts, List.mem_flatMap, List.mem_range]
      constructor
      · rintro ⟨j, hj, hx⟩
        split at hx
        · rename_i hp
          obtain ⟨t, ht⟩ := hp
          rw [← ht, List.drop_left, ih] at hx
          obtain ⟨ds, h1, h2, h3, h4⟩ := hx
          refine ⟨(j + 1) :: ds, by simp; omega, ?_, ?_, h4⟩
          · intro d hd
            rcases List.mem_cons.1 hd with rfl | hd
            · omega
            · exact h2 d hd
          · rw [List.flatMap_cons, h3, ht]
        · cases hx
      · rintro ⟨ds, h1, h2, h3, h4⟩
        cases ds with
        | nil => simp at h3
        | cons d r =>
          have hd := h2 d (by simp)
          rw [List.flatMap_cons] at h3
          refine ⟨d - 1, by omega, ?_⟩
          rw [show d - 1 + 1 = d by omega, if_pos ⟨_, h3⟩, ← h3, List.drop_left, ih]
          exact ⟨r, by simp at h1; omega, fun e he => h2 e (by simp [he]), rfl, h4⟩
theorem mem_prts0 (s : List UInt8) (hs : s ≠ []) (x : Nat) : x ∈ prts 3 s 0 ↔ x ∈ rds s := by
  rw [mem_prts, mem_rds, isRd_iff]
  constructor
  · rintro ⟨ds, h1, h2, h3, rfl⟩
    cases ds with
    | nil => exact absurd h3.symm (by simpa using hs)
    | cons d r =>
      have hd := h2 d (by simp)
      have e := fold_digs0 d r hd.1 hd.2 (fun e he => (h2 e (by simp [he])).2)
      refine ⟨(digs_len _).1 (by rw [e]; exact h1), ?_, ?_, by rw [e]; exact h3⟩
      · have : ∀ (r : List Nat) n, n ≤ dfold n r := fun r => by
          induction r with
          | nil => exact fun n => Nat.le_refl n
          | cons d r ih => intro n; have := ih (60 * n + d); show n ≤ dfold (60 * n + d) r; omega
        have := this r (60 * 0 + d)
        show 1 ≤ dfold (60 * 0 + d) r
        omega
      · rw [e]
        intro h0
        have := h2 0 h0
        omega
  · rintro ⟨h1, h2, h3, h4⟩
    refine ⟨digs x, (digs_len x).2 h1, fun d hd => ⟨?_, digs_lt x d hd⟩, h4, (digs_fold x).symm⟩
    rcases Nat.eq_zero_or_pos d with rfl | h
    · exact absurd hd h3
    · exact h
theorem digs_snoc (n d : Nat) (h1 : 1 ≤ d) (h2 : d < 60) : digs (60 * n + d) = (if n = 0 then [] else digs n) ++ [d] := by
  split
  · rename_i h; subst h; rw [digs_low _ (by omega)]; simp
  · rename_i h
    rw [digs_high _ (by omega), show (60 * n + d) / 60 = n by omega, show (60 * n + d) % 60 = d by omega]
/-- no number stands twice -/
theorem prts_nodup (f : Nat) : ∀ (s : List UInt8) (n : Nat), (prts f s n).Pairwise (· ≠ ·) := by
  induction f with
  | zero =>
    intro s n
    cases s with
    | nil => simp [prts]
    | cons c s => simp [prts]
  | succ f ih =>
    intro s n
    cases s with
    | nil => simp [prts]
    | cons c s =>
      simp only [prts]
      rw [List.pairwise_flatMap]
      refine ⟨fun j hj => ?_, ?_⟩
      · split
        · exact ih _ _
        · exact List.Pairwise.nil
      · have key : ∀ j, j ∈ List.range 59 → ∀ x, x ∈ (if (cdig (j + 1)) <+: (c :: s) then prts f ((c :: s).drop (cdig (j + 1)).length) (60 * n + (j + 1)) else []) → ∃ r, digs x = (if n = 0 then [] else digs n) ++ (j + 1) :: r := by
          intro j hj x hx
          have hj' := List.mem_range.1 hj
          split at hx
          · rw [mem_prts] at hx
            obtain ⟨ds, h1, h2, h3, rfl⟩ := hx
            refine ⟨ds, ?_⟩
            rw [fold_digs ds _ (by omega) (fun d hd => (h2 d hd).2), digs_snoc n (j + 1) (by omega) (by omega)]
            simp
          · cases hx
        refine List.Pairwise.imp_of_mem ?_ (List.pairwise_lt_range (n := 59))
        intro j k hj hk hlt x hx y hy e
        obtain ⟨r, hr⟩ := key j hj x hx
        obtain ⟨t, ht⟩ := key k hk y hy
        rw [e, ht] at hr
        have := List.append_cancel_left hr
        simp at this
        omega
/-- x is put into an ascending list -/
theorem asc_insert (l : List Nat) (x k : Nat) (hl : l.Pairwise (· < ·)) (hk : k ≤ l.length) (hx : x ∉ l) (h1 : ∀ y ∈ l.take k, y ≤ x) (h2 : ∀ y ∈ l.drop k, x < y) : (l.take k ++ x :: l.drop k).Pairwise (· < ·) := by
  have hs : l.take k ++ l.drop k = l := List.take_append_drop k l
  have hp := hl
  rw [← hs, List.pairwise_append] at hp
  obtain ⟨p1, p2, p3⟩ := hp
  rw [List.pairwise_append, List.pairwise_cons]
  refine ⟨p1, ⟨h2, p2⟩, fun a ha b hb => ?_⟩
  rcases List.mem_cons.1 hb with rfl | hb
  · have := h1 a ha
    have : a ≠ b := fun e => hx (by rw [← e]; exact List.mem_of_mem_take ha)
    omega
  · exact p3 a ha b hb
theorem mem_insert (l : List Nat) (x k : Nat) (z : Nat) : z ∈ l.take k ++ x :: l.drop k ↔ z = x ∨ z ∈ l := by
  conv => rhs; rw [← List.take_append_drop k l]
  simp only [List.mem_append, List.mem_cons]
  constructor
  · rintro (h | h | h)
    · exact .inr (.inl h)
    · exact .inl h
    · exact .inr (.inr h)
  · rintro (h | h | h)
    · exact .inr (.inl h)
    · exact .inl h
    · exact .inr (.inr h)
end Go.Proofs.YtgdmmbibbdhlfaaDoor

/- The model's chapter 4 (package spec): l4Digit, l4Of, PlaceOf, PlaceRead. -/
namespace Go.Proofs.YtgdmmbibbdhlfaaDoor
open Go.RowKit
set_option linter.unusedVariables false
set_option maxRecDepth 100000
theorem l4Digit_nat (d : Nat) (w : World) (h : d < 60) : Calls Tryd.prog 58 #[.int .i64 d] w fun e w' => e = .returned (.string ⟨(cdig d).toArray⟩) ∧ w = w' := by
  by_cases hz : d = 0
  · subst hz
    go_enter Tryd.func58, Tryd.ntmps58
    go_wp2
    go_ret
    exact ⟨rfl, rfl⟩
  · have hq : ((d : Int) == 0) = false := by rw [beq_eq_false_iff_ne]; omega
    obtain ⟨L1, H1, b1⟩ : ∃ L : List UInt8, Hid (many [60] ((d : Int) / 10).toNat = L) ∧ L.length ≤ 9 := ⟨_, Lib.hid rfl, by rw [many_length]; simp; omega⟩
    obtain ⟨L2, H2, b2⟩ : ∃ L : List UInt8, Hid (many [89] ((d : Int) % 10).toNat = L) ∧ L.length ≤ 9 := ⟨_, Lib.hid rfl, by rw [many_length]; simp; omega⟩
    have Hf : Hid (cdig d = L1 ++ L2) := by
      show _ = _
      unfold cdig
      rw [if_neg hz, ← H1.out, ← H2.out, show ((d : Int) / 10).toNat = d / 10 by omega, show ((d : Int) % 10).toNat = d % 10 by omega]
    clear hz
    go_enter Tryd.func58, Tryd.ntmps58
    go_wp2_with fail
    refine (l6Many_any [60] _ _ (by decide) (by omega) (by omega)).mono ?_
    rw [H1.out]
    rintro e w1 ⟨rfl, rfl⟩
    go_wp2_with fail
    refine (l6Many_any [89] _ _ (by decide) (by omega) (by omega)).mono ?_
    rw [H2.out]
    rintro e w1 ⟨rfl, rfl⟩
    go_wp2_with fail
    go_ret
    exact ⟨ret_bytes (by rw [Hf.out, bytes_append]), rfl⟩
theorem l4Digit_int (d : Int) (w : World) (h0 : 0 ≤ d) (h : d < 60) : Calls Tryd.prog 58 #[.int .i64 d] w fun e w' => e = .returned (.string ⟨(cdig d.toNat).toArray⟩) ∧ w = w' := by
  obtain ⟨k, rfl⟩ := Int.eq_ofNat_of_zero_le h0
  exact l4Digit_nat k w (by omega)
theorem l4Of_nat (w : World) (n : Nat) : n < 12960000 → Calls Tryd.prog 42 #[.int .i64 n] w fun e w' => e = .returned (.string ⟨(clay n).toArray⟩) ∧ w = w' := by
  induction n using Nat.strongRecOn with
  | ind n ih =>
    intro hn
    by_cases h : n < 60
    · rw [clay_low n h]
      have C := Lib.hid (l4Digit_nat n w h)
      go_enter Tryd.func42, Tryd.ntmps42
      go_wp2_with fail
      refine C.out.mono ?_
      rintro e w1 ⟨rfl, rfl⟩
      go_wp2_with fail
      go_ret
      exact ⟨rfl, rfl⟩
    · have C : Hid (∀ m : Int, m = (n : Int) / 60 → Calls Tryd.prog 42 #[.int .i64 m] w fun e w' => e = .returned (.string ⟨(clay (n / 60)).toArray⟩) ∧ w = w') := by
        show ∀ m : Int, _
        rintro m rfl
        have := ih (n / 60) (by omega) (by omega)
        rwa [show ((n / 60 : Nat) : Int) = (n : Int) / 60 by omega] at this
      have D : Hid (∀ m : Int, m = (n : Int) % 60 → Calls Tryd.prog 58 #[.int .i64 m] w fun e w' => e = .returned (.string ⟨(cdig (n % 60)).toArray⟩) ∧ w = w') := by
        show ∀ m : Int, _
        rintro m rfl
        have := l4Digit_nat (n % 60) w (by omega)
        rwa [show ((n % 60 : Nat) : Int) = (n : Int) % 60 by omega] at this
      rw [clay_high n h]
      have b1 := (clay_short (n / 60) (by omega)).2
      have b2 := (cdig_len (n % 60) (by omega)).2
      generalize clay (n / 60) = L1 at *
      generalize cdig (n % 60) = L2 at *
      clear ih
      go_enter Tryd.func42, Tryd.ntmps42
      go_wp2_with fail
      refine (C.out _ rfl).mono ?_
      rintro e w1 ⟨rfl, rfl⟩
      go_wp2_with fail
      refine (D.out _ rfl).mono ?_
      rintro e w1 ⟨rfl, rfl⟩
      go_wp2_with fail
      go_ret
      exact ⟨ret_bytes (by rw [show (⟨#[32]⟩ : ByteArray) = ⟨[(32 : UInt8)].toArray⟩ from rfl, bytes_append, bytes_append]; simp), rfl⟩
/-- PlaceOf's answer -/
def placeOfR (n : Int) : Value := if 0 ≤ n ∧ n ≤ 12959999 then .tuple #[.string ⟨(clay n.toNat).toArray⟩, .bool true] else .tuple #[.string ⟨#[]⟩, .bool false]
theorem placeOfR_yes (n : Nat) (h : n ≤ 12959999) : placeOfR n = .tuple #[.string ⟨(clay n).toArray⟩, .bool true] := by
  unfold placeOfR; rw [if_pos ⟨by omega, by omega⟩]; rfl
theorem placeOfR_no (n : Int) (h : ¬ (0 ≤ n ∧ n ≤ 12959999)) : placeOfR n = .tuple #[.string ⟨#[]⟩, .bool false] := by unfold placeOfR; rw [if_neg h]
theorem sPlaceOf_any (n : Int) (w : World) : Calls Tryd.prog 25 #[.int .i64 n] w fun e w' => e = .returned (placeOfR n) ∧ w = w' := by
  have C := Lib.hid (l6In_any n 0 12959999)
  by_cases h : 0 ≤ n ∧ n ≤ 12959999
  · obtain ⟨k, rfl⟩ := Int.eq_ofNat_of_zero_le h.1
    rw [placeOfR_yes k (by omega)]
    have O := Lib.hid (l4Of_nat w k (by omega))
    rw [show decide (0 ≤ (k : Int) ∧ (k : Int) ≤ 12959999) = true from decide_eq_true h] at C
    clear h
    go_enter Tryd.func25, Tryd.ntmps25
    go_wp2_with fail
    refine (C.out _).mono ?_
    rintro e w1 ⟨rfl, rfl⟩
    go_wp2_with fail
    refine O.out.mono ?_
    rintro e w1 ⟨rfl, rfl⟩
    go_wp2_with fail
    go_ret2
    exact ⟨rfl, rfl⟩
  · rw [placeOfR_no n h]
    rw [show decide (0 ≤ n ∧ n ≤ 12959999) = false from decide_eq_false h] at C
    clear h
    go_enter Tryd.func25, Tryd.ntmps25
    go_wp2_with fail
    refine (C.out _).mono ?_
    rintro e w1 ⟨rfl, rfl⟩
    go_wp2_with fail
    go_ret2
    exact ⟨rfl, rfl⟩
/-- PlaceRead's answer -/
def placeReadR (l : List UInt8) : Value := if isC l = true then .tuple #[.int .i64 (cval l : Nat), .bool true] else .tuple #[.int .i64 0, .bool false]
theorem placeReadR_yes (l : List UInt8) (v : Nat) (h1 : v ≤ 12959999) (h2 : clay v = l) : placeReadR l = .tuple #[.int .i64 v, .bool true] := by
  subst h2
  unfold placeReadR
  rw [if_pos (isC_clay v h1), clay_val]
theorem placeReadR_no (l : List UInt8) (h : isC l = false) : placeReadR l = .tuple #[.int .i64 0, .bool false] := by unfold placeReadR; rw [h]; rfl
/-- what the loop leaves -/
theorem readEnd (l : List UInt8) (k v : Nat) (h : v = cval (l.take k)) (he : v < 12960000 → k = l.length) :
    (v ≤ 12959999 ∧ clay v = l → placeReadR l = .tuple #[.int .i64 v, .bool true]) ∧ (¬ (v ≤ 12959999 ∧ clay v = l) → placeReadR l = .tuple #[.int .i64 0, .bool false]) := by
  refine ⟨fun ⟨a, b⟩ => placeReadR_yes l v a b, fun hn => placeReadR_no l ?_⟩
  rw [Bool.eq_false_iff]
  intro hc
  obtain ⟨c1, c2⟩ := isC_of l hc
  have hp := cval_prefix l k
  rw [← h] at hp
  have hk := he (by omega)
  rw [hk, List.take_length] at h
  subst h
  exact hn ⟨c1, c2⟩
theorem byte_is (l : List UInt8) (k : Nat) (hk : k < l.length) (n : Nat) (hn : n < 256) : l[k] = UInt8.ofNat n ↔ ((l[k].toNat : Int) = n) := by
  constructor
  · intro h; rw [h, UInt8.toNat_ofNat']; omega
  · intro h
    apply UInt8.toNat_inj.1
    rw [UInt8.toNat_ofNat']
    omega
theorem ret_v {a b : Value} (h : a = b) : Ending.returned a = .returned b := by rw [h]
theorem bytes_at (l : List UInt8) (k : Nat) (hk : k < l.length) (c : UInt8) (h : l[k] = c) : ∀ h', ((((⟨l.toArray⟩ : ByteArray)[k]'h').toNat : Int)) = (c.toNat : Int) := by
  intro h'
  have e : (⟨l.toArray⟩ : ByteArray)[k]'h' = c := h
  rw [e]
theorem byte_ne (c : UInt8) (n : Nat) (hn : n < 256) (h : c ≠ UInt8.ofNat n) : ((c.toNat : Int) == (n : Int)) = false := by
  rw [beq_eq_false_iff_ne]
  intro e
  apply h
  apply UInt8.toNat_inj.1
  rw [UInt8.toNat_ofNat']
  omega
end Go.Proofs.YtgdmmbibbdhlfaaDoor

/- The model's chapter 8 (package spec): ChangeOf, ChangeLength. -/
namespace Go.Proofs.YtgdmmbibbdhlfaaDoor
open Go.RowKit
set_option linter.unusedVariables false
set_option maxRecDepth 100000
/-- an answer with a text -/
def oV : Option (List UInt8) → Value
  | some l => .tuple #[.string ⟨l.toArray⟩, .bool true]
  | none => .tuple #[.string ⟨#[]⟩, .bool false]
/-- an answer with a number -/
def iV : Option Nat → Value
  | some n => .tuple #[.int .i64 n, .bool true]
  | none => .tuple #[.int .i64 0, .bool false]
theorem oV_two (o : Option (List UInt8)) : ∃ (x : List UInt8) (b : Bool), oV o = .tuple #[.string ⟨x.toArray⟩, .bool b] ∧ (b = true → o = some x) ∧ (b = false → o = none ∧ x = []) := by
  cases o with
  | none => exact ⟨[], false, rfl, (fun h => by cases h), fun _ => ⟨rfl, rfl⟩⟩
  | some l => exact ⟨l, true, rfl, fun _ => rfl, (fun h => by cases h)⟩
theorem iV_two (o : Option Nat) : ∃ (x : Nat) (b : Bool), iV o = .tuple #[.int .i64 x, .bool b] ∧ (b = true → o = some x) ∧ (b = false → o = none ∧ x = 0) := by
  cases o with
  | none => exact ⟨0, false, rfl, (fun h => by cases h), fun _ => ⟨rfl, rfl⟩⟩
  | some l => exact ⟨l, true, rfl, fun _ => rfl, (fun h => by cases h)⟩
theorem chO_r (n : Int) : chO [114] n = if 1 ≤ n ∧ n ≤ 3999 then some (strict n.toNat) else none := by
  unfold chO
  rw [if_pos rfl]
theorem chO_a (n : Int) : chO [97] n = if 1 ≤ n ∧ n ≤ 9999 then some (aof n.toNat) else none := by
  unfold chO
  rw [if_neg (by decide), if_pos rfl]
theorem chO_c (n : Int) : chO [99] n = if 0 ≤ n ∧ n ≤ 12959999 then some (clay n.toNat) else none := by
  unfold chO
  rw [if_neg (by decide), if_neg (by decide), if_pos rfl]
theorem chO_k (n : Int) : chO [107] n = if 0 ≤ n ∧ n ≤ 99999999 then some (rkO n.toNat) else none := by
  unfold chO
  rw [if_neg (by decide), if_neg (by decide), if_neg (by decide), if_pos rfl]
theorem chO_d (n : Int) : chO [100] n = if 0 ≤ n ∧ n ≤ 99999999 then some (dcm n.toNat) else none := by
  unfold chO
  rw [if_neg (by decide), if_neg (by decide), if_neg (by decide), if_neg (by decide), if_pos rfl]
theorem oV_r (n : Int) : romanOfR n = oV (chO [114] n) := by
  unfold romanOfR; rw [chO_r]; split <;> rfl
theorem oV_a (n : Int) : alphaOfR n = oV (chO [97] n) := by
  unfold alphaOfR; rw [chO_a]; split <;> rfl
theorem oV_c (n : Int) : placeOfR n = oV (chO [99] n) := by
  unfold placeOfR; rw [chO_c]; split <;> rfl
theorem oV_k (n : Int) : rkR n = oV (chO [107] n) := by
  unfold rkR; rw [chO_k]; split <;> rfl
theorem oV_d (n : Int) : (if 0 ≤ n ∧ n ≤ 99999999 then .tuple #[.string ⟨(dcm n.toNat).toArray⟩, .bool true] else .tuple #[.string ⟨#[]⟩, .bool false]) = oV (chO [100] n) := by
  rw [chO_d]; split <;> rfl
theorem chO_other (K : List UInt8) (n : Int) (h1 : K ≠ [114]) (h2 : K ≠ [97]) (h3 : K ≠ [99]) (h4 : K ≠ [107]) (h5 : K ≠ [100]) : chO K n = none := by
  unfold chO
  rw [if_neg h1, if_neg h2, if_neg h3, if_neg h4, if_neg h5]
theorem kne {K m : List UInt8} (h : K ≠ m) : (K == m) = false := by rw [beq_eq_false_iff_ne]; exact h
set_option maxHeartbeats 2000000 in
theorem sChangeOf_any (K : List UInt8) (n : Int) (w : World) : Calls Tryd.prog 15 #[.string ⟨K.toArray⟩, .int .i64 n] w fun e w' => e = .returned (oV (chO K n)) ∧ Below w.heap.size w w' := by
  by_cases k1 : K = [114]
  · subst k1
    have C := Lib.hid (sRomanOf_any n w)
    rw [oV_r] at C
    obtain ⟨x, b, hx, _⟩ := oV_two (chO [114] n)
    rw [hx] at C ⊢
    clear hx
    go_enter Tryd.func15, Tryd.ntmps15
    go_wp2_with fail
    refine C.out.mono ?_
    rintro e w1 ⟨rfl, g1⟩
    have G1 := Lib.hid g1; clear g1
    go_wp2_with fail
    go_ret2
    exact ⟨rfl, G1.out⟩
  by_cases k2 : K = [97]
  · subst k2
    have C := Lib.hid (sAlphaOf_any n w)
    rw [oV_a] at C
    obtain ⟨x, b, hx, _⟩ := oV_two (chO [97] n)
    rw [hx] at C ⊢
    clear hx k1
    go_enter Tryd.func15, Tryd.ntmps15
    go_wp2_with fail
    refine C.out.mono ?_
    rintro e w1 ⟨rfl, g1⟩
    have G1 := Lib.hid g1; clear g1
    go_wp2_with fail
    go_ret2
    exact ⟨rfl, G1.out⟩
  by_cases k3 : K = [99]
  · subst k3
    have C := Lib.hid (sPlaceOf_any n w)
    rw [oV_c] at C
    obtain ⟨x, b, hx, _⟩ := oV_two (chO [99] n)
    rw [hx] at C ⊢
    clear hx k1 k2
    go_enter Tryd.func15, Tryd.ntmps15
    go_wp2_with fail
    refine C.out.mono ?_
    rintro e w1 ⟨rfl, rfl⟩
    go_wp2_with fail
    go_ret2
    exact ⟨rfl, Below.refl _ _⟩
  by_cases k4 : K = [107]
  · subst k4
    have C := Lib.hid (sRankOf_any n w)
    rw [oV_k] at C
    obtain ⟨x, b, hx, _⟩ := oV_two (chO [107] n)
    rw [hx] at C ⊢
    clear hx k1 k2 k3
    go_enter Tryd.func15, Tryd.ntmps15
    go_wp2_with fail
    refine C.out.mono ?_
    rintro e w1 ⟨rfl, g1⟩
    have G1 := Lib.hid g1; clear g1
    go_wp2_with fail
    go_ret2
    exact ⟨rfl, G1.out⟩
  by_cases k5 : K = [100]
  · subst k5
    rw [← oV_d]
    have C := Lib.hid (in_any n 0 99999999 w)
    clear k1 k2 k3 k4
    by_cases h : 0 ≤ n ∧ n ≤ 99999999
    · rw [if_pos h]
      rw [show decide (0 ≤ n ∧ n ≤ 99999999) = true from decide_eq_true h] at C
      obtain ⟨u, rfl⟩ := Int.eq_ofNat_of_zero_le h.1
      have D := Lib.hid (sl6DecN_any u w (by omega))
      rw [show ((u : Int)).toNat = u by omega]
      generalize dcm u = M at *
      clear h
      go_enter Tryd.func15, Tryd.ntmps15
      go_wp2_with fail
      refine C.out.mono ?_
      rintro e w1 ⟨rfl, rfl⟩
      go_wp2_with fail
      refine D.out.mono ?_
      rintro e w1 ⟨rfl, g1⟩
      have G1 := Lib.hid g1; clear g1
      go_wp2_with fail
      go_ret2
      exact ⟨rfl, G1.out⟩
    · rw [if_neg h]
      rw [show decide (0 ≤ n ∧ n ≤ 99999999) = false from decide_eq_false h] at C
      clear h
      go_enter Tryd.func15, Tryd.ntmps15
      go_wp2_with fail
      refine C.out.mono ?_
      rintro e w1 ⟨rfl, rfl⟩
      go_wp2_with fail
      go_ret2
      exact ⟨rfl, Below.refl _ _⟩
  · rw [chO_other K n k1 k2 k3 k4 k5]
    have q1 := kne k1; have q2 := kne k2; have q3 := kne k3; have q4 := kne k4; have q5 := kne k5
    clear k1 k2 k3 k4 k5
    go_enter Tryd.func15, Tryd.ntmps15
    go_wp2_with fail
    go_ret2
    exact ⟨rfl, Below.refl _ _⟩
/-- the length of a numeral -/
def lnO (K : List UInt8) (n : Int) : Option Nat := (chO K n).map List.length
theorem sChangeLength_any (K : List UInt8) (n : Int) (w : World) : Calls Tryd.prog 10 #[.string ⟨K.toArray⟩, .int .i64 n] w fun e w' => e = .returned (iV (lnO K n)) ∧ Below w.heap.size w w' := by
  have C := Lib.hid (sChangeOf_any K n w)
  obtain ⟨x, b, hx, h1, h2⟩ := oV_two (chO K n)
  have hv : iV (lnO K n) = .tuple #[.int .i64 x.length, .bool b] := by
    unfold lnO
    cases b with
    | false => rw [(h2 rfl).1, (h2 rfl).2]; rfl
    | true => rw [h1 rfl]; rfl
  rw [hx] at C
  rw [hv]
  clear hx hv h1 h2
  go_enter Tryd.func10, Tryd.ntmps10
  go_wp2_with fail
  refine C.out.mono ?_
  rintro e w1 ⟨rfl, g1⟩
  have G1 := Lib.hid g1; clear g1
  go_wp2_with fail
  go_ret2
  exact ⟨rfl, G1.out⟩
def I64Ok (x : Int) : Prop := -9223372036854775808 ≤ x ∧ x ≤ 9223372036854775807
theorem i64_ok8 {x : Int} (h : (Lit.int .i64 x).wf = true) : I64Ok x := by
  simp only [Lit.wf, Bool.and_eq_true, decide_eq_true_eq] at h
  exact h
theorem bytes_list8 (s : ByteArray) : ∃ l : List UInt8, s = ⟨l.toArray⟩ ∧ s.size = l.length := ⟨s.data.toList, by simp, by simp⟩
theorem oV_val (o : Option (List UInt8)) : ∃ (x : ByteArray) (b : Bool), oV o = .tuple #[.string x, .bool b] := by
  obtain ⟨x, b, h, _⟩ := oV_two o
  exact ⟨_, b, h⟩
theorem iV_val (o : Option Nat) : ∃ (x : Nat) (b : Bool), iV o = .tuple #[.int .i64 x, .bool b] := by
  obtain ⟨x, b, h, _⟩ := iV_two o
  exact ⟨x, b, h⟩
end Go.Proofs.YtgdmmbibbdhlfaaDoor

/- The model's chapter 8 (package spec): ChangeShort. -/
namespace Go.Proofs.YtgdmmbibbdhlfaaDoor
open Go.RowKit
set_option linter.unusedVariables false
set_option maxRecDepth 100000
theorem lnO_bd (K : List UInt8) (n : Int) (k : Nat) (h : lnO K n = some k) : 1 ≤ k ∧ k ≤ 59 := by
  unfold lnO at h
  obtain ⟨s, hs, rfl⟩ := Option.map_eq_some_iff.1 h
  exact chO_len K n s hs
/-- kinds with the least length so far, and this length -/
def shN (n : Int) : Nat → List UInt8 × Nat
  | 0 => ([], 0)
  | i + 1 => match lnO [kb i] n with
    | none => shN n i
    | some k => if (shN n i).1 = [] ∨ k < (shN n i).2 then ([kb i], k) else if k = (shN n i).2 then ((shN n i).1 ++ [kb i], k) else shN n i
theorem shN_none (n : Int) (i : Nat) (h : lnO [kb i] n = none) : shN n (i + 1) = shN n i := by
  show (match lnO [kb i] n with | none => _ | some k => _) = _
  rw [h]
theorem shN_some (n : Int) (i k : Nat) (h : lnO [kb i] n = some k) : shN n (i + 1) = if (shN n i).1 = [] ∨ k < (shN n i).2 then ([kb i], k) else if k = (shN n i).2 then ((shN n i).1 ++ [kb i], k) else shN n i := by
  show (match lnO [kb i] n with | none => _ | some k => _) = _
  rw [h]
def shV (n : Int) : Value := .tuple #[.string ⟨(shN n 5).1.toArray⟩, .bool ((shN n 5).1 != [])]
theorem kcut : ∀ i, i < 5 → (⟨#[114, 97, 99, 107, 100]⟩ : ByteArray).extract i (i + 1) = ⟨[kb i].toArray⟩ := by
  have h : ∀ i, i < 5 → ((⟨#[114, 97, 99, 107, 100]⟩ : ByteArray).extract i (i + 1)).data = [kb i].toArray := by decide +kernel
  exact fun i hi => ByteArray.ext (h i hi)
theorem kbyte (k : Nat) (hk : k < 5) : ∀ h', (((⟨#[114, 97, 99, 107, 100]⟩ : ByteArray)[k]'h').toNat : Int) = ((kb k).toNat : Int) := by
  rcases (show k = 0 ∨ k = 1 ∨ k = 2 ∨ k = 3 ∨ k = 4 by omega) with rfl | rfl | rfl | rfl | rfl <;> exact fun _ => rfl
theorem sl8Kinds_any (w : World) : Calls Tryd.prog 22 #[] w fun e w' => e = .returned (.string ⟨#[114, 97, 99, 107, 100]⟩) ∧ w = w' := by
  go_enter Tryd.func22, Tryd.ntmps22
  go_wp2
  go_ret
  exact ⟨rfl, rfl⟩
set_option maxHeartbeats 2000000 in
theorem sChangeShort_any (n : Int) (w : World) : Calls Tryd.prog 14 #[.int .i64 n] w fun e w' => e = .returned (shV n) ∧ Below w.heap.size w w' := by
  have K := Lib.hid sl8Kinds_any
  have HV : Hid (shV n = .tuple #[.string ⟨(shN n 5).1.toArray⟩, .bool ((shN n 5).1 != [])]) := Lib.hid rfl
  go_enter Tryd.func14, Tryd.ntmps14
  go_wp2_with fail
  refine (K.out _).mono ?_
  rintro e w1 ⟨rfl, rfl⟩
  go_wp2_with fail
  go_loopw [5, 6, 7] (fun o b i wr => ∃ (k B : Nat) (O : List UInt8), k ≤ 5 ∧ O.length ≤ k ∧ B ≤ 59 ∧ i = .int .i64 k ∧ o = .string ⟨O.toArray⟩ ∧ b = .int .i64 B ∧ Hid (shN n k = (O, B)) ∧ Hid (Below w.heap.size w wr)) (fun _ _ i _ => 5 - (intOf i).toNat)
  case atStart => exact ⟨0, 0, [], by omega, by simp, by omega, rfl, rfl, rfl, Lib.hid rfl, Lib.hid (Below.refl _ _)⟩
  case round =>
    obtain ⟨k, B, O, hk, hO, hB, rfl, rfl, rfl, HS, HW⟩ := hrel
    by_cases hlt : k < 5
    · have HE := Lib.hid (kcut k hlt)
      have i1 : (k : Int) < 5 := by omega
      have C : Hid (∀ W : World, Calls Tryd.prog 10 #[.string ((⟨#[114, 97, 99, 107, 100]⟩ : ByteArray).extract k (k + 1)), .int .i64 n] W fun e w' => e = .returned (iV (lnO [kb k] n)) ∧ Below W.heap.size W w') := Lib.hid fun W => by rw [HE.out]; exact sChangeLength_any [kb k] n W
      cases ho : lnO [kb k] n with
      | none =>
        have HS2 : Hid (shN n (k + 1) = (O, B)) := Lib.hid (by rw [shN_none n k ho]; exact HS.out)
        rw [ho, show iV none = .tuple #[.int .i64 0, .bool false] from rfl] at C
        clear ho
        go_wp2_with fail
        refine (C.out _).mono ?_
        rintro e w2 ⟨rfl, g2⟩
        have G2 := Lib.hid (HW.out.trans (g2.mono HW.out.size)); clear g2
        go_wp2_with fail
        go_roundw
        case rel => exact ⟨k + 1, B, O, by omega, by omega, hB, by go_num, rfl, rfl, HS2, G2⟩
        case measure => simp [intOf]; omega
      | some q =>
        have hq := lnO_bd _ n q ho
        have HSt := Lib.hid (shN_some n k q ho)
        rw [HS.out] at HSt
        rw [ho, show iV (some q) = .tuple #[.int .i64 q, .bool true] from rfl] at C
        clear ho
        by_cases h1 : O = []
        · subst h1
          have HS2 : Hid (shN n (k + 1) = ([kb k], q)) := Lib.hid (by rw [HSt.out, if_pos (.inl rfl)])
          have hcat : (⟨#[]⟩ : ByteArray) ++ (⟨#[114, 97, 99, 107, 100]⟩ : ByteArray).extract k (k + 1) = ⟨[kb k].toArray⟩ := by rw [HE.out]; exact cat_bytes [] [kb k]
          have HC := Lib.hid hcat; clear hcat
          go_wp2_with fail
          refine (C.out _).mono ?_
          rintro e w2 ⟨rfl, g2⟩
          have G2 := Lib.hid (HW.out.trans (g2.mono HW.out.size)); clear g2
          go_wp2_with fail
          go_roundw
          case rel => exact ⟨k + 1, q, [kb k], by omega, by show 1 ≤ k + 1; omega, hq.2, by go_num, congrArg Value.string HC.out, rfl, HS2, G2⟩
          case measure => simp [intOf]; omega
        · have q1 : (O == []) = false := by rw [beq_eq_false_iff_ne]; exact h1
          by_cases h2 : q < B
          · have HS2 : Hid (shN n (k + 1) = ([kb k], q)) := Lib.hid (by rw [HSt.out, if_pos (.inr h2)])
            have hcat : (⟨#[]⟩ : ByteArray) ++ (⟨#[114, 97, 99, 107, 100]⟩ : ByteArray).extract k (k + 1) = ⟨[kb k].toArray⟩ := by rw [HE.out]; exact cat_bytes [] [kb k]
            have HC := Lib.hid hcat; clear hcat
            have j2 : (q : Int) < (B : Int) := by omega
            clear h1
            go_wp2_with fail
            refine (C.out _).mono ?_
            rintro e w2 ⟨rfl, g2⟩
            have G2 := Lib.hid (HW.out.trans (g2.mono HW.out.size)); clear g2
            go_wp2_with fail
            go_roundw
            case rel => exact ⟨k + 1, q, [kb k], by omega, by show 1 ≤ k + 1; omega, hq.2, by go_num, congrArg Value.string HC.out, rfl, HS2, G2⟩
            case measure => simp [intOf]; omega
          · have j2 : ¬ (q : Int) < (B : Int) := by omega
            by_cases h3 : q = B
            · subst h3
              have HS2 : Hid (shN n (k + 1) = (O ++ [kb k], q)) := Lib.hid (by rw [HSt.out, if_neg (fun h => h.elim h1 h2), if_pos rfl])
              have hcat : (⟨O.toArray⟩ : ByteArray) ++ (⟨#[114, 97, 99, 107, 100]⟩ : ByteArray).extract k (k + 1) = ⟨(O ++ [kb k]).toArray⟩ := by rw [HE.out]; exact cat_bytes O [kb k]
              have HC := Lib.hid hcat; clear hcat
              clear h1
              have l1 : ¬ 9223372036854775807 < O.length + 1 := by omega
              go_wp2_with fail
              refine (C.out _).mono ?_
              rintro e w2 ⟨rfl, g2⟩
              have G2 := Lib.hid (HW.out.trans (g2.mono HW.out.size)); clear g2
              go_wp2_with fail
              go_roundw
              case rel => exact ⟨k + 1, q, O ++ [kb k], by omega, by rw [List.length_append]; show _ + 1 ≤ k + 1; omega, hB, by go_num, congrArg Value.string HC.out, rfl, HS2, G2⟩
              case measure => simp [intOf]; omega
            · have HS2 : Hid (shN n (k + 1) = (O, B)) := Lib.hid (by rw [HSt.out, if_neg (fun h => h.elim h1 h2), if_neg h3])
              have j3 : ((q : Int) == (B : Int)) = false := by rw [beq_eq_false_iff_ne]; omega
              clear h1
              go_wp2_with fail
              refine (C.out _).mono ?_
              rintro e w2 ⟨rfl, g2⟩
              have G2 := Lib.hid (HW.out.trans (g2.mono HW.out.size)); clear g2
              go_wp2_with fail
              go_roundw
              case rel => exact ⟨k + 1, B, O, by omega, by omega, hB, by go_num, rfl, rfl, HS2, G2⟩
              case measure => simp [intOf]; omega
    · obtain rfl : k = 5 := by omega
      rw [HS.out] at HV
      by_cases h1 : O = []
      · subst h1
        go_wp2_with fail
        go_ret2
        exact ⟨rret HV.out.symm, HW.out⟩
      · have q1 : (O == []) = false := by rw [beq_eq_false_iff_ne]; exact h1
        have q2 : (O != []) = true := by rw [bne_iff_ne]; exact h1
        rw [show ((O, B) : List UInt8 × Nat).1 = O from rfl, q2] at HV
        clear h1 q2
        go_wp2_with fail
        go_ret2
        exact ⟨rret HV.out.symm, HW.out⟩
end Go.Proofs.YtgdmmbibbdhlfaaDoor

/- Rows of values of one cell each, of whatever type. -/
namespace Go.Proofs.YtgdmmbibbdhlfaaDoor
open Go.RowKit
set_option linter.unusedVariables false
set_option maxRecDepth 100000
def vals (v : Nat → Value) (n : Nat) : List Value := (List.range n).map v
theorem vals_at (v : Nat → Value) (n k : Nat) (h : k < n) : (vals v n)[k]? = some (v k) := by simp [vals, h]
theorem vals_len (v : Nat → Value) (n : Nat) : (vals v n).length = n := by simp [vals]
theorem vals_congr {u v : Nat → Value} {n : Nat} (h : ∀ k, k < n → u k = v k) : vals u n = vals v n :=
  List.map_congr_left fun k hk => by rw [h k (List.mem_range.1 hk)]
/-- a block of just n values, of type T -/
def VRow (T : TypeId) (w : World) (b n : Nat) (v : Nat → Value) : Prop := w.heap[b]? = some (.cells (vals v n).toArray T (0, 0))
section
variable {T : TypeId} {w w' : World} {b n : Nat} {u v : Nat → Value}
theorem VRow.lt (h : VRow T w b n v) : b < w.heap.size := lt_of_block' h
theorem VRow.cell (h : VRow T w b n v) (k : Nat) (hk : k < n) : w.cell? ⟨b, k, none⟩ = some (v k) := cell_at h (by rw [List.getElem?_toArray]; exact vals_at v n k hk)
theorem VRow.frozen (h : VRow T w b n v) (k : Nat) : w.frozen? ⟨b, k, none⟩ = false := by
  unfold VRow at h
  simp [World.frozen?, h]
theorem VRow.congr (h : VRow T w b n v) (e : ∀ k, k < n → v k = u k) : VRow T w b n u := by
  unfold VRow at h ⊢
  rw [h, vals_congr e]
theorem VRow.keep (h : VRow T w b n v) (e : w'.heap[b]? = w.heap[b]?) : VRow T w' b n v := e.trans h
theorem VRow.below (h : VRow T w b n v) (g : Below w.heap.size w w') : VRow T w' b n v := h.keep (g.block b h.lt)
theorem VRow.belowB {B : Nat} (h : VRow T w b n v) (g : Below B w w') (hb : b < B) : VRow T w' b n v := h.keep (g.block b hb)
theorem VRow.set_ (h : VRow T w b n v) (k : Nat) (x : Value) : VRow T (w.setCell ⟨b, k, none⟩ x) b n (fun j => if j = k then x else v j) := by
  unfold VRow at h ⊢
  have e : (vals v n).toArray.setIfInBounds k x = (vals (fun j => if j = k then x else v j) n).toArray := by
    apply Array.ext
    · simp [vals]
    · intro i h1 h2
      simp only [Array.size_setIfInBounds, List.size_toArray, vals_len] at h1
      by_cases e : k = i
      · subst e; simp [vals]
      · rw [Array.getElem_setIfInBounds_ne (by simpa [vals] using h1) e]
        simp [vals, Ne.symm e]
  simp only [World.setCell, Array.getElem?_modify, h, if_true, Option.map_some]
  rw [← e]
  rfl
theorem VRow.new (w : World) (T : TypeId) (n : Nat) (v : Nat → Value) : VRow T (w.alloc (.cells (vals v n).toArray T)) w.heap.size n v := heap_alloc_new w _
theorem VRow.alloc (h : VRow T w b n v) (o : Obj) : VRow T (w.alloc o) b n v := (Below.heap_alloc w o b h.lt).trans h
theorem VRow.upto {k : Nat} {z : Value} (h : VRow T w b n (fun j => if j < k then v j else z)) : VRow T (w.setCell ⟨b, k, none⟩ (v k)) b n (fun j => if j < k + 1 then v j else z) :=
  (h.set_ k (v k)).congr fun j hj => by
    by_cases e : j = k
    · subst e; simp
    · rw [if_neg e]
      by_cases h2 : j < k
      · rw [if_pos h2, if_pos (by omega)]
      · rw [if_neg h2, if_neg (by omega)]
end
theorem made_vals (z : Value) (hz : z.cells = #[z]) (n : Nat) : madeCells z.cells (n * 1) = (vals (fun _ => z) n).toArray := by
  rw [hz]
  apply Array.ext
  · simp [madeCells, vals]
  · intro i h1 h2
    simp [madeCells, vals, Nat.mod_one]
theorem wpList_make_vals {P : Program} (w : World) {ops : Array Oper} {rest : List Oper} {o : Oper} {a : Act} {Q : Exit → Act → World → Prop}
    (hg : o.guard = none) (l c : Operand) (t T : TypeId) (hop : o.op = Op.makeSlice t l c) (z : Value) (hzc : z.cells = #[z])
    (i : TypeInfo) (ht : P.underlying t = some (.slice T)) (hi : P.info? T = some i) (hz : i.zero = some z) (hsize : i.size = 1) (hby : i.bytes ≤ 16)
    (n : Nat) (hn : n ≤ 10000000) (hl : a.eval l = .int .i64 (n : Int)) (hc : a.eval c = .int .i64 (n : Int))
    (hK : ∀ w', VRow T w' w.heap.size n (fun _ => z) → Below w.heap.size w w' → w'.heap.size = w.heap.size + 1 → wpList P ops Q rest (a.put o.dst (.slice (some ⟨w.heap.size, 0, none⟩) n n)) w') :
    wpList P ops Q (o :: rest) a w := by
  refine wpList_plain hg fun K hK' => ?_
  have hb' : (i.bytes : Int) * (n : Int) ≤ 281474976710656 := by
    have h1 := Int.mul_le_mul (show (i.bytes : Int) ≤ 16 by omega) (show (n : Int) ≤ 10000000 by omega) (by omega) (by omega)
    omega
  have hrun := run_make (P := P) w t T i z ht hi hz .i64 .i64 n n (by omega) (Int.le_refl _) hb' (by omega)
  simp only [Int.toNat_natCast, hsize, made_vals z hzc] at hrun
  unfold Oper.wp
  simp [execOp, hop, hl, hc, hrun, Result.andThen]
  exact hK' _ _ (hK _ (VRow.new w T n _) ((Below.refl _ _).alloc (Nat.le_refl _) _) (by simp))
end Go.Proofs.YtgdmmbibbdhlfaaDoor

/- The program's chapter 8: all kinds with a text, one kind with a text. -/
namespace Go.Proofs.YtgdmmbibbdhlfaaDoor
open Go.RowKit
set_option linter.unusedVariables false
set_option maxRecDepth 100000
/-- a kind's own type -/
def kT (i : Nat) : TypeId := if i = 0 then 54 else if i = 1 then 55 else if i = 2 then 56 else if i = 3 then 57 else 58
/-- all kinds with a text, in memory -/
def NmR (w : World) (b : Nat) (l : List UInt8) : Prop := b < w.heap.size ∧ ∀ i, i < 5 → w.cell? ⟨b, i * 2, none⟩ = some (.string ⟨[kb i].toArray⟩) ∧ w.cell? ⟨b, i * 2 + 1, none⟩ = some (.iface (kT i) (.string ⟨l.toArray⟩))
theorem NmR.below {w w' : World} {b : Nat} {l : List UInt8} (h : NmR w b l) (g : Below w.heap.size w w') : NmR w' b l :=
  ⟨Nat.lt_of_lt_of_le h.1 g.size, fun i hi => ⟨(g.cell (p := ⟨b, i * 2, none⟩) h.1).trans (h.2 i hi).1, (g.cell (p := ⟨b, i * 2 + 1, none⟩) h.1).trans (h.2 i hi).2⟩⟩
abbrev nmCells (l : List UInt8) : Array Value := #[.string ⟨#[114]⟩, .iface 54 (.string ⟨l.toArray⟩), .string ⟨#[97]⟩, .iface 55 (.string ⟨l.toArray⟩), .string ⟨#[99]⟩, .iface 56 (.string ⟨l.toArray⟩), .string ⟨#[107]⟩, .iface 57 (.string ⟨l.toArray⟩), .string ⟨#[100]⟩, .iface 58 (.string ⟨l.toArray⟩)]
theorem nm_new (w : World) (l : List UInt8) : NmR (w.alloc (.cells (nmCells l) 53)) w.heap.size l := by
  have h := heap_alloc_new w (.cells (nmCells l) 53)
  refine ⟨lt_of_block' h, fun i hi => ?_⟩
  rcases (show i = 0 ∨ i = 1 ∨ i = 2 ∨ i = 3 ∨ i = 4 by omega) with rfl | rfl | rfl | rfl | rfl <;> exact ⟨cell_at h rfl, cell_at h rfl⟩
set_option maxHeartbeats 2000000 in
theorem numeralsAs_any (l : List UInt8) (w : World) : Calls Tryd.prog 30 #[.string ⟨l.toArray⟩] w fun e w' => ∃ b, e = .returned (.slice (some ⟨b, 0, none⟩) 5 5) ∧ w.heap.size ≤ b ∧ NmR w' b l ∧ Below w.heap.size w w' := by
  have H := Lib.hid (nm_new w l)
  have HB := Lib.hid ((Below.refl w.heap.size w).alloc (Nat.le_refl _) (.cells (nmCells l) 53))
  go_enter Tryd.func30, Tryd.ntmps30
  go_wp2_with fail
  go_ret
  exact ⟨_, rfl, Nat.le_refl _, H.out, HB.out⟩
/-- what is found of a kind: i is its place, 5 if it is none -/
def nAs (i : Nat) (l : List UInt8) : Value := if i < 5 then .tuple #[.iface (kT i) (.string ⟨l.toArray⟩), .bool true] else .tuple #[.nilIface, .bool false]
set_option maxHeartbeats 2000000 in
theorem numeralAs_at (K l : List UInt8) (p : Nat) (w : World) (hp : p ≤ 5) (hne : ∀ k, k < p → ([kb k] == K) = false) (heq : p < 5 → ([kb p] == K) = true) :
    Calls Tryd.prog 17 #[.string ⟨K.toArray⟩, .string ⟨l.toArray⟩] w fun e w' => e = .returned (nAs p l) ∧ Below w.heap.size w w' := by
  have C := Lib.hid (fun w => numeralsAs_any l w)
  have Hne := Lib.hid hne; have Heq := Lib.hid heq; clear hne heq
  have HV1 : Hid (p < 5 → nAs p l = .tuple #[.iface (kT p) (.string ⟨l.toArray⟩), .bool true]) := Lib.hid (fun h => if_pos h)
  have HV2 : Hid (¬ p < 5 → nAs p l = .tuple #[.nilIface, .bool false]) := Lib.hid (fun h => if_neg h)
  go_enter Tryd.func17, Tryd.ntmps17
  go_wp2_with fail
  refine (C.out _).mono ?_
  rintro e w1 ⟨b, rfl, hb, hN, hB⟩
  have HN := Lib.hid hN; have HB := Lib.hid hB; clear hN hB C
  go_wp2_with fail
  go_loopw [11] (fun i wr => ∃ k : Nat, k ≤ p ∧ i = .int .i64 k ∧ Hid (NmR wr b l) ∧ Hid (Below w.heap.size w wr)) (fun i _ => 5 - (intOf i).toNat)
  case atStart => exact ⟨0, by omega, rfl, HN, HB⟩
  case round =>
    obtain ⟨k, hk, rfl, HN1, HB1⟩ := hrel
    clear HN HB
    by_cases hlt : k < 5
    · obtain ⟨hd1, hd2⟩ := HN1.out.2 k hlt
      have hbl := HN1.out.1
      have i1 : (k : Int) < 5 := by omega
      have HB2 : Hid (Below w.heap.size w (wr.alloc (.cells #[.string ⟨[kb k].toArray⟩, .iface (kT k) (.string ⟨l.toArray⟩)] 53))) := Lib.hid (HB1.out.alloc HB1.out.size _)
      have HN2 : Hid (NmR (wr.alloc (.cells #[.string ⟨[kb k].toArray⟩, .iface (kT k) (.string ⟨l.toArray⟩)] 53)) b l) := Lib.hid (HN1.out.below ((Below.refl _ _).alloc (Nat.le_refl _) _))
      by_cases he : k < p
      · have q := Hne.out k he
        generalize kT k = T at *
        go_wp2_with fail
        go_roundw
        case rel => exact ⟨k + 1, by omega, by go_num, HN2, HB2⟩
        case measure => simp [intOf]; omega
      · obtain rfl : k = p := by omega
        have q := Heq.out hlt
        have HV := Lib.hid (HV1.out hlt)
        generalize kT k = T at *
        go_wp2_with fail
        go_ret2
        exact ⟨rret HV.out.symm, HB2.out⟩
    · obtain rfl : k = 5 := by omega
      obtain rfl : p = 5 := by omega
      have HV := Lib.hid (HV2.out (by omega))
      go_wp2_with fail
      go_ret2
      exact ⟨rret HV.out.symm, HB1.out⟩
/-- the place of a kind -/
def kIx (K : List UInt8) : Nat := if K = [114] then 0 else if K = [97] then 1 else if K = [99] then 2 else if K = [107] then 3 else if K = [100] then 4 else 5
theorem kIx_facts (K : List UInt8) : kIx K ≤ 5 ∧ (∀ k, k < kIx K → ([kb k] == K) = false) ∧ (kIx K < 5 → ([kb (kIx K)] == K) = true ∧ K = [kb (kIx K)]) ∧ (¬ kIx K < 5 → K ≠ [114] ∧ K ≠ [97] ∧ K ≠ [99] ∧ K ≠ [107] ∧ K ≠ [100]) := by
  have e0 : kb 0 = 114 := rfl
  have e1 : kb 1 = 97 := rfl
  have e2 : kb 2 = 99 := rfl
  have e3 : kb 3 = 107 := rfl
  have e4 : kb 4 = 100 := rfl
  have sw : ∀ c : UInt8, K ≠ [c] → ([c] == K) = false := fun c h => by rw [beq_eq_false_iff_ne]; exact fun e => h e.symm
  unfold kIx
  by_cases h0 : K = [114]
  · rw [if_pos h0]
    exact ⟨by omega, (fun k hk => by omega), (fun _ => ⟨by rw [h0]; rfl, h0⟩), fun h => absurd (by omega) h⟩
  rw [if_neg h0]
  by_cases h1 : K = [97]
  · rw [if_pos h1]
    refine ⟨by omega, (fun k hk => ?_), (fun _ => ⟨by rw [h1]; rfl, h1⟩), fun h => absurd (by omega) h⟩
    obtain rfl : k = 0 := by omega
    exact sw _ h0
  rw [if_neg h1]
  by_cases h2 : K = [99]
  · rw [if_pos h2]
    refine ⟨by omega, (fun k hk => ?_), (fun _ => ⟨by rw [h2]; rfl, h2⟩), fun h => absurd (by omega) h⟩
    rcases (show k = 0 ∨ k = 1 by omega) with rfl | rfl
    · exact sw _ h0
    · exact sw _ h1
  rw [if_neg h2]
  by_cases h3 : K = [107]
  · rw [if_pos h3]
    refine ⟨by omega, (fun k hk => ?_), (fun _ => ⟨by rw [h3]; rfl, h3⟩), fun h => absurd (by omega) h⟩
    rcases (show k = 0 ∨ k = 1 ∨ k = 2 by omega) with rfl | rfl | rfl
    · exact sw _ h0
    · exact sw _ h1
    · exact sw _ h2
  rw [if_neg h3]
  by_cases h4 : K = [100]
  · rw [if_pos h4]
    refine ⟨by omega, (fun k hk => ?_), (fun _ => ⟨by rw [h4]; rfl, h4⟩), fun h => absurd (by omega) h⟩
    rcases (show k = 0 ∨ k = 1 ∨ k = 2 ∨ k = 3 by omega) with rfl | rfl | rfl | rfl
    · exact sw _ h0
    · exact sw _ h1
    · exact sw _ h2
    · exact sw _ h3
  rw [if_neg h4]
  refine ⟨by omega, (fun k hk => ?_), (fun h => by omega), fun _ => ⟨h0, h1, h2, h3, h4⟩⟩
  rcases (show k = 0 ∨ k = 1 ∨ k = 2 ∨ k = 3 ∨ k = 4 by omega) with rfl | rfl | rfl | rfl | rfl
  · exact sw _ h0
  · exact sw _ h1
  · exact sw _ h2
  · exact sw _ h3
  · exact sw _ h4
theorem numeralAs_any (K l : List UInt8) (w : World) : Calls Tryd.prog 17 #[.string ⟨K.toArray⟩, .string ⟨l.toArray⟩] w fun e w' => e = .returned (nAs (kIx K) l) ∧ Below w.heap.size w w' := by
  obtain ⟨h1, h2, h3, _⟩ := kIx_facts K
  exact numeralAs_at K l (kIx K) w h1 h2 (fun h => (h3 h).1)
end Go.Proofs.YtgdmmbibbdhlfaaDoor

/- Decimals, plain: how the library reads and writes them. -/
namespace Go.Proofs.YtgdmmbibbdhlfaaDoor
open Go.Lib
set_option linter.unusedVariables false
set_option maxRecDepth 100000
theorem dec_dcm (u : Nat) : decDigits u = dcm u := by
  induction u using Nat.strongRecOn with
  | _ u ih =>
    rw [decDigits, dcm]
    by_cases h : u < 10
    · rw [dif_pos h, dif_pos h]; rfl
    · rw [dif_neg h, dif_neg h, ih (u / 10) (by omega)]; rfl
theorem itoa_dcm (u : Nat) : itoa (u : Int) = dcm u := by rw [itoa_nonneg, dec_dcm]
end Go.Proofs.YtgdmmbibbdhlfaaDoor

/- The library's variables that chapter 8's program reads: the powers of ten, two sentinels. -/
namespace Go.Proofs.YtgdmmbibbdhlfaaDoor
open Go.ChangeShapes Go.WideShapes Go.ChangeAt Go.WideMaps Go.WideElems Go.RowKit
set_option linter.unusedVariables false
set_option maxRecDepth 100000
/-- a variable that stands holds the same cells in whatever later world -/
theorem var_step {P : Program} {n : String} {g : Nat} {cs : Array Value} {w w' : World} (hg : P.globalNamed n = some g) (h : w.var? P n = some cs) (hlt : g < w.heap.size) (b : Below w.heap.size w w') : w'.var? P n = some cs :=
  var?_below b hg hlt h
/-- the powers of ten -/
def PW (w : World) : Prop := 3 < w.heap.size ∧ Lib.TabIs Tryd.prog w "internal/strconv.uint64pow10" .u64 Lib.pow10Tab
theorem gPW : Tryd.prog.globalNamed "internal/strconv.uint64pow10" = some 3 := by kernel_rfl
theorem tPW : (Tryd.prog.globals[3]?).map (·.type) = some 113 := by kernel_rfl
theorem PW.step {w w' : World} (h : PW w) (b : Below w.heap.size w w') : PW w' := ⟨Nat.lt_of_lt_of_le h.1 b.size, var_step gPW h.2 h.1 b⟩
theorem cPW : Tryd.prog.cellsOf 113 = 20 := by kernel_rfl
theorem cPW1 : Tryd.prog.cellsOf 101 = 1 := by kernel_rfl
theorem tb_pw {W : World} (h : LaidItem Tryd.prog W "internal/strconv.uint64pow10" (Lib.tabData .u64 Lib.pow10Tab)) : PW W := by
  obtain ⟨g, t, cs, fuel, p, hg, ht, hvar, hd⟩ := h
  obtain rfl := Option.some.inj (gPW.symm.trans hg)
  obtain rfl := Option.some.inj (tPW.symm.trans ht)
  have hc := Lib.cells_of_tab Tryd.underlying113 Tryd.underlying101 cPW1 cPW hd
  have hcs : cs = (Lib.pow10Tab.map fun z => Value.int .u64 z).toArray := by rw [← hc]
  subst hcs
  exact ⟨World.block_lt_of_cell? W ⟨3, 0, none⟩ (u := .int .u64 1) (World.var?_cell gPW hvar 0), hvar⟩
/-- a variable that holds an error -/
def ErV (n : String) (w : World) : Prop := ∃ g tp p, Tryd.prog.globalNamed n = some g ∧ g < w.heap.size ∧ w.var? Tryd.prog n = some #[.iface tp p]
theorem ErV.step {n : String} {w w' : World} (h : ErV n w) (b : Below w.heap.size w w') : ErV n w' := by
  obtain ⟨g, tp, p, hg, hlt, hv⟩ := h
  exact ⟨g, tp, p, hg, Nat.lt_of_lt_of_le hlt b.size, var_step hg hv hlt b⟩
theorem er_item {W : World} {n nm : String} {d : DataW Unit} {g : Nat} {ti : TypeId} {ms : Array (String × TypeId)} (hg : Tryd.prog.globalNamed n = some g) (ht : (Tryd.prog.globals[g]?).map (·.type) = some ti) (hi : Tryd.prog.underlying ti = some (.interface ms))
    (h : LaidItem Tryd.prog W n (.iface nm d)) : ErV n W := by
  obtain ⟨g', t, cs, fuel, p, hg', ht', hvar, hd⟩ := h
  obtain rfl := Option.some.inj (hg.symm.trans hg')
  obtain rfl := Option.some.inj (ht.symm.trans ht')
  obtain ⟨f1, u, v, hcs, hn, h1⟩ := iface_of_trod hi hd
  obtain ⟨l⟩ := cs
  have hcs' : l = [.iface u v] := hcs
  subst hcs'
  exact ⟨g, u, v, hg, World.block_lt_of_cell? W ⟨g, 0, none⟩ (u := .iface u v) (World.var?_cell hg hvar 0), hvar⟩
end Go.Proofs.YtgdmmbibbdhlfaaDoor

/- Contracts of the library's functions, at this program's numbers. -/
namespace Go.Proofs
open Go.Shelf
def Tryd.lays170_ren : Go.Shelf.Ren := ⟨fun | 170 => 72 | n => n, fun | 70 => 81 | 3 => 3 | 0 => 0 | 72 => 83 | 37 => 22 | 5 => 5 | n => n, fun | n => n⟩
theorem Tryd.lays170 : Go.Proofs.Lays.n170 Tryd.prog Tryd.lays170_ren := {
  mixed := by kernel_rfl
  f170 := Tryd.func72.trans (congrArg some (by kernel_rfl))
  t0 := Tryd.underlying0
  a0 := Tryd.isAgg0
  z0 := Tryd.sizeOf0
  v0 := Tryd.zeroValue0
  t3 := Tryd.underlying3
  a3 := Tryd.isAgg3
  z3 := Tryd.sizeOf3
  v3 := Tryd.zeroValue3
  t37 := Tryd.underlying22
  a37 := Tryd.isAgg22
  z37 := Tryd.sizeOf22
  v37 := Tryd.zeroValue22
  t70 := Tryd.underlying81
  a70 := Tryd.isAgg81
  z70 := Tryd.sizeOf81
  v70 := Tryd.zeroValue81
  t72 := Tryd.underlying83
  a72 := Tryd.isAgg83
  z72 := Tryd.sizeOf83
  v72 := Tryd.zeroValue83 }
open Go.RowKit in
/-- (*strings.Builder).Len: "Len returns the number of accumulated bytes; b.Len() == len(b.String()).": the world is as it was. (LAID: no walk: one application.) -/
theorem Tryd.Builder_Len (B b : Nat) (bs : List Value) (w : World) (h : Lib.IsBuilder 83 5 B b bs w) :
    Calls Tryd.prog 72 #[.pointer (some ⟨b, 0, none⟩)] w fun e w' => e = .returned (.int .i64 bs.length) ∧ w' = w := Any.Builder_Len Tryd.lays170 B b bs w h
def Tryd.lays169_ren : Go.Shelf.Ren := ⟨fun | 169 => 65 | n => n, fun | 70 => 81 | 9 => 9 | 0 => 0 | 72 => 83 | 37 => 22 | 127 => 95 | 3 => 3 | 5 => 5 | n => n, fun | n => n⟩
theorem Tryd.lays169 : Go.Proofs.Lays.n169 Tryd.prog Tryd.lays169_ren := {
  mixed := by kernel_rfl
  f169 := Tryd.func65.trans (congrArg some (by kernel_rfl))
  t0 := Tryd.underlying0
  a0 := Tryd.isAgg0
  z0 := Tryd.sizeOf0
  v0 := Tryd.zeroValue0
  t3 := Tryd.underlying3
  a3 := Tryd.isAgg3
  z3 := Tryd.sizeOf3
  v3 := Tryd.zeroValue3
  t9 := Tryd.underlying9
  a9 := Tryd.isAgg9
  z9 := Tryd.sizeOf9
  v9 := Tryd.zeroValue9
  t37 := Tryd.underlying22
  a37 := Tryd.isAgg22
  z37 := Tryd.sizeOf22
  v37 := Tryd.zeroValue22
  t70 := Tryd.underlying81
  a70 := Tryd.isAgg81
  z70 := Tryd.sizeOf81
  v70 := Tryd.zeroValue81
  t72 := Tryd.underlying83
  a72 := Tryd.isAgg83
  z72 := Tryd.sizeOf83
  v72 := Tryd.zeroValue83
  t127 := Tryd.underlying95
  a127 := Tryd.isAgg95
  z127 := Tryd.sizeOf95
  v127 := Tryd.zeroValue95 }
theorem Tryd.Builder_Extra_169 : Builder.Extra Tryd.prog Tryd.lays169_ren := {
  sizeBuilder := by kernel_rfl
  liesBuilder := by kernel_rfl
  t5 := Tryd.underlying5
  a5 := Tryd.isAgg5
  z5 := Tryd.sizeOf5
  v5 := Tryd.zeroValue5
  infoByte := by kernel_rfl
  cellsByte := by kernel_rfl
  sizeByte := by kernel_rfl
  neB5 := by decide }
open Go.RowKit in
/-- (*strings.Builder).String: "String returns the accumulated string.": OF A BUILDER THAT HOLDS AT LEAST ONE BYTE. ✋ THE MODEL FREEZES THOSE BYTES IN THE BUFFER (unsafe.String): a later write INTO them ends the model's run without an answer; a later append BEHIND them goes on. The statement's order of evaluation is drawn: one draw. (LAID: no walk: one application.) -/
theorem Tryd.Builder_String (B b : Nat) (l : List UInt8) (w : World) (h : Lib.IsBuilder 83 5 B b (Lib.byteCells l) w) (h0 : l ≠ []) :
    Calls Tryd.prog 65 #[.pointer (some ⟨b, 0, none⟩)] w fun e w' => e = .returned (.string ⟨l.toArray⟩) ∧ Below B w w' := Any.Builder_String Tryd.lays169 Tryd.Builder_Extra_169 B b l w h h0
open Go.RowKit in
/-- (*strings.Builder).String OF A BUILDER THAT HOLDS NO BYTE: the empty string. (Its buffer is nil, or a row of which it has taken nothing yet; where that row has NO capacity the model lays one new block for unsafe.SliceData's 'some address'.) One draw. (LAID: no walk: one application.) -/
theorem Tryd.Builder_String_empty (B b : Nat) (w : World) (h : Lib.IsBuilder 83 5 B b [] w) (hBw : B ≤ w.heap.size) :
    Calls Tryd.prog 65 #[.pointer (some ⟨b, 0, none⟩)] w fun e w' => e = .returned (.string ⟨#[]⟩) ∧ Below B w w' := Any.Builder_String_empty Tryd.lays169 Tryd.Builder_Extra_169 B b w h hBw
open Go.RowKit in
/-- (*strings.Builder).String: "String returns the accumulated string.": WHATEVER THE BUILDER HOLDS. (LAID: no walk: one application.) -/
theorem Tryd.Builder_String_any (B b : Nat) (l : List UInt8) (w : World) (h : Lib.IsBuilder 83 5 B b (Lib.byteCells l) w) (hBw : B ≤ w.heap.size) :
    Calls Tryd.prog 65 #[.pointer (some ⟨b, 0, none⟩)] w fun e w' => e = .returned (.string ⟨l.toArray⟩) ∧ Below B w w' := Any.Builder_String_any Tryd.lays169 Tryd.Builder_Extra_169 B b l w h hBw
def Tryd.lays241_ren : Go.Shelf.Ren := ⟨fun | 241 => 74 | 277 => 80 | n => n, fun | 70 => 81 | 3 => 3 | 0 => 0 | 72 => 83 | 37 => 22 | 5 => 5 | n => n, fun | n => n⟩
theorem Tryd.lays241 : Go.Proofs.Lays.n241 Tryd.prog Tryd.lays241_ren := {
  mixed := by kernel_rfl
  f241 := Tryd.func74.trans (congrArg some (by kernel_rfl))
  f277 := Tryd.func80.trans (congrArg some (by kernel_rfl))
  t0 := Tryd.underlying0
  a0 := Tryd.isAgg0
  z0 := Tryd.sizeOf0
  v0 := Tryd.zeroValue0
  t3 := Tryd.underlying3
  a3 := Tryd.isAgg3
  z3 := Tryd.sizeOf3
  v3 := Tryd.zeroValue3
  t37 := Tryd.underlying22
  a37 := Tryd.isAgg22
  z37 := Tryd.sizeOf22
  v37 := Tryd.zeroValue22
  t70 := Tryd.underlying81
  a70 := Tryd.isAgg81
  z70 := Tryd.sizeOf81
  v70 := Tryd.zeroValue81
  t72 := Tryd.underlying83
  a72 := Tryd.isAgg83
  z72 := Tryd.sizeOf83
  v72 := Tryd.zeroValue83 }
theorem Tryd.Builder_Extra_241 : Builder.Extra Tryd.prog Tryd.lays241_ren := {
  sizeBuilder := by kernel_rfl
  liesBuilder := by kernel_rfl
  t5 := Tryd.underlying5
  a5 := Tryd.isAgg5
  z5 := Tryd.sizeOf5
  v5 := Tryd.zeroValue5
  infoByte := by kernel_rfl
  cellsByte := by kernel_rfl
  sizeByte := by kernel_rfl
  neB5 := by decide }
open Go.RowKit in
/-- (*strings.Builder).grow (no doc but "grow copies the buffer to a new, larger buffer so that there are at least n bytes of capacity beyond len(b.buf)."): AT A BUILDER WITHOUT A BUFFER: a new row of whatever bytes for its buffer, none of them its own yet. Three draws. (LAID: no walk: one application.) -/
theorem Tryd.Builder_grow_fresh (B b n : Nat) (w : World) (hB : B ≤ b) (hbk : w.heap[b]? = some (.cells #[.pointer (some ⟨b, 0, none⟩), .slice none 0 0] 83 (0, 0))) (hBw : B ≤ w.heap.size) (hn : n ≤ 281474976710656) :
    Calls Tryd.prog 74 #[.pointer (some ⟨b, 0, none⟩), .int .i64 n] w fun e w' => e = .returned (.tuple #[]) ∧ (Lib.BuilderAt 83 5 B b (.pointer (some ⟨b, 0, none⟩)) [] w' ∧ Below B w w') := Any.Builder_grow_fresh Tryd.lays241 Tryd.Builder_Extra_241 B b n w hB hbk hBw hn
def Tryd.lays165_ren : Go.Shelf.Ren := ⟨fun | 165 => 63 | 240 => 73 | 241 => 74 | 276 => 79 | 277 => 80 | n => n, fun | 70 => 81 | 3 => 3 | 0 => 0 | 4 => 4 | 9 => 9 | 20 => 20 | 72 => 83 | 37 => 22 | 164 => 104 | 5 => 5 | n => n, fun | n => n⟩
theorem Tryd.lays165 : Go.Proofs.Lays.n165 Tryd.prog Tryd.lays165_ren := {
  mixed := by kernel_rfl
  f165 := Tryd.func63.trans (congrArg some (by kernel_rfl))
  f240 := Tryd.func73.trans (congrArg some (by kernel_rfl))
  f241 := Tryd.func74.trans (congrArg some (by kernel_rfl))
  f276 := Tryd.func79.trans (congrArg some (by kernel_rfl))
  f277 := Tryd.func80.trans (congrArg some (by kernel_rfl))
  t0 := Tryd.underlying0
  a0 := Tryd.isAgg0
  z0 := Tryd.sizeOf0
  v0 := Tryd.zeroValue0
  t3 := Tryd.underlying3
  a3 := Tryd.isAgg3
  z3 := Tryd.sizeOf3
  v3 := Tryd.zeroValue3
  t4 := Tryd.underlying4
  a4 := Tryd.isAgg4
  z4 := Tryd.sizeOf4
  v4 := Tryd.zeroValue4
  t9 := Tryd.underlying9
  a9 := Tryd.isAgg9
  z9 := Tryd.sizeOf9
  v9 := Tryd.zeroValue9
  t20 := Tryd.underlying20
  a20 := Tryd.isAgg20
  z20 := Tryd.sizeOf20
  v20 := Tryd.zeroValue20
  t37 := Tryd.underlying22
  a37 := Tryd.isAgg22
  z37 := Tryd.sizeOf22
  v37 := Tryd.zeroValue22
  t70 := Tryd.underlying81
  a70 := Tryd.isAgg81
  z70 := Tryd.sizeOf81
  v70 := Tryd.zeroValue81
  t72 := Tryd.underlying83
  a72 := Tryd.isAgg83
  z72 := Tryd.sizeOf83
  v72 := Tryd.zeroValue83
  t164 := Tryd.underlying104
  a164 := Tryd.isAgg104
  z164 := Tryd.sizeOf104
  v164 := Tryd.zeroValue104 }
theorem Tryd.Builder_Extra_165 : Builder.Extra Tryd.prog Tryd.lays165_ren := {
  sizeBuilder := by kernel_rfl
  liesBuilder := by kernel_rfl
  t5 := Tryd.underlying5
  a5 := Tryd.isAgg5
  z5 := Tryd.sizeOf5
  v5 := Tryd.zeroValue5
  infoByte := by kernel_rfl
  cellsByte := by kernel_rfl
  sizeByte := by kernel_rfl
  neB5 := by decide }
open Go.RowKit in
/-- (*strings.Builder).Grow AT A BUILDER THAT HAS NOT BEEN WRITTEN ('var b strings.Builder; b.Grow(n)'): "Grow grows b's capacity, if necessary, to guarantee space for another n bytes.": it holds no byte behind it as before it. (LAID: no walk: one application.) -/
theorem Tryd.Builder_Grow_fresh (B b n : Nat) (w : World) (hB : B ≤ b) (hbk : w.heap[b]? = some (.cells #[.pointer none, .slice none 0 0] 83 (0, 0))) (hBw : B ≤ w.heap.size) (hn : n ≤ 281474976710656) :
    Calls Tryd.prog 63 #[.pointer (some ⟨b, 0, none⟩), .int .i64 n] w fun e w' => e = .returned (.tuple #[]) ∧ (Lib.BuilderAt 83 5 B b (.pointer (some ⟨b, 0, none⟩)) [] w' ∧ Below B w w') := Any.Builder_Grow_fresh Tryd.lays165 Tryd.Builder_Extra_165 B b n w hB hbk hBw hn
def Tryd.lays156_ren : Go.Shelf.Ren := ⟨fun | 156 => 52 | 165 => 63 | 166 => 64 | 169 => 65 | 240 => 73 | 241 => 74 | 276 => 79 | 277 => 80 | n => n, fun | 31 => 63 | 9 => 9 | 3 => 3 | 4 => 4 | 0 => 0 | 20 => 20 | 72 => 83 | 76 => 87 | 70 => 81 | 37 => 22 | 75 => 86 | 127 => 95 | 164 => 104 | 5 => 5 | 80 => 46 | n => n, fun | n => n⟩
theorem Tryd.lays156 : Go.Proofs.Lays.n156 Tryd.prog Tryd.lays156_ren := {
  mixed := by kernel_rfl
  f156 := Tryd.func52.trans (congrArg some (by kernel_rfl))
  f165 := Tryd.func63.trans (congrArg some (by kernel_rfl))
  f166 := Tryd.func64.trans (congrArg some (by kernel_rfl))
  f169 := Tryd.func65.trans (congrArg some (by kernel_rfl))
  f240 := Tryd.func73.trans (congrArg some (by kernel_rfl))
  f241 := Tryd.func74.trans (congrArg some (by kernel_rfl))
  f276 := Tryd.func79.trans (congrArg some (by kernel_rfl))
  f277 := Tryd.func80.trans (congrArg some (by kernel_rfl))
  t0 := Tryd.underlying0
  a0 := Tryd.isAgg0
  z0 := Tryd.sizeOf0
  v0 := Tryd.zeroValue0
  t3 := Tryd.underlying3
  a3 := Tryd.isAgg3
  z3 := Tryd.sizeOf3
  v3 := Tryd.zeroValue3
  t4 := Tryd.underlying4
  a4 := Tryd.isAgg4
  z4 := Tryd.sizeOf4
  v4 := Tryd.zeroValue4
  t9 := Tryd.underlying9
  a9 := Tryd.isAgg9
  z9 := Tryd.sizeOf9
  v9 := Tryd.zeroValue9
  t20 := Tryd.underlying20
  a20 := Tryd.isAgg20
  z20 := Tryd.sizeOf20
  v20 := Tryd.zeroValue20
  t31 := Tryd.underlying63
  a31 := Tryd.isAgg63
  z31 := Tryd.sizeOf63
  v31 := Tryd.zeroValue63
  t37 := Tryd.underlying22
  a37 := Tryd.isAgg22
  z37 := Tryd.sizeOf22
  v37 := Tryd.zeroValue22
  t70 := Tryd.underlying81
  a70 := Tryd.isAgg81
  z70 := Tryd.sizeOf81
  v70 := Tryd.zeroValue81
  t72 := Tryd.underlying83
  a72 := Tryd.isAgg83
  z72 := Tryd.sizeOf83
  v72 := Tryd.zeroValue83
  t75 := Tryd.underlying86
  a75 := Tryd.isAgg86
  z75 := Tryd.sizeOf86
  v75 := Tryd.zeroValue86
  t76 := Tryd.underlying87
  a76 := Tryd.isAgg87
  z76 := Tryd.sizeOf87
  v76 := Tryd.zeroValue87
  t127 := Tryd.underlying95
  a127 := Tryd.isAgg95
  z127 := Tryd.sizeOf95
  v127 := Tryd.zeroValue95
  t164 := Tryd.underlying104
  a164 := Tryd.isAgg104
  z164 := Tryd.sizeOf104
  v164 := Tryd.zeroValue104 }
theorem Tryd.Builder_Extra_156 : Builder.Extra Tryd.prog Tryd.lays156_ren := {
  sizeBuilder := by kernel_rfl
  liesBuilder := by kernel_rfl
  t5 := Tryd.underlying5
  a5 := Tryd.isAgg5
  z5 := Tryd.sizeOf5
  v5 := Tryd.zeroValue5
  infoByte := by kernel_rfl
  cellsByte := by kernel_rfl
  sizeByte := by kernel_rfl
  neB5 := by decide }
open Go.RowKit in
/-- No element: the empty string; the world is as it was. (Whatever the slice's address and capacity: a nil slice too.) (LAID: no walk: one application.) -/
theorem Tryd.strings_Join_none (a : Option Addr) (c : Nat) (sep : ByteArray) (w : World) :
    Calls Tryd.prog 52 #[.slice a 0 c, .string sep] w fun e w' => e = .returned (.string ⟨#[]⟩) ∧ w' = w := Any.strings_Join_none Tryd.lays156 Tryd.Builder_Extra_156 a c sep w
open Go.RowKit in
/-- strings.Join: "Join concatenates the elements of its first argument to create a single string. The separator string sep is placed between elements in the resulting string.": HOWEVER MANY ELEMENTS. Below the heap's end the world is as it was. (LAID: no walk: one application.) -/
theorem Tryd.strings_Join (bk o c : Nat) (xs : List ByteArray) (sep : ByteArray) (w : World) (hcells : ∀ (j : Nat) x, xs[j]? = some x → w.cell? ⟨bk, o + j, none⟩ = some (.string x)) (hbk : bk < w.heap.size) (hN : xs.length ≤ 140737488355328) (hcap : xs.length ≤ c) (hlen : (Lib.join (xs.map (·.data.toList)) sep.data.toList).length ≤ 140737488355328) :
    Calls Tryd.prog 52 #[.slice (some ⟨bk, o, none⟩) xs.length c, .string sep] w fun e w' => e = .returned (.string ⟨(Lib.join (xs.map (·.data.toList)) sep.data.toList).toArray⟩) ∧ Below w.heap.size w w' := Any.strings_Join Tryd.lays156 Tryd.Builder_Extra_156 bk o c xs sep w hcells hbk hN hcap hlen
def Tryd.laysM246_ren : Go.Shelf.Ren := ⟨fun | 246 => 75 | 283 => 81 | 284 => 82 | 285 => 83 | 286 => 84 | 129 => 86 | 317 => 85 | 318 => 87 | 319 => 88 | 320 => 89 | 337 => 90 | 338 => 91 | n => n, fun | 2 => 2 | 3 => 3 | 9 => 9 | 4 => 4 | 171 => 107 | 0 => 0 | 53 => 101 | 37 => 22 | 5 => 5 | 173 => 110 | 212 => 113 | 51 => 98 | 20 => 20 | 213 => 114 | 46 => 91 | 232 => 117 | 233 => 118 | n => n, fun | 17 => 3 | 18 => 4 | 19 => 5 | n => n⟩
theorem Tryd.laysM246 : Go.Proofs.LaysM.n246 Tryd.prog Tryd.laysM246_ren := {
  mixed := by kernel_rfl
  f129 := Tryd.func86.trans (congrArg some (by kernel_rfl))
  f246 := Tryd.func75.trans (congrArg some (by kernel_rfl))
  f283 := Tryd.func81.trans (congrArg some (by kernel_rfl))
  f284 := Tryd.func82.trans (congrArg some (by kernel_rfl))
  f285 := Tryd.func83.trans (congrArg some (by kernel_rfl))
  f286 := Tryd.func84.trans (congrArg some (by kernel_rfl))
  f317 := Tryd.func85.trans (congrArg some (by kernel_rfl))
  f318 := Tryd.func87.trans (congrArg some (by kernel_rfl))
  f319 := Tryd.func88.trans (congrArg some (by kernel_rfl))
  f320 := Tryd.func89.trans (congrArg some (by kernel_rfl))
  f337 := Tryd.func90.trans (congrArg some (by kernel_rfl))
  f338 := Tryd.func91.trans (congrArg some (by kernel_rfl))
  t0 := Tryd.underlying0
  a0 := Tryd.isAgg0
  z0 := Tryd.sizeOf0
  v0 := Tryd.zeroValue0
  t2 := Tryd.underlying2
  a2 := Tryd.isAgg2
  z2 := Tryd.sizeOf2
  v2 := Tryd.zeroValue2
  t3 := Tryd.underlying3
  a3 := Tryd.isAgg3
  z3 := Tryd.sizeOf3
  v3 := Tryd.zeroValue3
  t4 := Tryd.underlying4
  a4 := Tryd.isAgg4
  z4 := Tryd.sizeOf4
  v4 := Tryd.zeroValue4
  t5 := Tryd.underlying5
  a5 := Tryd.isAgg5
  z5 := Tryd.sizeOf5
  v5 := Tryd.zeroValue5
  t9 := Tryd.underlying9
  a9 := Tryd.isAgg9
  z9 := Tryd.sizeOf9
  v9 := Tryd.zeroValue9
  t20 := Tryd.underlying20
  a20 := Tryd.isAgg20
  z20 := Tryd.sizeOf20
  v20 := Tryd.zeroValue20
  t37 := Tryd.underlying22
  a37 := Tryd.isAgg22
  z37 := Tryd.sizeOf22
  v37 := Tryd.zeroValue22
  t46 := Tryd.underlying91
  a46 := Tryd.isAgg91
  z46 := Tryd.sizeOf91
  v46 := Tryd.zeroValue91
  t51 := Tryd.underlying98
  a51 := Tryd.isAgg98
  z51 := Tryd.sizeOf98
  v51 := Tryd.zeroValue98
  t53 := Tryd.underlying101
  a53 := Tryd.isAgg101
  z53 := Tryd.sizeOf101
  v53 := Tryd.zeroValue101
  t171 := Tryd.underlying107
  a171 := Tryd.isAgg107
  z171 := Tryd.sizeOf107
  v171 := Tryd.zeroValue107
  t173 := Tryd.underlying110
  a173 := Tryd.isAgg110
  z173 := Tryd.sizeOf110
  v173 := Tryd.zeroValue110
  t212 := Tryd.underlying113
  a212 := Tryd.isAgg113
  z212 := Tryd.sizeOf113
  v212 := Tryd.zeroValue113
  t213 := Tryd.underlying114
  a213 := Tryd.isAgg114
  z213 := Tryd.sizeOf114
  t232 := Tryd.underlying117
  a232 := Tryd.isAgg117
  z232 := Tryd.sizeOf117
  v232 := Tryd.zeroValue117
  t233 := Tryd.underlying118
  a233 := Tryd.isAgg118
  z233 := Tryd.sizeOf118
  v233 := Tryd.zeroValue118
  g17 := by kernel_rfl
  g18 := by kernel_rfl
  g19 := by kernel_rfl
  i0 := by kernel_rfl
  i2 := by kernel_rfl
  i3 := by kernel_rfl
  i4 := by kernel_rfl
  i5 := by kernel_rfl
  i9 := by kernel_rfl
  i20 := by kernel_rfl
  i37 := by kernel_rfl
  i46 := by kernel_rfl
  i51 := by kernel_rfl
  i53 := by kernel_rfl
  i171 := by kernel_rfl
  i173 := by kernel_rfl
  i212 := by kernel_rfl
  i232 := by kernel_rfl
  i233 := by kernel_rfl
  m17 := by kernel_rfl
  m18 := by kernel_rfl
  m19 := by kernel_rfl }
open Go.RowKit Go.Sort Go.Lib in
/-- internal/strconv.FormatInt: "FormatInt returns the string representation of i in the given base": AT BASE 10: i's decimal numeral, for every int64. The world behind the call: the world before it, new blocks behind the heap, draws. (LAID: no walk: one application.) -/
theorem Tryd.internal_strconv_FormatInt_10 (n : Int) (h0 : -9223372036854775808 ≤ n) (h1 : n ≤ 9223372036854775807) (w : World) (htab : Lib.TabIs Tryd.prog w "internal/strconv.uint64pow10" .u64 Lib.pow10Tab) :
    Calls Tryd.prog 75 #[.int .i64 n, .int .i64 10] w fun e w' => e = .returned (.string ⟨(Lib.itoa n).toArray⟩) ∧ ∃ k os, w' = grow (w.drewN k) os := Any.internal_strconv_FormatInt_10 Tryd.laysM246 n h0 h1 w htab
def Tryd.lays246_ren : Go.Shelf.Ren := ⟨fun | 246 => 75 | 283 => 81 | 284 => 82 | 285 => 83 | 286 => 84 | 129 => 86 | 317 => 85 | 318 => 87 | 319 => 88 | 320 => 89 | 337 => 90 | 338 => 91 | n => n, fun | 2 => 2 | 3 => 3 | 9 => 9 | 4 => 4 | 171 => 107 | 0 => 0 | 53 => 101 | 37 => 22 | 5 => 5 | 173 => 110 | 212 => 113 | 51 => 98 | 20 => 20 | 213 => 114 | 46 => 91 | 232 => 117 | 233 => 118 | n => n, fun | 17 => 3 | 18 => 4 | 19 => 5 | n => n⟩
theorem Tryd.lays246 : Go.Proofs.Lays.n246 Tryd.prog Tryd.lays246_ren := {
  mixed := by kernel_rfl
  f129 := Tryd.func86.trans (congrArg some (by kernel_rfl))
  f246 := Tryd.func75.trans (congrArg some (by kernel_rfl))
  f283 := Tryd.func81.trans (congrArg some (by kernel_rfl))
  f284 := Tryd.func82.trans (congrArg some (by kernel_rfl))
  f285 := Tryd.func83.trans (congrArg some (by kernel_rfl))
  f286 := Tryd.func84.trans (congrArg some (by kernel_rfl))
  f317 := Tryd.func85.trans (congrArg some (by kernel_rfl))
  f318 := Tryd.func87.trans (congrArg some (by kernel_rfl))
  f319 := Tryd.func88.trans (congrArg some (by kernel_rfl))
  f320 := Tryd.func89.trans (congrArg some (by kernel_rfl))
  f337 := Tryd.func90.trans (congrArg some (by kernel_rfl))
  f338 := Tryd.func91.trans (congrArg some (by kernel_rfl))
  t0 := Tryd.underlying0
  a0 := Tryd.isAgg0
  z0 := Tryd.sizeOf0
  v0 := Tryd.zeroValue0
  t2 := Tryd.underlying2
  a2 := Tryd.isAgg2
  z2 := Tryd.sizeOf2
  v2 := Tryd.zeroValue2
  t3 := Tryd.underlying3
  a3 := Tryd.isAgg3
  z3 := Tryd.sizeOf3
  v3 := Tryd.zeroValue3
  t4 := Tryd.underlying4
  a4 := Tryd.isAgg4
  z4 := Tryd.sizeOf4
  v4 := Tryd.zeroValue4
  t5 := Tryd.underlying5
  a5 := Tryd.isAgg5
  z5 := Tryd.sizeOf5
  v5 := Tryd.zeroValue5
  t9 := Tryd.underlying9
  a9 := Tryd.isAgg9
  z9 := Tryd.sizeOf9
  v9 := Tryd.zeroValue9
  t20 := Tryd.underlying20
  a20 := Tryd.isAgg20
  z20 := Tryd.sizeOf20
  v20 := Tryd.zeroValue20
  t37 := Tryd.underlying22
  a37 := Tryd.isAgg22
  z37 := Tryd.sizeOf22
  v37 := Tryd.zeroValue22
  t46 := Tryd.underlying91
  a46 := Tryd.isAgg91
  z46 := Tryd.sizeOf91
  v46 := Tryd.zeroValue91
  t51 := Tryd.underlying98
  a51 := Tryd.isAgg98
  z51 := Tryd.sizeOf98
  v51 := Tryd.zeroValue98
  t53 := Tryd.underlying101
  a53 := Tryd.isAgg101
  z53 := Tryd.sizeOf101
  v53 := Tryd.zeroValue101
  t171 := Tryd.underlying107
  a171 := Tryd.isAgg107
  z171 := Tryd.sizeOf107
  v171 := Tryd.zeroValue107
  t173 := Tryd.underlying110
  a173 := Tryd.isAgg110
  z173 := Tryd.sizeOf110
  v173 := Tryd.zeroValue110
  t212 := Tryd.underlying113
  a212 := Tryd.isAgg113
  z212 := Tryd.sizeOf113
  v212 := Tryd.zeroValue113
  t213 := Tryd.underlying114
  a213 := Tryd.isAgg114
  z213 := Tryd.sizeOf114
  t232 := Tryd.underlying117
  a232 := Tryd.isAgg117
  z232 := Tryd.sizeOf117
  v232 := Tryd.zeroValue117
  t233 := Tryd.underlying118
  a233 := Tryd.isAgg118
  z233 := Tryd.sizeOf118
  v233 := Tryd.zeroValue118
  g17 := by kernel_rfl
  g18 := by kernel_rfl
  g19 := by kernel_rfl }
open Go.RowKit Go.Sort Go.Lib in
/-- THE ROAD WITHOUT THE TABLE: 0 <= i < 100: two constants are read, nothing is laid: no premise on the world, and the world is as it was. (LAID: no walk: one application.) -/
theorem Tryd.internal_strconv_FormatInt_10_small (i : Nat) (hi : i < 100) (w : World) :
    Calls Tryd.prog 75 #[.int .i64 i, .int .i64 10] w fun e w' => e = .returned (.string ⟨(Lib.decDigits i).toArray⟩) ∧ w' = w := Any.internal_strconv_FormatInt_10_small Tryd.lays246 i hi w
def Tryd.laysM243_ren : Go.Shelf.Ren := ⟨fun | 243 => 69 | 246 => 75 | 283 => 81 | 284 => 82 | 285 => 83 | 286 => 84 | 129 => 86 | 317 => 85 | 318 => 87 | 319 => 88 | 320 => 89 | 337 => 90 | 338 => 91 | n => n, fun | 3 => 3 | 9 => 9 | 2 => 2 | 4 => 4 | 171 => 107 | 0 => 0 | 53 => 101 | 37 => 22 | 5 => 5 | 173 => 110 | 212 => 113 | 51 => 98 | 20 => 20 | 213 => 114 | 46 => 91 | 232 => 117 | 233 => 118 | n => n, fun | 17 => 3 | 18 => 4 | 19 => 5 | n => n⟩
theorem Tryd.laysM243 : Go.Proofs.LaysM.n243 Tryd.prog Tryd.laysM243_ren := {
  mixed := by kernel_rfl
  f129 := Tryd.func86.trans (congrArg some (by kernel_rfl))
  f243 := Tryd.func69.trans (congrArg some (by kernel_rfl))
  f246 := Tryd.func75.trans (congrArg some (by kernel_rfl))
  f283 := Tryd.func81.trans (congrArg some (by kernel_rfl))
  f284 := Tryd.func82.trans (congrArg some (by kernel_rfl))
  f285 := Tryd.func83.trans (congrArg some (by kernel_rfl))
  f286 := Tryd.func84.trans (congrArg some (by kernel_rfl))
  f317 := Tryd.func85.trans (congrArg some (by kernel_rfl))
  f318 := Tryd.func87.trans (congrArg some (by kernel_rfl))
  f319 := Tryd.func88.trans (congrArg some (by kernel_rfl))
  f320 := Tryd.func89.trans (congrArg some (by kernel_rfl))
  f337 := Tryd.func90.trans (congrArg some (by kernel_rfl))
  f338 := Tryd.func91.trans (congrArg some (by kernel_rfl))
  t0 := Tryd.underlying0
  a0 := Tryd.isAgg0
  z0 := Tryd.sizeOf0
  v0 := Tryd.zeroValue0
  t2 := Tryd.underlying2
  a2 := Tryd.isAgg2
  z2 := Tryd.sizeOf2
  v2 := Tryd.zeroValue2
  t3 := Tryd.underlying3
  a3 := Tryd.isAgg3
  z3 := Tryd.sizeOf3
  v3 := Tryd.zeroValue3
  t4 := Tryd.underlying4
  a4 := Tryd.isAgg4
  z4 := Tryd.sizeOf4
  v4 := Tryd.zeroValue4
  t5 := Tryd.underlying5
  a5 := Tryd.isAgg5
  z5 := Tryd.sizeOf5
  v5 := Tryd.zeroValue5
  t9 := Tryd.underlying9
  a9 := Tryd.isAgg9
  z9 := Tryd.sizeOf9
  v9 := Tryd.zeroValue9
  t20 := Tryd.underlying20
  a20 := Tryd.isAgg20
  z20 := Tryd.sizeOf20
  v20 := Tryd.zeroValue20
  t37 := Tryd.underlying22
  a37 := Tryd.isAgg22
  z37 := Tryd.sizeOf22
  v37 := Tryd.zeroValue22
  t46 := Tryd.underlying91
  a46 := Tryd.isAgg91
  z46 := Tryd.sizeOf91
  v46 := Tryd.zeroValue91
  t51 := Tryd.underlying98
  a51 := Tryd.isAgg98
  z51 := Tryd.sizeOf98
  v51 := Tryd.zeroValue98
  t53 := Tryd.underlying101
  a53 := Tryd.isAgg101
  z53 := Tryd.sizeOf101
  v53 := Tryd.zeroValue101
  t171 := Tryd.underlying107
  a171 := Tryd.isAgg107
  z171 := Tryd.sizeOf107
  v171 := Tryd.zeroValue107
  t173 := Tryd.underlying110
  a173 := Tryd.isAgg110
  z173 := Tryd.sizeOf110
  v173 := Tryd.zeroValue110
  t212 := Tryd.underlying113
  a212 := Tryd.isAgg113
  z212 := Tryd.sizeOf113
  v212 := Tryd.zeroValue113
  t213 := Tryd.underlying114
  a213 := Tryd.isAgg114
  z213 := Tryd.sizeOf114
  t232 := Tryd.underlying117
  a232 := Tryd.isAgg117
  z232 := Tryd.sizeOf117
  v232 := Tryd.zeroValue117
  t233 := Tryd.underlying118
  a233 := Tryd.isAgg118
  z233 := Tryd.sizeOf118
  v233 := Tryd.zeroValue118
  g17 := by kernel_rfl
  g18 := by kernel_rfl
  g19 := by kernel_rfl
  i0 := by kernel_rfl
  i2 := by kernel_rfl
  i3 := by kernel_rfl
  i4 := by kernel_rfl
  i5 := by kernel_rfl
  i9 := by kernel_rfl
  i20 := by kernel_rfl
  i37 := by kernel_rfl
  i46 := by kernel_rfl
  i51 := by kernel_rfl
  i53 := by kernel_rfl
  i171 := by kernel_rfl
  i173 := by kernel_rfl
  i212 := by kernel_rfl
  i232 := by kernel_rfl
  i233 := by kernel_rfl
  m17 := by kernel_rfl
  m18 := by kernel_rfl
  m19 := by kernel_rfl }
open Go.RowKit Go.Sort Go.Lib in
/-- internal/strconv.Itoa: "Itoa is equivalent to FormatInt(int64(i), 10).": i's decimal numeral, for every int. (LAID: no walk: one application.) -/
theorem Tryd.internal_strconv_Itoa (n : Int) (h0 : -9223372036854775808 ≤ n) (h1 : n ≤ 9223372036854775807) (w : World) (htab : Lib.TabIs Tryd.prog w "internal/strconv.uint64pow10" .u64 Lib.pow10Tab) :
    Calls Tryd.prog 69 #[.int .i64 n] w fun e w' => e = .returned (.string ⟨(Lib.itoa n).toArray⟩) ∧ ∃ k os, w' = grow (w.drewN k) os := Any.internal_strconv_Itoa Tryd.laysM243 n h0 h1 w htab
def Tryd.lays243_ren : Go.Shelf.Ren := ⟨fun | 243 => 69 | 246 => 75 | 283 => 81 | 284 => 82 | 285 => 83 | 286 => 84 | 129 => 86 | 317 => 85 | 318 => 87 | 319 => 88 | 320 => 89 | 337 => 90 | 338 => 91 | n => n, fun | 3 => 3 | 9 => 9 | 2 => 2 | 4 => 4 | 171 => 107 | 0 => 0 | 53 => 101 | 37 => 22 | 5 => 5 | 173 => 110 | 212 => 113 | 51 => 98 | 20 => 20 | 213 => 114 | 46 => 91 | 232 => 117 | 233 => 118 | n => n, fun | 17 => 3 | 18 => 4 | 19 => 5 | n => n⟩
theorem Tryd.lays243 : Go.Proofs.Lays.n243 Tryd.prog Tryd.lays243_ren := {
  mixed := by kernel_rfl
  f129 := Tryd.func86.trans (congrArg some (by kernel_rfl))
  f243 := Tryd.func69.trans (congrArg some (by kernel_rfl))
  f246 := Tryd.func75.trans (congrArg some (by kernel_rfl))
  f283 := Tryd.func81.trans (congrArg some (by kernel_rfl))
  f284 := Tryd.func82.trans (congrArg some (by kernel_rfl))
  f285 := Tryd.func83.trans (congrArg some (by kernel_rfl))
  f286 := Tryd.func84.trans (congrArg some (by kernel_rfl))
  f317 := Tryd.func85.trans (congrArg some (by kernel_rfl))
  f318 := Tryd.func87.trans (congrArg some (by kernel_rfl))
  f319 := Tryd.func88.trans (congrArg some (by kernel_rfl))
  f320 := Tryd.func89.trans (congrArg some (by kernel_rfl))
  f337 := Tryd.func90.trans (congrArg some (by kernel_rfl))
  f338 := Tryd.func91.trans (congrArg some (by kernel_rfl))
  t0 := Tryd.underlying0
  a0 := Tryd.isAgg0
  z0 := Tryd.sizeOf0
  v0 := Tryd.zeroValue0
  t2 := Tryd.underlying2
  a2 := Tryd.isAgg2
  z2 := Tryd.sizeOf2
  v2 := Tryd.zeroValue2
  t3 := Tryd.underlying3
  a3 := Tryd.isAgg3
  z3 := Tryd.sizeOf3
  v3 := Tryd.zeroValue3
  t4 := Tryd.underlying4
  a4 := Tryd.isAgg4
  z4 := Tryd.sizeOf4
  v4 := Tryd.zeroValue4
  t5 := Tryd.underlying5
  a5 := Tryd.isAgg5
  z5 := Tryd.sizeOf5
  v5 := Tryd.zeroValue5
  t9 := Tryd.underlying9
  a9 := Tryd.isAgg9
  z9 := Tryd.sizeOf9
  v9 := Tryd.zeroValue9
  t20 := Tryd.underlying20
  a20 := Tryd.isAgg20
  z20 := Tryd.sizeOf20
  v20 := Tryd.zeroValue20
  t37 := Tryd.underlying22
  a37 := Tryd.isAgg22
  z37 := Tryd.sizeOf22
  v37 := Tryd.zeroValue22
  t46 := Tryd.underlying91
  a46 := Tryd.isAgg91
  z46 := Tryd.sizeOf91
  v46 := Tryd.zeroValue91
  t51 := Tryd.underlying98
  a51 := Tryd.isAgg98
  z51 := Tryd.sizeOf98
  v51 := Tryd.zeroValue98
  t53 := Tryd.underlying101
  a53 := Tryd.isAgg101
  z53 := Tryd.sizeOf101
  v53 := Tryd.zeroValue101
  t171 := Tryd.underlying107
  a171 := Tryd.isAgg107
  z171 := Tryd.sizeOf107
  v171 := Tryd.zeroValue107
  t173 := Tryd.underlying110
  a173 := Tryd.isAgg110
  z173 := Tryd.sizeOf110
  v173 := Tryd.zeroValue110
  t212 := Tryd.underlying113
  a212 := Tryd.isAgg113
  z212 := Tryd.sizeOf113
  v212 := Tryd.zeroValue113
  t213 := Tryd.underlying114
  a213 := Tryd.isAgg114
  z213 := Tryd.sizeOf114
  t232 := Tryd.underlying117
  a232 := Tryd.isAgg117
  z232 := Tryd.sizeOf117
  v232 := Tryd.zeroValue117
  t233 := Tryd.underlying118
  a233 := Tryd.isAgg118
  z233 := Tryd.sizeOf118
  v233 := Tryd.zeroValue118
  g17 := by kernel_rfl
  g18 := by kernel_rfl
  g19 := by kernel_rfl }
open Go.RowKit Go.Sort Go.Lib in
/-- THE ROAD WITHOUT THE TABLE: 0 <= i < 100. (LAID: no walk: one application.) -/
theorem Tryd.internal_strconv_Itoa_small (i : Nat) (hi : i < 100) (w : World) :
    Calls Tryd.prog 69 #[.int .i64 i] w fun e w' => e = .returned (.string ⟨(Lib.decDigits i).toArray⟩) ∧ w' = w := Any.internal_strconv_Itoa_small Tryd.lays243 i hi w
def Tryd.laysM171_ren : Go.Shelf.Ren := ⟨fun | 171 => 54 | 243 => 69 | 246 => 75 | 283 => 81 | 284 => 82 | 285 => 83 | 286 => 84 | 129 => 86 | 317 => 85 | 318 => 87 | 319 => 88 | 320 => 89 | 337 => 90 | 338 => 91 | n => n, fun | 3 => 3 | 9 => 9 | 2 => 2 | 4 => 4 | 171 => 107 | 0 => 0 | 53 => 101 | 37 => 22 | 5 => 5 | 173 => 110 | 212 => 113 | 51 => 98 | 20 => 20 | 213 => 114 | 46 => 91 | 232 => 117 | 233 => 118 | n => n, fun | 17 => 3 | 18 => 4 | 19 => 5 | n => n⟩
theorem Tryd.laysM171 : Go.Proofs.LaysM.n171 Tryd.prog Tryd.laysM171_ren := {
  mixed := by kernel_rfl
  f129 := Tryd.func86.trans (congrArg some (by kernel_rfl))
  f171 := Tryd.func54.trans (congrArg some (by kernel_rfl))
  f243 := Tryd.func69.trans (congrArg some (by kernel_rfl))
  f246 := Tryd.func75.trans (congrArg some (by kernel_rfl))
  f283 := Tryd.func81.trans (congrArg some (by kernel_rfl))
  f284 := Tryd.func82.trans (congrArg some (by kernel_rfl))
  f285 := Tryd.func83.trans (congrArg some (by kernel_rfl))
  f286 := Tryd.func84.trans (congrArg some (by kernel_rfl))
  f317 := Tryd.func85.trans (congrArg some (by kernel_rfl))
  f318 := Tryd.func87.trans (congrArg some (by kernel_rfl))
  f319 := Tryd.func88.trans (congrArg some (by kernel_rfl))
  f320 := Tryd.func89.trans (congrArg some (by kernel_rfl))
  f337 := Tryd.func90.trans (congrArg some (by kernel_rfl))
  f338 := Tryd.func91.trans (congrArg some (by kernel_rfl))
  t0 := Tryd.underlying0
  a0 := Tryd.isAgg0
  z0 := Tryd.sizeOf0
  v0 := Tryd.zeroValue0
  t2 := Tryd.underlying2
  a2 := Tryd.isAgg2
  z2 := Tryd.sizeOf2
  v2 := Tryd.zeroValue2
  t3 := Tryd.underlying3
  a3 := Tryd.isAgg3
  z3 := Tryd.sizeOf3
  v3 := Tryd.zeroValue3
  t4 := Tryd.underlying4
  a4 := Tryd.isAgg4
  z4 := Tryd.sizeOf4
  v4 := Tryd.zeroValue4
  t5 := Tryd.underlying5
  a5 := Tryd.isAgg5
  z5 := Tryd.sizeOf5
  v5 := Tryd.zeroValue5
  t9 := Tryd.underlying9
  a9 := Tryd.isAgg9
  z9 := Tryd.sizeOf9
  v9 := Tryd.zeroValue9
  t20 := Tryd.underlying20
  a20 := Tryd.isAgg20
  z20 := Tryd.sizeOf20
  v20 := Tryd.zeroValue20
  t37 := Tryd.underlying22
  a37 := Tryd.isAgg22
  z37 := Tryd.sizeOf22
  v37 := Tryd.zeroValue22
  t46 := Tryd.underlying91
  a46 := Tryd.isAgg91
  z46 := Tryd.sizeOf91
  v46 := Tryd.zeroValue91
  t51 := Tryd.underlying98
  a51 := Tryd.isAgg98
  z51 := Tryd.sizeOf98
  v51 := Tryd.zeroValue98
  t53 := Tryd.underlying101
  a53 := Tryd.isAgg101
  z53 := Tryd.sizeOf101
  v53 := Tryd.zeroValue101
  t171 := Tryd.underlying107
  a171 := Tryd.isAgg107
  z171 := Tryd.sizeOf107
  v171 := Tryd.zeroValue107
  t173 := Tryd.underlying110
  a173 := Tryd.isAgg110
  z173 := Tryd.sizeOf110
  v173 := Tryd.zeroValue110
  t212 := Tryd.underlying113
  a212 := Tryd.isAgg113
  z212 := Tryd.sizeOf113
  v212 := Tryd.zeroValue113
  t213 := Tryd.underlying114
  a213 := Tryd.isAgg114
  z213 := Tryd.sizeOf114
  t232 := Tryd.underlying117
  a232 := Tryd.isAgg117
  z232 := Tryd.sizeOf117
  v232 := Tryd.zeroValue117
  t233 := Tryd.underlying118
  a233 := Tryd.isAgg118
  z233 := Tryd.sizeOf118
  v233 := Tryd.zeroValue118
  g17 := by kernel_rfl
  g18 := by kernel_rfl
  g19 := by kernel_rfl
  i0 := by kernel_rfl
  i2 := by kernel_rfl
  i3 := by kernel_rfl
  i4 := by kernel_rfl
  i5 := by kernel_rfl
  i9 := by kernel_rfl
  i20 := by kernel_rfl
  i37 := by kernel_rfl
  i46 := by kernel_rfl
  i51 := by kernel_rfl
  i53 := by kernel_rfl
  i171 := by kernel_rfl
  i173 := by kernel_rfl
  i212 := by kernel_rfl
  i232 := by kernel_rfl
  i233 := by kernel_rfl
  m17 := by kernel_rfl
  m18 := by kernel_rfl
  m19 := by kernel_rfl }
open Go.RowKit Go.Sort Go.Lib in
/-- strconv.Itoa: "Itoa is equivalent to FormatInt(int64(i), 10).": i's DECIMAL NUMERAL ('Lib.itoa': a '-' where i is negative, then the digits), FOR EVERY int. The world behind the call: the world before it, new blocks behind the heap (the library's 'var a [24]byte'), draws. (LAID: no walk: one application.) -/
theorem Tryd.strconv_Itoa (n : Int) (h0 : -9223372036854775808 ≤ n) (h1 : n ≤ 9223372036854775807) (w : World) (htab : Lib.TabIs Tryd.prog w "internal/strconv.uint64pow10" .u64 Lib.pow10Tab) :
    Calls Tryd.prog 54 #[.int .i64 n] w fun e w' => e = .returned (.string ⟨(Lib.itoa n).toArray⟩) ∧ ∃ k os, w' = grow (w.drewN k) os := Any.strconv_Itoa Tryd.laysM171 n h0 h1 w htab
def Tryd.lays171_ren : Go.Shelf.Ren := ⟨fun | 171 => 54 | 243 => 69 | 246 => 75 | 283 => 81 | 284 => 82 | 285 => 83 | 286 => 84 | 129 => 86 | 317 => 85 | 318 => 87 | 319 => 88 | 320 => 89 | 337 => 90 | 338 => 91 | n => n, fun | 3 => 3 | 9 => 9 | 2 => 2 | 4 => 4 | 171 => 107 | 0 => 0 | 53 => 101 | 37 => 22 | 5 => 5 | 173 => 110 | 212 => 113 | 51 => 98 | 20 => 20 | 213 => 114 | 46 => 91 | 232 => 117 | 233 => 118 | n => n, fun | 17 => 3 | 18 => 4 | 19 => 5 | n => n⟩
theorem Tryd.lays171 : Go.Proofs.Lays.n171 Tryd.prog Tryd.lays171_ren := {
  mixed := by kernel_rfl
  f129 := Tryd.func86.trans (congrArg some (by kernel_rfl))
  f171 := Tryd.func54.trans (congrArg some (by kernel_rfl))
  f243 := Tryd.func69.trans (congrArg some (by kernel_rfl))
  f246 := Tryd.func75.trans (congrArg some (by kernel_rfl))
  f283 := Tryd.func81.trans (congrArg some (by kernel_rfl))
  f284 := Tryd.func82.trans (congrArg some (by kernel_rfl))
  f285 := Tryd.func83.trans (congrArg some (by kernel_rfl))
  f286 := Tryd.func84.trans (congrArg some (by kernel_rfl))
  f317 := Tryd.func85.trans (congrArg some (by kernel_rfl))
  f318 := Tryd.func87.trans (congrArg some (by kernel_rfl))
  f319 := Tryd.func88.trans (congrArg some (by kernel_rfl))
  f320 := Tryd.func89.trans (congrArg some (by kernel_rfl))
  f337 := Tryd.func90.trans (congrArg some (by kernel_rfl))
  f338 := Tryd.func91.trans (congrArg some (by kernel_rfl))
  t0 := Tryd.underlying0
  a0 := Tryd.isAgg0
  z0 := Tryd.sizeOf0
  v0 := Tryd.zeroValue0
  t2 := Tryd.underlying2
  a2 := Tryd.isAgg2
  z2 := Tryd.sizeOf2
  v2 := Tryd.zeroValue2
  t3 := Tryd.underlying3
  a3 := Tryd.isAgg3
  z3 := Tryd.sizeOf3
  v3 := Tryd.zeroValue3
  t4 := Tryd.underlying4
  a4 := Tryd.isAgg4
  z4 := Tryd.sizeOf4
  v4 := Tryd.zeroValue4
  t5 := Tryd.underlying5
  a5 := Tryd.isAgg5
  z5 := Tryd.sizeOf5
  v5 := Tryd.zeroValue5
  t9 := Tryd.underlying9
  a9 := Tryd.isAgg9
  z9 := Tryd.sizeOf9
  v9 := Tryd.zeroValue9
  t20 := Tryd.underlying20
  a20 := Tryd.isAgg20
  z20 := Tryd.sizeOf20
  v20 := Tryd.zeroValue20
  t37 := Tryd.underlying22
  a37 := Tryd.isAgg22
  z37 := Tryd.sizeOf22
  v37 := Tryd.zeroValue22
  t46 := Tryd.underlying91
  a46 := Tryd.isAgg91
  z46 := Tryd.sizeOf91
  v46 := Tryd.zeroValue91
  t51 := Tryd.underlying98
  a51 := Tryd.isAgg98
  z51 := Tryd.sizeOf98
  v51 := Tryd.zeroValue98
  t53 := Tryd.underlying101
  a53 := Tryd.isAgg101
  z53 := Tryd.sizeOf101
  v53 := Tryd.zeroValue101
  t171 := Tryd.underlying107
  a171 := Tryd.isAgg107
  z171 := Tryd.sizeOf107
  v171 := Tryd.zeroValue107
  t173 := Tryd.underlying110
  a173 := Tryd.isAgg110
  z173 := Tryd.sizeOf110
  v173 := Tryd.zeroValue110
  t212 := Tryd.underlying113
  a212 := Tryd.isAgg113
  z212 := Tryd.sizeOf113
  v212 := Tryd.zeroValue113
  t213 := Tryd.underlying114
  a213 := Tryd.isAgg114
  z213 := Tryd.sizeOf114
  t232 := Tryd.underlying117
  a232 := Tryd.isAgg117
  z232 := Tryd.sizeOf117
  v232 := Tryd.zeroValue117
  t233 := Tryd.underlying118
  a233 := Tryd.isAgg118
  z233 := Tryd.sizeOf118
  v233 := Tryd.zeroValue118
  g17 := by kernel_rfl
  g18 := by kernel_rfl
  g19 := by kernel_rfl }
open Go.RowKit Go.Sort Go.Lib in
/-- THE ROAD WITHOUT THE TABLE: 0 <= i < 100: NO PREMISE ON THE WORLD, AND THE WORLD IS AS IT WAS: a row that keeps its argument in that range need list no table ('laid = []'). (LAID: no walk: one application.) -/
theorem Tryd.strconv_Itoa_small (i : Nat) (hi : i < 100) (w : World) :
    Calls Tryd.prog 54 #[.int .i64 i] w fun e w' => e = .returned (.string ⟨(Lib.decDigits i).toArray⟩) ∧ w' = w := Any.strconv_Itoa_small Tryd.lays171 i hi w
def Tryd.lays264_ren : Go.Shelf.Ren := ⟨fun | 264 => 77 | n => n, fun | 53 => 101 | 46 => 91 | n => n, fun | n => n⟩
theorem Tryd.lays264 : Go.Proofs.Lays.n264 Tryd.prog Tryd.lays264_ren := {
  mixed := by kernel_rfl
  f264 := Tryd.func77.trans (congrArg some (by kernel_rfl))
  t46 := Tryd.underlying91
  a46 := Tryd.isAgg91
  z46 := Tryd.sizeOf91
  v46 := Tryd.zeroValue91
  t53 := Tryd.underlying101
  a53 := Tryd.isAgg101
  z53 := Tryd.sizeOf101
  v53 := Tryd.zeroValue101 }
open Go.RowKit Go.Lib in
theorem Tryd.bits_Mul64 (x y : Nat) (hx : x < 18446744073709551616) (hy : y < 18446744073709551616) (w : World) :
    Calls Tryd.prog 77 #[.int .u64 x, .int .u64 y] w fun e w' => e = .returned (.tuple #[.int .u64 ((x * y / 18446744073709551616 : Nat) : Int), .int .u64 ((x * y % 18446744073709551616 : Nat) : Int)]) ∧ w' = w := Any.bits_Mul64 Tryd.lays264 x y hx hy w
def Tryd.lays212_ren : Go.Shelf.Ren := ⟨fun | 212 => 70 | 263 => 76 | 264 => 77 | n => n, fun | 46 => 91 | 51 => 98 | 146 => 99 | 53 => 101 | 148 => 102 | n => n, fun | n => n⟩
theorem Tryd.lays212 : Go.Proofs.Lays.n212 Tryd.prog Tryd.lays212_ren := {
  mixed := by kernel_rfl
  f212 := Tryd.func70.trans (congrArg some (by kernel_rfl))
  f263 := Tryd.func76.trans (congrArg some (by kernel_rfl))
  f264 := Tryd.func77.trans (congrArg some (by kernel_rfl))
  t46 := Tryd.underlying91
  a46 := Tryd.isAgg91
  z46 := Tryd.sizeOf91
  v46 := Tryd.zeroValue91
  t51 := Tryd.underlying98
  a51 := Tryd.isAgg98
  z51 := Tryd.sizeOf98
  v51 := Tryd.zeroValue98
  t53 := Tryd.underlying101
  a53 := Tryd.isAgg101
  z53 := Tryd.sizeOf101
  v53 := Tryd.zeroValue101
  t146 := Tryd.underlying99
  a146 := Tryd.isAgg99
  z146 := Tryd.sizeOf99
  v146 := Tryd.zeroValue99
  t148 := Tryd.underlying102
  a148 := Tryd.isAgg102
  z148 := Tryd.sizeOf102
  v148 := Tryd.zeroValue102 }
open Go.RowKit Go.Lib in
/-- math/bits.Mul: "Mul returns the full-width product of x and y": on a machine of 64 bits: Mul64's. (LAID: no walk: one application.) -/
theorem Tryd.bits_Mul (x y : Nat) (hx : x < 18446744073709551616) (hy : y < 18446744073709551616) (w : World) :
    Calls Tryd.prog 70 #[.int .u64 x, .int .u64 y] w fun e w' => e = .returned (.tuple #[.int .u64 ((x * y / 18446744073709551616 : Nat) : Int), .int .u64 ((x * y % 18446744073709551616 : Nat) : Int)]) ∧ w' = w := Any.bits_Mul Tryd.lays212 x y hx hy w
def Tryd.lays105_ren : Go.Shelf.Ren := ⟨fun | 105 => 62 | 212 => 70 | 99 => 71 | 165 => 63 | 166 => 64 | 170 => 72 | 169 => 65 | 263 => 76 | 264 => 77 | 206 => 78 | 240 => 73 | 241 => 74 | 276 => 79 | 277 => 80 | n => n, fun | 9 => 9 | 3 => 3 | 4 => 4 | 20 => 20 | 0 => 0 | 46 => 91 | 109 => 92 | 5 => 5 | 72 => 83 | 76 => 87 | 51 => 98 | 146 => 99 | 53 => 101 | 148 => 102 | 70 => 81 | 37 => 22 | 75 => 86 | 127 => 95 | 164 => 104 | 80 => 46 | n => n, fun | n => n⟩
theorem Tryd.lays105 : Go.Proofs.Lays.n105 Tryd.prog Tryd.lays105_ren := {
  mixed := by kernel_rfl
  f99 := Tryd.func71.trans (congrArg some (by kernel_rfl))
  f105 := Tryd.func62.trans (congrArg some (by kernel_rfl))
  f165 := Tryd.func63.trans (congrArg some (by kernel_rfl))
  f166 := Tryd.func64.trans (congrArg some (by kernel_rfl))
  f169 := Tryd.func65.trans (congrArg some (by kernel_rfl))
  f170 := Tryd.func72.trans (congrArg some (by kernel_rfl))
  f206 := Tryd.func78.trans (congrArg some (by kernel_rfl))
  f212 := Tryd.func70.trans (congrArg some (by kernel_rfl))
  f240 := Tryd.func73.trans (congrArg some (by kernel_rfl))
  f241 := Tryd.func74.trans (congrArg some (by kernel_rfl))
  f263 := Tryd.func76.trans (congrArg some (by kernel_rfl))
  f264 := Tryd.func77.trans (congrArg some (by kernel_rfl))
  f276 := Tryd.func79.trans (congrArg some (by kernel_rfl))
  f277 := Tryd.func80.trans (congrArg some (by kernel_rfl))
  t0 := Tryd.underlying0
  a0 := Tryd.isAgg0
  z0 := Tryd.sizeOf0
  v0 := Tryd.zeroValue0
  t3 := Tryd.underlying3
  a3 := Tryd.isAgg3
  z3 := Tryd.sizeOf3
  v3 := Tryd.zeroValue3
  t4 := Tryd.underlying4
  a4 := Tryd.isAgg4
  z4 := Tryd.sizeOf4
  v4 := Tryd.zeroValue4
  t5 := Tryd.underlying5
  a5 := Tryd.isAgg5
  z5 := Tryd.sizeOf5
  v5 := Tryd.zeroValue5
  t9 := Tryd.underlying9
  a9 := Tryd.isAgg9
  z9 := Tryd.sizeOf9
  v9 := Tryd.zeroValue9
  t20 := Tryd.underlying20
  a20 := Tryd.isAgg20
  z20 := Tryd.sizeOf20
  v20 := Tryd.zeroValue20
  t37 := Tryd.underlying22
  a37 := Tryd.isAgg22
  z37 := Tryd.sizeOf22
  v37 := Tryd.zeroValue22
  t46 := Tryd.underlying91
  a46 := Tryd.isAgg91
  z46 := Tryd.sizeOf91
  v46 := Tryd.zeroValue91
  t51 := Tryd.underlying98
  a51 := Tryd.isAgg98
  z51 := Tryd.sizeOf98
  v51 := Tryd.zeroValue98
  t53 := Tryd.underlying101
  a53 := Tryd.isAgg101
  z53 := Tryd.sizeOf101
  v53 := Tryd.zeroValue101
  t70 := Tryd.underlying81
  a70 := Tryd.isAgg81
  z70 := Tryd.sizeOf81
  v70 := Tryd.zeroValue81
  t72 := Tryd.underlying83
  a72 := Tryd.isAgg83
  z72 := Tryd.sizeOf83
  v72 := Tryd.zeroValue83
  t75 := Tryd.underlying86
  a75 := Tryd.isAgg86
  z75 := Tryd.sizeOf86
  v75 := Tryd.zeroValue86
  t76 := Tryd.underlying87
  a76 := Tryd.isAgg87
  z76 := Tryd.sizeOf87
  v76 := Tryd.zeroValue87
  t109 := Tryd.underlying92
  a109 := Tryd.isAgg92
  z109 := Tryd.sizeOf92
  v109 := Tryd.zeroValue92
  t127 := Tryd.underlying95
  a127 := Tryd.isAgg95
  z127 := Tryd.sizeOf95
  v127 := Tryd.zeroValue95
  t146 := Tryd.underlying99
  a146 := Tryd.isAgg99
  z146 := Tryd.sizeOf99
  v146 := Tryd.zeroValue99
  t148 := Tryd.underlying102
  a148 := Tryd.isAgg102
  z148 := Tryd.sizeOf102
  v148 := Tryd.zeroValue102
  t164 := Tryd.underlying104
  a164 := Tryd.isAgg104
  z164 := Tryd.sizeOf104
  v164 := Tryd.zeroValue104 }
theorem Tryd.Builder_Extra_105 : Builder.Extra Tryd.prog Tryd.lays105_ren := {
  sizeBuilder := by kernel_rfl
  liesBuilder := by kernel_rfl
  t5 := Tryd.underlying5
  a5 := Tryd.isAgg5
  z5 := Tryd.sizeOf5
  v5 := Tryd.zeroValue5
  infoByte := by kernel_rfl
  cellsByte := by kernel_rfl
  sizeByte := by kernel_rfl
  neB5 := by decide }
open Go.RowKit Go.Lib in
/-- THE MAIN CASE: at least two copies of a string that is not empty. (LAID: no walk: one application.) -/
theorem Tryd.strings_Repeat_main (s : ByteArray) (c : Nat) (w : World) (hc2 : 2 ≤ c) (hc : c ≤ 9223372036854775807) (hlen : s.size * c ≤ 140737488355328) (h0 : 0 < s.size) :
    Calls Tryd.prog 62 #[.string s, .int .i64 c] w fun e w' => e = .returned (.string ⟨(Lib.repeatL s.data.toList c).toArray⟩) ∧ Below w.heap.size w w' := Any.strings_Repeat_main Tryd.lays105 Tryd.Builder_Extra_105 s c w hc2 hc hlen h0
open Go.RowKit Go.Lib in
theorem Tryd.strings_Repeat_zero (s : ByteArray) (w : World) :
    Calls Tryd.prog 62 #[.string s, .int .i64 0] w fun e w' => e = .returned (.string ⟨#[]⟩) ∧ w' = w := Any.strings_Repeat_zero Tryd.lays105 s w
open Go.RowKit Go.Lib in
theorem Tryd.strings_Repeat_one (s : ByteArray) (w : World) :
    Calls Tryd.prog 62 #[.string s, .int .i64 1] w fun e w' => e = .returned (.string s) ∧ w' = w := Any.strings_Repeat_one Tryd.lays105 s w
open Go.RowKit Go.Lib in
/-- Copies of the empty string. (LAID: no walk: one application.) -/
theorem Tryd.strings_Repeat_empty (s : ByteArray) (c : Nat) (w : World) (hc2 : 2 ≤ c) (hc : c ≤ 9223372036854775807) (h0 : s.size = 0) :
    Calls Tryd.prog 62 #[.string s, .int .i64 c] w fun e w' => e = .returned (.string ⟨#[]⟩) ∧ w' = w := Any.strings_Repeat_empty Tryd.lays105 s c w hc2 hc h0
open Go.RowKit Go.Lib in
/-- count < 0: "It panics if count is negative". (LAID: no walk: one application.) -/
theorem Tryd.strings_Repeat_negative (s : ByteArray) (c : Int) (w : World) (hc : c < 0) :
    Calls Tryd.prog 62 #[.string s, .int .i64 c] w fun e w' => e = .panicked [{ v := repeatPanic Tryd.lays105_ren "strings: negative Repeat count", recovered := false }] ∧ w' = w := Any.strings_Repeat_negative Tryd.lays105 s c w hc
open Go.RowKit Go.Lib in
/-- len(s) * count is no int: ".. or if the result of (len(s) * count) overflows". (LAID: no walk: one application.) -/
theorem Tryd.strings_Repeat_overflow (s : ByteArray) (c : Nat) (w : World) (hc : c ≤ 9223372036854775807) (hs : s.size ≤ 9223372036854775807) (hbig : 9223372036854775807 < s.size * c) :
    Calls Tryd.prog 62 #[.string s, .int .i64 c] w fun e w' => e = .panicked [{ v := repeatPanic Tryd.lays105_ren "strings: Repeat output length overflow", recovered := false }] ∧ w' = w := Any.strings_Repeat_overflow Tryd.lays105 s c w hc hs hbig
open Go.RowKit Go.Lib in
/-- **strings.Repeat: count ≥ 0, the result within one allocation: count copies of s.** (LAID: no walk: one application.) -/
theorem Tryd.strings_Repeat (s : ByteArray) (c : Nat) (w : World) (hc : c ≤ 9223372036854775807) (hlen : s.size * c ≤ 140737488355328) :
    Calls Tryd.prog 62 #[.string s, .int .i64 c] w fun e w' => e = .returned (.string ⟨(Lib.repeatL s.data.toList c).toArray⟩) ∧ Below w.heap.size w w' := Any.strings_Repeat Tryd.lays105 Tryd.Builder_Extra_105 s c w hc hlen
end Go.Proofs

/- A slice of integers that a call made by append: its block may hold spare places. -/
namespace Go.Proofs.YtgdmmbibbdhlfaaDoor
open Go.RowKit
set_option linter.unusedVariables false
set_option maxRecDepth 100000
/-- a block whose first n cells are these integers -/
def Row (w : World) (b n : Nat) (f : Nat → Int) : Prop := ∃ c : Array Value, w.heap[b]? = some (.cells c 3 (0, 0)) ∧ ∀ k, k < n → c[k]? = some (.int .i64 (f k))
theorem Row.lt {w : World} {b n : Nat} {f : Nat → Int} (h : Row w b n f) : b < w.heap.size := by obtain ⟨c, h, _⟩ := h; exact lt_of_block' h
theorem Row.cell {w : World} {b n : Nat} {f : Nat → Int} (h : Row w b n f) (k : Nat) (hk : k < n) : w.cell? ⟨b, k, none⟩ = some (.int .i64 (f k)) := by
  obtain ⟨c, h, hc⟩ := h; exact cell_at h (hc k hk)
theorem Row.frozen {w : World} {b n : Nat} {f : Nat → Int} (h : Row w b n f) (k : Nat) : w.frozen? ⟨b, k, none⟩ = false := by
  obtain ⟨c, h, hc⟩ := h; simp [World.frozen?, h]
theorem Row.congr {w : World} {b n : Nat} {f g : Nat → Int} (h : Row w b n f) (e : ∀ k, k < n → f k = g k) : Row w b n g := by
  obtain ⟨c, h, hc⟩ := h; exact ⟨c, h, fun k hk => by rw [hc k hk, e k hk]⟩
theorem Row.ls {w : World} {b n : Nat} {f : Nat → Int} (h : Row w b n f) : Ls w (some ⟨b, 0, none⟩) n f := fun k hk =>
  ⟨b, 0, rfl, h.lt, by rw [Nat.zero_add]; exact h.cell k hk⟩
theorem Row.keep {w w' : World} {b n : Nat} {f : Nat → Int} (h : Row w b n f) (e : w'.heap[b]? = w.heap[b]?) : Row w' b n f := by
  obtain ⟨c, h, hc⟩ := h; exact ⟨c, e.trans h, hc⟩
theorem Row.below {w w' : World} {b n : Nat} {f : Nat → Int} (h : Row w b n f) (g : Below w.heap.size w w') : Row w' b n f := h.keep (g.block b h.lt)
theorem Row.set_ {w : World} {b n : Nat} {f : Nat → Int} (h : Row w b n f) (k : Nat) (x : Int) : Row (w.setCell ⟨b, k, none⟩ (.int .i64 x)) b n (fun j => if j = k then x else f j) := by
  obtain ⟨c, h, hc⟩ := h
  refine ⟨_, heap_setCell_same w b k _ _ _ h, fun j hj => ?_⟩
  have hj' := (Array.getElem?_eq_some_iff.1 (hc j hj)).1
  by_cases e : j = k
  · subst e; simp [hj']
  · rw [Array.getElem?_setIfInBounds_ne (Ne.symm e)]
    simp only [if_neg e]
    exact hc j hj
theorem Own.row {w : World} {b n : Nat} {f : Nat → Int} (h : Own w b n f) : Row w b n f := ⟨_, h, fun k hk => by rw [List.getElem?_toArray]; exact intCells_at f n k hk⟩
/-- a slice that a call made -/
def Rsp (w : World) (lo hi : Nat) (a : Option Addr) (n : Nat) (f : Nat → Int) : Prop := n = 0 ∨ ∃ b, a = some ⟨b, 0, none⟩ ∧ lo ≤ b ∧ b < hi ∧ Row w b n f
theorem Res.rsp {w : World} {lo hi n : Nat} {a : Option Addr} {f : Nat → Int} (h : Res w lo hi a n f) : Rsp w lo hi a n f := by
  rcases h with rfl | ⟨b, rfl, h1, h2, h⟩
  · exact .inl rfl
  · exact .inr ⟨b, rfl, h1, h2, h.row⟩
theorem Rsp.ls {w : World} {lo hi n : Nat} {a : Option Addr} {f : Nat → Int} (h : Rsp w lo hi a n f) : Ls w a n f := by
  rcases h with rfl | ⟨b, rfl, _, _, h⟩
  · exact Ls.none_ _ _ _
  · exact h.ls
theorem Rsp.congr {w : World} {lo hi n : Nat} {a : Option Addr} {f g : Nat → Int} (h : Rsp w lo hi a n f) (e : ∀ k, k < n → f k = g k) : Rsp w lo hi a n g := by
  rcases h with rfl | ⟨b, rfl, h1, h2, h⟩
  · exact .inl rfl
  · exact .inr ⟨b, rfl, h1, h2, h.congr e⟩
theorem Rsp.mono {w : World} {lo hi lo' hi' n : Nat} {a : Option Addr} {f : Nat → Int} (h : Rsp w lo hi a n f) (h1 : lo' ≤ lo) (h2 : hi ≤ hi') : Rsp w lo' hi' a n f := by
  rcases h with rfl | ⟨b, rfl, g1, g2, h⟩
  · exact .inl rfl
  · exact .inr ⟨b, rfl, by omega, by omega, h⟩
theorem Rsp.below {w w' : World} {lo hi n : Nat} {a : Option Addr} {f : Nat → Int} (h : Rsp w lo hi a n f) (g : Below w.heap.size w w') : Rsp w' lo hi a n f := by
  rcases h with rfl | ⟨b, rfl, h1, h2, h⟩
  · exact .inl rfl
  · exact .inr ⟨b, rfl, h1, h2, h.below g⟩
theorem Rsp.mid {w w' : World} {lo hi lo' hi' n : Nat} {a : Option Addr} {f : Nat → Int} (h : Rsp w lo hi a n f) (g : Mid lo' hi' w w') (hd : hi ≤ lo' ∨ hi' ≤ lo) : Rsp w' lo hi a n f := by
  rcases h with rfl | ⟨b, rfl, h1, h2, h⟩
  · exact .inl rfl
  · exact .inr ⟨b, rfl, h1, h2, h.keep (g.block b (by omega))⟩
theorem Rsp.none_ (w : World) (lo hi : Nat) (a : Option Addr) (f : Nat → Int) : Rsp w lo hi a 0 f := .inl rfl
/-- a row grown by append -/
theorem Rsp.of_own {w : World} {base n : Nat} {v : Value} {ys : List Int} (h : w.ownsRow base 3 1 v n (ys.map (Value.int .i64))) :
    ∃ a cap, v = .slice a n cap ∧ n = ys.length ∧ Rsp w base w.heap.size a n (fun k => ys.getD k 0) := by
  have hl := h.1
  rw [List.length_map, Nat.mul_one] at hl
  rcases h.2 with ⟨rfl, rfl⟩ | ⟨g, cap, cur, rfl, hb, hg, h1, h2, h3, h4⟩
  · exact ⟨none, 0, rfl, hl.symm, .inl rfl⟩
  · refine ⟨_, _, rfl, hl.symm, .inr ⟨g, rfl, hb, lt_of_block' hg, cur, hg, fun k hk => ?_⟩⟩
    have e : (cur.toList.take (n * 1))[k]? = (ys.map (Value.int .i64))[k]? := by rw [h4]
    rw [List.getElem?_take_of_lt (by omega), List.getElem?_map, Array.getElem?_toList] at e
    rw [e, List.getElem?_eq_getElem (by omega)]
    simp [List.getD_eq_getElem?_getD, List.getElem?_eq_getElem (show k < ys.length by omega)]
/-- the answer of a call that returns a list and a bool -/
def RowR (w w' : World) (f : Nat → Int) (n : Nat) (ok : Bool) (e : Ending) : Prop :=
  ∃ (a : Option Addr) (m c : Nat), e = .returned (.tuple #[.slice a m c, .bool ok]) ∧ m = (if ok = true then n else 0) ∧ Rsp w' w.heap.size w'.heap.size a m f ∧ Below w.heap.size w w'
end Go.Proofs.YtgdmmbibbdhlfaaDoor

/- The model's chapter 2 (package spec): l2Pile, l2Of, l2Value. -/
namespace Go.Proofs.YtgdmmbibbdhlfaaDoor
open Go.RowKit
set_option linter.unusedVariables false
set_option maxRecDepth 100000
theorem Mid.bel0 {B : Nat} {w w' : World} (h : Mid 0 0 w w') : Below B w w' := ⟨h.os, h.tape, h.output, Nat.le_of_eq h.size.symm, fun k hk => h.block k (by omega)⟩
theorem Mid.trans {lo hi : Nat} {a b c : World} (h : Mid lo hi a b) (k : Mid lo hi b c) : Mid lo hi a c := ⟨k.os.trans h.os, k.tape.trans h.tape, k.output.trans h.output, k.size.trans h.size, fun i hi => (k.block i hi).trans (h.block i hi)⟩
/-- a list is a pile of a system -/
def pilB (f : Nat → Int) (n : Nat) (p : Nat → Int) (m : Nat) : Bool := sysB f n && decide (m = n ∧ ∀ j, j < m → 0 ≤ p j ∧ p j ≤ 1000000)
theorem pilB_spec {f : Nat → Int} {n : Nat} {p : Nat → Int} {m : Nat} : pilB f n p m = true ↔ sysB f n = true ∧ m = n ∧ ∀ j, j < m → 0 ≤ p j ∧ p j ≤ 1000000 := by
  unfold pilB
  rw [Bool.and_eq_true, decide_eq_true_eq]
theorem pilB_sys {f : Nat → Int} {n : Nat} {p : Nat → Int} {m : Nat} (h : pilB f n p m = true) : SysF f n ∧ n ≤ 6 ∧ (∀ j, j < n → f j ≤ 1000000) ∧ m = n ∧ (∀ j, j < n → 0 ≤ p j) ∧ ∀ j, j < n → p j ≤ 1000000 := by
  obtain ⟨h1, rfl, h2⟩ := pilB_spec.1 h
  obtain ⟨a, b, c⟩ := sysB_sys h1
  exact ⟨a, b, c, rfl, fun j hj => (h2 j hj).1, fun j hj => (h2 j hj).2⟩
theorem Own.from {w : World} {b n k : Nat} {f : Nat → Int} (h : Own w b n (fun j => if k + 1 ≤ j then f j else 0)) : Own (w.setCell ⟨b, k, none⟩ (.int .i64 (f k))) b n (fun j => if k ≤ j then f j else 0) :=
  (h.set_ k (f k)).congr fun j hj => by
    by_cases e : j = k
    · subst e; simp
    · rw [if_neg e]
      by_cases h2 : k + 1 ≤ j
      · rw [if_pos h2, if_pos (by omega)]
      · rw [if_neg h2, if_neg (by omega)]
/-- a loop down from k - 1 to 0 -/
def DownIx (k : Nat) (i : Value) : Prop := (k = 0 ∧ i = .int .i64 (-1)) ∨ ∃ j : Nat, k = j + 1 ∧ i = .int .i64 (j : Nat)
theorem downIx_mk (k : Nat) : DownIx k (.int .i64 ((k : Int) - 1)) := by
  rcases k with _ | j
  · exact .inl ⟨rfl, rfl⟩
  · exact .inr ⟨j, rfl, by rw [show ((j + 1 : Nat) : Int) - 1 = (j : Int) by omega]⟩
end Go.Proofs.YtgdmmbibbdhlfaaDoor

/- The model's chapter 4 (package spec): PlaceDays, PlaceFrom, l4Places, PlaceDigits, PlaceNumber. -/
namespace Go.Proofs.YtgdmmbibbdhlfaaDoor
open Go.RowKit
set_option linter.unusedVariables false
set_option maxRecDepth 100000
def daysF (n : Int) (k : Nat) : Int := if k = 0 then n / 144000 else if k = 1 then n / 7200 % 20 else if k = 2 then n / 360 % 20 else if k = 3 then n / 20 % 18 else n % 20
def daysB (n : Int) : Bool := decide (0 ≤ n ∧ n ≤ 2879999)
/-- is number j of a count of days as told? -/
def dayOk (f : Nat → Int) (j : Nat) : Prop := 0 ≤ f j ∧ f j ≤ 19 ∧ (j = 3 → f j ≤ 17)
def fromB (f : Nat → Int) (n : Nat) : Bool := decide (n = 5) && decide (0 ≤ f 0 ∧ f 0 ≤ 19 ∧ 0 ≤ f 1 ∧ f 1 ≤ 19 ∧ 0 ≤ f 2 ∧ f 2 ≤ 19 ∧ 0 ≤ f 3 ∧ f 3 ≤ 17 ∧ 0 ≤ f 4 ∧ f 4 ≤ 19)
theorem fromB_iff (f : Nat → Int) (n : Nat) : fromB f n = true ↔ n = 5 ∧ ∀ j, j < 5 → dayOk f j := by
  unfold fromB dayOk
  rw [Bool.and_eq_true, decide_eq_true_eq, decide_eq_true_eq]
  constructor
  · rintro ⟨h, h0⟩
    refine ⟨h, fun j hj => ?_⟩
    rcases (show j = 0 ∨ j = 1 ∨ j = 2 ∨ j = 3 ∨ j = 4 by omega) with rfl | rfl | rfl | rfl | rfl <;> refine ⟨by omega, by omega, by omega⟩
  · rintro ⟨h, h0⟩
    have := h0 0 (by omega); have := h0 1 (by omega); have := h0 2 (by omega); have := h0 3 (by omega); have := h0 4 (by omega)
    refine ⟨h, by omega⟩
def fromV (f : Nat → Int) : Int := 144000 * f 0 + 7200 * f 1 + 360 * f 2 + 20 * f 3 + f 4
def fromR (f : Nat → Int) (n : Nat) : Value := if fromB f n = true then .tuple #[.int .i64 (fromV f), .bool true] else .tuple #[.int .i64 0, .bool false]
theorem fromR_yes (f : Nat → Int) (n : Nat) (h : fromB f n = true) : fromR f n = .tuple #[.int .i64 (fromV f), .bool true] := by unfold fromR; rw [if_pos h]
theorem fromR_no (f : Nat → Int) (n : Nat) (h : ¬ fromB f n = true) : fromR f n = .tuple #[.int .i64 0, .bool false] := by unfold fromR; rw [if_neg h]
/-- are these places? -/
def plcB (f : Nat → Int) (n : Nat) : Bool := decide (1 ≤ n ∧ n ≤ 6 ∧ ∀ j, j < n → 2 ≤ f j ∧ f j ≤ 100)
theorem plcB_iff (f : Nat → Int) (n : Nat) : plcB f n = true ↔ 1 ≤ n ∧ n ≤ 6 ∧ ∀ j, j < n → 2 ≤ f j ∧ f j ≤ 100 := by unfold plcB; rw [decide_eq_true_eq]
def plcV (f : Nat → Int) (n : Nat) : Int := if plcB f n = true then prd f n else 0
theorem prd_small (f : Nat → Int) (n k : Nat) (h : ∀ j, j < n → 2 ≤ f j ∧ f j ≤ 100) (hk : k ≤ n) (h6 : k ≤ 6) : 1 ≤ prd f k ∧ prd f k ≤ 1000000000000 := by
  refine ⟨prd_pos f n (fun j hj => (h j hj).1) k hk, Int.le_trans (prd_bound f n h k hk) ?_⟩
  rcases (show k = 0 ∨ k = 1 ∨ k = 2 ∨ k = 3 ∨ k = 4 ∨ k = 5 ∨ k = 6 by omega) with rfl | rfl | rfl | rfl | rfl | rfl | rfl <;> decide
end Go.Proofs.YtgdmmbibbdhlfaaDoor

/- The model's chapter 4 (package spec): PlaceDigits, PlaceNumber. -/
namespace Go.Proofs.YtgdmmbibbdhlfaaDoor
open Go.RowKit
set_option linter.unusedVariables false
set_option maxRecDepth 100000
/-- does PlaceDigits give digits? -/
def digB (f : Nat → Int) (n : Nat) (N : Int) : Bool := decide (0 ≤ N ∧ N ≤ plcV f n - 1)
theorem digB_iff (f : Nat → Int) (n : Nat) (N : Int) : digB f n N = true ↔ plcB f n = true ∧ 0 ≤ N ∧ N < prd f n := by
  unfold digB plcV
  rw [decide_eq_true_eq]
  constructor
  · rintro ⟨h0, h1⟩
    split at h1
    · rename_i h; exact ⟨h, h0, by omega⟩
    · omega
  · rintro ⟨h, h0, h1⟩
    rw [if_pos h]
    exact ⟨h0, by omega⟩
theorem lft_le (p : Nat → Int) (n : Nat) (N : Int) (h : ∀ k, k < n → 2 ≤ p k) (h0 : 0 ≤ N) : ∀ j, j ≤ n → 0 ≤ lft p n N j ∧ lft p n N j ≤ N := by
  intro j
  induction j with
  | zero => intro _; exact ⟨h0, Int.le_refl _⟩
  | succ j ih =>
    intro hj
    obtain ⟨a, b⟩ := ih (by omega)
    have hp := h (n - 1 - j) (by omega)
    simp only [lft]
    refine ⟨Int.ediv_nonneg a (by omega), Int.le_trans (Int.ediv_le_self _ a) b⟩
/-- does PlaceNumber give a number? -/
def numB4 (f : Nat → Int) (n : Nat) (d : Nat → Int) (m : Nat) : Bool := plcB f n && (decide (m = n) && decide (∀ j, j < n → 0 ≤ d j ∧ d j ≤ f j - 1))
theorem numB4_iff (f : Nat → Int) (n : Nat) (d : Nat → Int) (m : Nat) : numB4 f n d m = true ↔ plcB f n = true ∧ m = n ∧ ∀ j, j < n → 0 ≤ d j ∧ d j ≤ f j - 1 := by
  unfold numB4
  rw [Bool.and_eq_true, Bool.and_eq_true, decide_eq_true_eq, decide_eq_true_eq]
def numR4 (f : Nat → Int) (n : Nat) (d : Nat → Int) (m : Nat) : Value := if numB4 f n d m = true then .tuple #[.int .i64 (dnum f d n), .bool true] else .tuple #[.int .i64 0, .bool false]
theorem numR4_yes {f : Nat → Int} {n : Nat} {d : Nat → Int} {m : Nat} (h : numB4 f n d m = true) : numR4 f n d m = .tuple #[.int .i64 (dnum f d n), .bool true] := by unfold numR4; rw [if_pos h]
theorem numR4_no {f : Nat → Int} {n : Nat} {d : Nat → Int} {m : Nat} (h : ¬ numB4 f n d m = true) : numR4 f n d m = .tuple #[.int .i64 0, .bool false] := by unfold numR4; rw [if_neg h]
end Go.Proofs.YtgdmmbibbdhlfaaDoor
