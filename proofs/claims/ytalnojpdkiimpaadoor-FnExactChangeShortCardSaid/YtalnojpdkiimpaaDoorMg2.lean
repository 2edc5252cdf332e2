/- Several texts of mine, one after another: AI, AO, AR, AS, CR, CS, YC, UD, UE, D, Dr, Ds, UF, AT, AD, YD, YE, YF, VR, YN, YL, YT. -/
import Derived.Test.YtalnojpdkiimpaaDoorMg1
import Derived.Lib.Strings
import Derived.Lib.Bytealg
import Derived.StillTailTactics
import Derived.Outline
import Derived.Test.YtalnojpdkiimpaaDoorRows
import Derived.Lib.Hide
import Derived.Lib.ItoaNum
import Derived.Lib.ItoaMem
import Derived.Lib.LaidTab
import Derived.LaidLaws
import Derived.Below
/- The program's letters with values: the library's three functions that it calls, alphaLetterOf, sign, value, signOfDigit. -/
namespace Go.Proofs.YtalnojpdkiimpaaDoor
open Go.RowKit
set_option linter.unusedVariables false
set_option maxRecDepth 100000
theorem ret_val {a b : Value} (h : a = b) : Ending.returned a = .returned b := by rw [h]
def signsA : ByteArray := ⟨#[97, 98, 99, 100, 101, 102, 103, 104, 105, 106, 107, 108, 109, 110, 111, 112, 113, 114, 115, 116, 117, 118, 119, 120, 121, 122, 42]⟩
/-- the place of a letter, -1 for another byte -/
def ixA (c : Int) : Int := if 97 ≤ c ∧ c ≤ 122 then c - 97 else if c = 42 then 26 else -1
theorem indexByte_signs (c : UInt8) : Lib.indexByte signsA.data.toList c = ixA (c.toNat : Int) := by
  have h : ∀ k, k < 256 → Lib.indexByte signsA.data.toList (UInt8.ofNat k) = ixA ((UInt8.ofNat k).toNat : Int) := by decide +kernel
  have e := h c.toNat c.toNat_lt
  rwa [UInt8.ofNat_toNat] at e
theorem ixA_bd (c : Int) : -1 ≤ ixA c ∧ ixA c ≤ 26 := by unfold ixA; split <;> (try split) <;> omega
theorem av_ix (c : Int) (h : 0 ≤ ixA c) : av c = vl (ixA c).toNat := by
  unfold ixA at *
  split at h
  · rename_i hc
    rw [if_pos hc]
    have e : ∀ k, k < 26 → av ((97 + k : Nat) : Int) = vl k := by decide +kernel
    have := e (c - 97).toNat (by omega)
    rwa [show ((97 + (c - 97).toNat : Nat) : Int) = c by omega] at this
  · split at h
    · rename_i hn hc
      subst hc
      decide
    · omega
theorem av_no (c : Int) (h : ixA c < 0) : av c = 0 := by
  unfold ixA at h
  split at h
  · omega
  · split at h
    · omega
    · unfold av
      repeat (first | omega | split)
theorem av_pos_ix (c : Int) : 0 < av c ↔ 0 ≤ ixA c := by
  constructor
  · intro h
    rcases Int.lt_or_le (ixA c) 0 with h' | h'
    · rw [av_no c h'] at h; omega
    · exact h'
  · intro h
    rw [av_ix c h]
    have := ixA_bd c
    have := (vl_bd (ixA c).toNat (by omega)).1
    omega
/-- alphaLetterOf's answer -/
def letterR (c : Int) : Value := if 0 ≤ ixA c then .tuple #[.int .i64 (ixA c), .bool true] else .tuple #[.int .i64 0, .bool false]
theorem sign_cut : ∀ l, l < 27 → signsA.extract l (l + 1) = ⟨[lt l].toArray⟩ := by
  have h : ∀ l, l < 27 → (signsA.extract l (l + 1)).data = [lt l].toArray := by decide +kernel
  exact fun l hl => ByteArray.ext (h l hl)
theorem aSign_any (l : Nat) (w : World) (h : l < 27) : Calls Tryd.prog 60 #[.int .i64 l] w fun e w' => e = .returned (.string ⟨[lt l].toArray⟩) ∧ w = w' := by
  have H := Lib.hid (sign_cut l h)
  go_enter Tryd.func60, Tryd.ntmps60
  go_wp2
  go_ret
  exact ⟨ret_val (congrArg Value.string H.out), rfl⟩
theorem signOfDigit_any (d p : Nat) (w : World) (hd : d ≤ 9) (hp : p ≤ 2) : Calls Tryd.prog 48 #[.int .i64 d, .int .i64 p] w fun e w' => e = .returned (.string ⟨(dl d p).toArray⟩) ∧ w = w' := by
  unfold dl
  by_cases h : d = 0
  · subst h
    rw [if_pos rfl]
    go_enter Tryd.func48, Tryd.ntmps48
    go_wp2
    go_ret
    exact ⟨rfl, rfl⟩
  · rw [if_neg h]
    have hz : ((d : Int) == 0) = false := by rw [beq_eq_false_iff_ne]; omega
    have He := Lib.hid (show (p : Int) * 9 + d - 1 = ((9 * p + d - 1 : Nat) : Int) by omega)
    clear h
    go_enter Tryd.func48, Tryd.ntmps48
    go_wp2_with fail
    rw [He.out]
    refine (aSign_any _ _ (by omega)).mono ?_
    rintro e w1 ⟨rfl, rfl⟩
    go_wp2_with fail
    go_ret
    exact ⟨rfl, rfl⟩
end Go.Proofs.YtalnojpdkiimpaaDoor

/- The program's AlphaOf, sumOfLetters, cutThousands. -/
namespace Go.Proofs.YtalnojpdkiimpaaDoor
open Go.RowKit
set_option linter.unusedVariables false
set_option maxRecDepth 100000
theorem signOfDigit_int (d p : Int) (w : World) (h0 : 0 ≤ d) (hd : d ≤ 9) (hp0 : 0 ≤ p) (hp : p ≤ 2) : Calls Tryd.prog 48 #[.int .i64 d, .int .i64 p] w fun e w' => e = .returned (.string ⟨(dl d.toNat p.toNat).toArray⟩) ∧ w = w' := by
  obtain ⟨a, rfl⟩ := Int.eq_ofNat_of_zero_le h0
  obtain ⟨b, rfl⟩ := Int.eq_ofNat_of_zero_le hp0
  exact signOfDigit_any a b w (by omega) (by omega)
/-- AlphaOf's answer -/
def alphaOfR (n : Int) : Value := if 1 ≤ n ∧ n ≤ 9999 then .tuple #[.string ⟨(aof n.toNat).toArray⟩, .bool true] else .tuple #[.string ⟨#[]⟩, .bool false]
theorem dl_int (d p : Int) (a b : Nat) (h1 : d.toNat = a) (h2 : p.toNat = b) : dl d.toNat p.toNat = dl a b := by rw [h1, h2]
set_option maxRecDepth 100000 in
theorem iAlphaOf_nat (n : Nat) (w : World) (hw : AT w) (h1 : 1 ≤ n) (h2 : n ≤ 9999) :
    Calls Tryd.prog 32 #[.int .i64 n] w fun e w' => e = .returned (.tuple #[.string ⟨(aof n).toArray⟩, .bool true]) ∧ w = w' := by
  have Hw := Lib.hid hw; clear hw
  obtain ⟨L0, H0, b0⟩ : ∃ L : List UInt8, Hid (dl ((n : Int) / 1000).toNat (0 : Int).toNat = L) ∧ L.length ≤ 1 := ⟨_, Lib.hid rfl, dl_len _ _⟩
  obtain ⟨L1, H1, b1⟩ : ∃ L : List UInt8, Hid (dl ((n : Int) / 100 % 10).toNat (2 : Int).toNat = L) ∧ L.length ≤ 1 := ⟨_, Lib.hid rfl, dl_len _ _⟩
  obtain ⟨L2, H2, b2⟩ : ∃ L : List UInt8, Hid (dl ((n : Int) / 10 % 10).toNat (1 : Int).toNat = L) ∧ L.length ≤ 1 := ⟨_, Lib.hid rfl, dl_len _ _⟩
  obtain ⟨L3, H3, b3⟩ : ∃ L : List UInt8, Hid (dl ((n : Int) % 10).toNat (0 : Int).toNat = L) ∧ L.length ≤ 1 := ⟨_, Lib.hid rfl, dl_len _ _⟩
  obtain ⟨hd, Hd, b4⟩ : ∃ hd : List UInt8, Hid (hd = if n / 1000 = 0 then [] else 39 :: L0) ∧ hd.length ≤ 2 := ⟨_, Lib.hid rfl, by split <;> simp; omega⟩
  have Hh : Hid (aof n = hd ++ L1 ++ L2 ++ L3) := by
    show _ = _
    rw [Hd.out, ← H0.out, ← H1.out, ← H2.out, ← H3.out, show ((n : Int) / 1000).toNat = n / 1000 by omega, show ((n : Int) / 100 % 10).toNat = n / 100 % 10 by omega, show ((n : Int) / 10 % 10).toNat = n / 10 % 10 by omega, show ((n : Int) % 10).toNat = n % 10 by omega]
    unfold aof
    simp only [List.append_assoc]
    rfl
  have hA : decide ((n : Int) < 1) = false := decide_eq_false (by omega)
  have hB : decide (9999 < (n : Int)) = false := decide_eq_false (by omega)
  rcases Nat.lt_or_ge n 1000 with hc | hc
  all_goals
    have hC : decide (1000 ≤ (n : Int)) = decide (1000 ≤ n) := by simp; omega
    first | rw [show decide (1000 ≤ n) = false from decide_eq_false (by omega)] at hC | rw [show decide (1000 ≤ n) = true from decide_eq_true (by omega)] at hC
    go_enter Tryd.func32, Tryd.ntmps32
    go_wp2_with fail
    try (refine (signOfDigit_int _ _ _ (by omega) (by omega) (by omega) (by omega)).mono ?_; rw [H0.out]; rintro e w1 ⟨rfl, rfl⟩; go_wp2_with fail)
    go_loop [4, 5] (fun t i => ∃ (k : Nat) (tl : List UInt8), k ≤ 3 ∧ tl.length ≤ 2 + k ∧ t = .string ⟨tl.toArray⟩ ∧ i = .int .i64 (2 - (k : Int)) ∧ Hid (tl = if k = 0 then hd else if k = 1 then hd ++ L1 else if k = 2 then hd ++ L1 ++ L2 else hd ++ L1 ++ L2 ++ L3)) (fun _ i => (intOf i + 1).toNat)
    case atStart =>
      refine ⟨0, hd, by omega, by omega, ?_, rfl, Lib.hid rfl⟩
      have e := Hd.out
      first
        | (rw [if_pos (by omega)] at e; subst e; rfl)
        | (rw [if_neg (by omega)] at e; subst e; exact congrArg Value.string (bytes_append [39] _))
    case round =>
      obtain ⟨k, tl, hk, hl, rfl, rfl, Ht⟩ := hrel
      have hr0 := Hw.out.2 0 (by omega)
      have hr1 := Hw.out.2 1 (by omega)
      have hr2 := Hw.out.2 2 (by omega)
      simp only [rkv, List.getD_cons_zero, List.getD_cons_succ] at hr0 hr1 hr2
      rcases (show k = 0 ∨ k = 1 ∨ k = 2 ∨ k = 3 by omega) with rfl | rfl | rfl | rfl
      · go_wp2_with fail
        refine (signOfDigit_int _ _ _ (by omega) (by omega) (by omega) (by omega)).mono ?_
        rw [H1.out]
        rintro e w1 ⟨rfl, rfl⟩
        go_wp2_with fail
        go_round
        case rel => exact ⟨1, tl ++ L1, by omega, by simp; omega, by rw [bytes_append], rfl, Lib.hid (by rw [Ht.out]; rfl)⟩
        case measure => simp [intOf]
      · go_wp2_with fail
        refine (signOfDigit_int _ _ _ (by omega) (by omega) (by omega) (by omega)).mono ?_
        rw [H2.out]
        rintro e w1 ⟨rfl, rfl⟩
        go_wp2_with fail
        go_round
        case rel => exact ⟨2, tl ++ L2, by omega, by simp; omega, by rw [bytes_append], rfl, Lib.hid (by rw [Ht.out]; rfl)⟩
        case measure => simp [intOf]
      · go_wp2_with fail
        refine (signOfDigit_int _ _ _ (by omega) (by omega) (by omega) (by omega)).mono ?_
        rw [H3.out]
        rintro e w1 ⟨rfl, rfl⟩
        go_wp2_with fail
        go_round
        case rel => exact ⟨3, tl ++ L3, by omega, by simp; omega, by rw [bytes_append], rfl, Lib.hid (by rw [Ht.out]; rfl)⟩
        case measure => simp [intOf]
      · go_wp2_with fail
        go_ret2
        exact ⟨ret_bytes_yes (by rw [Hh.out, Ht.out]; rfl), rfl⟩
theorem iAlphaOf_any (n : Int) (w : World) (hw : AT w) : Calls Tryd.prog 32 #[.int .i64 n] w fun e w' => e = .returned (alphaOfR n) ∧ w = w' := by
  unfold alphaOfR
  by_cases h : 1 ≤ n ∧ n ≤ 9999
  · rw [if_pos h]
    obtain ⟨k, rfl⟩ := Int.eq_ofNat_of_zero_le (show 0 ≤ n by omega)
    exact iAlphaOf_nat k w hw (by omega) (by omega)
  · rw [if_neg h]
    clear hw
    by_cases h1 : n < 1
    · clear h
      go_enter Tryd.func32, Tryd.ntmps32
      go_wp2
      go_ret2
      exact ⟨rfl, rfl⟩
    · have h2 : 9999 < n := by omega
      clear h
      go_enter Tryd.func32, Tryd.ntmps32
      go_wp2
      go_ret2
      exact ⟨rfl, rfl⟩
/-- sumOfLetters' answer -/
def sumLR (l : List UInt8) : Value := if okA l = true then .tuple #[.int .i64 (asum l), .bool true] else .tuple #[.int .i64 0, .bool false]
end Go.Proofs.YtalnojpdkiimpaaDoor

/- The program's cutThousands, AlphaRead, AlphaSum, AlphaSame, AlphaNines, AlphaAdd. -/
namespace Go.Proofs.YtalnojpdkiimpaaDoor
open Go.RowKit
set_option linter.unusedVariables false
set_option maxRecDepth 100000
theorem ext01 (c : UInt8) (r : List UInt8) : ((⟨(c :: r).toArray⟩ : ByteArray).extract 0 1).toList = [c] := by
  rw [Lib.extract_toList]; rfl
theorem ext1 (c : UInt8) (r : List UInt8) : (⟨(c :: r).toArray⟩ : ByteArray).extract 1 (r.length + 1) = ⟨r.toArray⟩ := by
  rw [Lib.extract_eq]
  congr 1
  simp
theorem AT.drewN {w : World} (h : AT w) (n : Nat) : AT (w.drewN n) := h.step (bel_drewN (Below.refl _ _) n)
/-- cutThousands' answer -/
def cutR : List UInt8 → Value
  | [] => .tuple #[.int .i64 0, .string ⟨#[]⟩, .bool true]
  | c :: r => if c ≠ 39 then .tuple #[.int .i64 0, .string ⟨(c :: r).toArray⟩, .bool true] else match r with
    | [] => .tuple #[.int .i64 0, .string ⟨#[]⟩, .bool false]
    | d :: q => if 0 < av (d.toNat : Int) then .tuple #[.int .i64 (1000 * av (d.toNat : Int)), .string ⟨q.toArray⟩, .bool true] else .tuple #[.int .i64 0, .string ⟨#[]⟩, .bool false]
theorem cutR_other (c : UInt8) (r : List UInt8) (h : c ≠ 39) : cutR (c :: r) = .tuple #[.int .i64 0, .string ⟨(c :: r).toArray⟩, .bool true] := by
  show (if c ≠ 39 then _ else _) = _
  rw [if_pos h]
theorem cutR_one : cutR [39] = .tuple #[.int .i64 0, .string ⟨#[]⟩, .bool false] := rfl
theorem cutR_two (d : UInt8) (q : List UInt8) : cutR (39 :: d :: q) = if 0 < av (d.toNat : Int) then .tuple #[.int .i64 (1000 * av (d.toNat : Int)), .string ⟨q.toArray⟩, .bool true] else .tuple #[.int .i64 0, .string ⟨#[]⟩, .bool false] := rfl
/-- AlphaRead's answer -/
def alphaReadR (l : List UInt8) : Value := if isA l = true then .tuple #[.int .i64 (rdA l), .bool true] else .tuple #[.int .i64 0, .bool false]
theorem alphaReadR_no (l : List UInt8) (h : ¬ (okA l = true ∨ ∃ c r, l = 39 :: c :: r ∧ okA (c :: r) = true)) : alphaReadR l = .tuple #[.int .i64 0, .bool false] := by
  unfold alphaReadR
  rw [if_neg fun hix => h (isA_shape l hix)]
/-- AlphaSum's answer -/
def alphaSumR (l : List UInt8) : Value := if 1 ≤ l.length ∧ l.length ≤ 20 ∧ okA l = true then .tuple #[.int .i64 (asum l), .bool true] else .tuple #[.int .i64 0, .bool false]
/-- is it a word? -/
def isW (l : List UInt8) : Bool := decide (1 ≤ l.length ∧ l.length ≤ 20 ∧ okA l = true)
theorem alphaSumR_yes (l : List UInt8) (h : isW l = true) : alphaSumR l = .tuple #[.int .i64 (asum l), .bool true] := by unfold alphaSumR; rw [if_pos (of_decide_eq_true h)]
theorem alphaSumR_no (l : List UInt8) (h : isW l = false) : alphaSumR l = .tuple #[.int .i64 0, .bool false] := by unfold alphaSumR; rw [if_neg (of_decide_eq_false h)]
theorem isW_bd (l : List UInt8) (h : isW l = true) : 1 ≤ asum l ∧ asum l ≤ 18000 := by
  obtain ⟨h1, h2, h3⟩ := of_decide_eq_true h
  have := asum_pos l h3
  have := asum_bd l
  omega
/-- AlphaSame's answer -/
def sameB (v u : List UInt8) : Bool := isW v && (isW u && decide (asum v = asum u))
/-- AlphaNines' answer -/
def ninesR (l : List UInt8) : Value := if isW l = true then .tuple #[.int .i64 ((asum l - 1) % 9 + 1), .bool true] else .tuple #[.int .i64 0, .bool false]
/-- AlphaAdd's answer -/
def alphaAddR (s t : List UInt8) : Value := if isA s = true ∧ isA t = true then alphaOfR (rdA s + rdA t) else .tuple #[.string ⟨#[]⟩, .bool false]
theorem alphaReadR_yes (l : List UInt8) (h : isA l = true) : alphaReadR l = .tuple #[.int .i64 (rdA l), .bool true] := by unfold alphaReadR; rw [if_pos h]
theorem alphaReadR_not (l : List UInt8) (h : ¬ isA l = true) : alphaReadR l = .tuple #[.int .i64 0, .bool false] := by unfold alphaReadR; rw [if_neg h]
theorem alphaOfR_two (n : Int) : ∃ (s : ByteArray) (b : Bool), alphaOfR n = .tuple #[.string s, .bool b] := by
  unfold alphaOfR; split
  · exact ⟨_, _, rfl⟩
  · exact ⟨_, _, rfl⟩
end Go.Proofs.YtalnojpdkiimpaaDoor

/- The model's chapter 3 but AlphaLeast: l3Value, l3Letter, l3Of, AlphaOf, AlphaRead, AlphaSum, AlphaSame, AlphaNines, AlphaAdd. -/
namespace Go.Proofs.YtalnojpdkiimpaaDoor
open Go.RowKit
set_option linter.unusedVariables false
set_option maxRecDepth 100000
theorem conv_one (w : World) (b : UInt8) (x : Int) (hx : x = (b.toNat : Int)) : (convert 22 9 (.slice (some ⟨w.heap.size, 0, none⟩) 1 1)).run Tryd.prog (w.alloc (.cells #[.int .u8 x] 5)) = .ok (.string ⟨[b].toArray⟩) (w.alloc (.cells #[.int .u8 x] 5)) := by
  subst hx
  refine run_convert_bytes_back (P := Tryd.prog) _ 22 9 5 ⟨w.heap.size, 0, none⟩ 1 [b] Tryd.underlying22 Tryd.underlying5 Tryd.underlying9 ?_
  intro j hj
  obtain rfl : j = 0 := by simp at hj; omega
  exact cell_at (heap_alloc_new w (.cells #[.int .u8 (b.toNat : Int)] 5)) rfl
theorem lt_toNat (i : Nat) (h : i < 26) : ((lt i).toNat : Int) = 97 + i := by
  unfold lt
  rw [if_pos h, UInt8.toNat_ofNat']
  omega
theorem l3Letter_any (d p : Nat) (w : World) (hd : d ≤ 9) (hp : p ≤ 2) : Calls Tryd.prog 57 #[.int .i64 d, .int .i64 p] w fun e w' => e = .returned (.string ⟨(dl d p).toArray⟩) ∧ Below w.heap.size w w' := by
  unfold dl
  by_cases h : d = 0
  · subst h
    rw [if_pos rfl]
    go_enter Tryd.func57, Tryd.ntmps57
    go_wp2
    go_ret
    exact ⟨rfl, Below.refl _ _⟩
  · rw [if_neg h]
    have hz : ((d : Int) == 0) = false := by rw [beq_eq_false_iff_ne]; omega
    rcases (show (p = 2 ∧ d = 9) ∨ (p = 2 ∧ d ≠ 9) ∨ p = 0 ∨ p = 1 by omega) with ⟨rfl, rfl⟩ | ⟨rfl, h9⟩ | rfl | rfl
    · clear h hz
      go_enter Tryd.func57, Tryd.ntmps57
      go_wp2
      go_ret
      exact ⟨rfl, Below.refl _ _⟩
    · have hz2 : ((d : Int) == 9) = false := by rw [beq_eq_false_iff_ne]; omega
      have hcv := conv_one w (lt (9 * 2 + d - 1)) (115 + d - 1) (by rw [lt_toNat _ (by omega)]; omega)
      clear h h9
      go_enter Tryd.func57, Tryd.ntmps57
      go_wp2
      go_ret
      exact ⟨ret_bytes (by rw [show 9 * 2 + d - 1 = 17 + d by omega]), (Below.refl _ _).alloc (Nat.le_refl _) _⟩
    · have hcv := conv_one w (lt (9 * 0 + d - 1)) (97 + d - 1) (by rw [lt_toNat _ (by omega)]; omega)
      clear h
      go_enter Tryd.func57, Tryd.ntmps57
      go_wp2
      go_ret
      exact ⟨ret_bytes (by rw [show 9 * 0 + d - 1 = d - 1 by omega]), (Below.refl _ _).alloc (Nat.le_refl _) _⟩
    · have hcv := conv_one w (lt (9 * 1 + d - 1)) (106 + d - 1) (by rw [lt_toNat _ (by omega)]; omega)
      clear h
      go_enter Tryd.func57, Tryd.ntmps57
      go_wp2
      go_ret
      exact ⟨ret_bytes (by rw [show 9 * 1 + d - 1 = 8 + d by omega]), (Below.refl _ _).alloc (Nat.le_refl _) _⟩
theorem l3Letter_int (d p : Int) (w : World) (h0 : 0 ≤ d) (hd : d ≤ 9) (hp0 : 0 ≤ p) (hp : p ≤ 2) : Calls Tryd.prog 57 #[.int .i64 d, .int .i64 p] w fun e w' => e = .returned (.string ⟨(dl d.toNat p.toNat).toArray⟩) ∧ Below w.heap.size w w' := by
  obtain ⟨a, rfl⟩ := Int.eq_ofNat_of_zero_le h0
  obtain ⟨b, rfl⟩ := Int.eq_ofNat_of_zero_le hp0
  exact l3Letter_any a b w (by omega) (by omega)
theorem l3Of_nat (n : Nat) (w : World) (h2 : n ≤ 9999) :
    Calls Tryd.prog 41 #[.int .i64 n] w fun e w' => e = .returned (.string ⟨(aof n).toArray⟩) ∧ Below w.heap.size w w' := by
  obtain ⟨L0, H0, b0⟩ : ∃ L : List UInt8, Hid (dl ((n : Int) / 1000).toNat (0 : Int).toNat = L) ∧ L.length = (if n / 1000 = 0 then 0 else 1) := ⟨_, Lib.hid rfl, by rw [dl_len_eq, show ((n : Int) / 1000).toNat = n / 1000 by omega]⟩
  obtain ⟨L1, H1, b1⟩ : ∃ L : List UInt8, Hid (dl ((n : Int) / 100 % 10).toNat (2 : Int).toNat = L) ∧ L.length ≤ 1 := ⟨_, Lib.hid rfl, dl_len _ _⟩
  obtain ⟨L2, H2, b2⟩ : ∃ L : List UInt8, Hid (dl ((n : Int) / 10 % 10).toNat (1 : Int).toNat = L) ∧ L.length ≤ 1 := ⟨_, Lib.hid rfl, dl_len _ _⟩
  obtain ⟨L3, H3, b3⟩ : ∃ L : List UInt8, Hid (dl ((n : Int) % 10).toNat (0 : Int).toNat = L) ∧ L.length ≤ 1 := ⟨_, Lib.hid rfl, dl_len _ _⟩
  have Hh : Hid (aof n = (if n / 1000 = 0 then [] else 39 :: L0) ++ L1 ++ L2 ++ L3) := by
    show _ = _
    rw [← H0.out, ← H1.out, ← H2.out, ← H3.out, show ((n : Int) / 1000).toNat = n / 1000 by omega, show ((n : Int) / 100 % 10).toNat = n / 100 % 10 by omega, show ((n : Int) / 10 % 10).toNat = n / 10 % 10 by omega, show ((n : Int) % 10).toNat = n % 10 by omega]
    unfold aof
    simp only [List.append_assoc]
    rfl
  by_cases hc : n / 1000 = 0
  · rw [if_pos hc] at b0 Hh
    obtain rfl : L0 = [] := List.eq_nil_of_length_eq_zero b0
    go_enter Tryd.func41, Tryd.ntmps41
    go_wp2_with fail
    refine (l3Letter_int _ _ _ (by omega) (by omega) (by omega) (by omega)).mono ?_
    rw [H0.out]
    rintro e w1 ⟨rfl, g1⟩
    go_wp2_with fail
    refine (l3Letter_int _ _ _ (by omega) (by omega) (by omega) (by omega)).mono ?_
    rw [H1.out]
    rintro e w2 ⟨rfl, g2⟩
    go_wp2_with fail
    refine (l3Letter_int _ _ _ (by omega) (by omega) (by omega) (by omega)).mono ?_
    rw [H2.out]
    rintro e w3 ⟨rfl, g3⟩
    go_wp2_with fail
    refine (l3Letter_int _ _ _ (by omega) (by omega) (by omega) (by omega)).mono ?_
    rw [H3.out]
    rintro e w4 ⟨rfl, g4⟩
    go_wp2_with fail
    go_ret
    exact ⟨ret_bytes (by rw [Hh.out]; simp [bytes_append]), bel_chain (bel_chain g1 g2) (bel_chain g3 g4)⟩
  · rw [if_neg hc] at b0 Hh
    have hne : (L0 == []) = false := by rw [beq_eq_false_iff_ne]; intro e; subst e; simp at b0
    have Hc := Lib.hid hc; clear hc
    go_enter Tryd.func41, Tryd.ntmps41
    go_wp2_with fail
    refine (l3Letter_int _ _ _ (by omega) (by omega) (by omega) (by omega)).mono ?_
    rw [H0.out]
    rintro e w1 ⟨rfl, g1⟩
    go_wp2_with fail
    refine (l3Letter_int _ _ _ (by omega) (by omega) (by omega) (by omega)).mono ?_
    rw [H1.out]
    rintro e w2 ⟨rfl, g2⟩
    go_wp2_with fail
    refine (l3Letter_int _ _ _ (by omega) (by omega) (by omega) (by omega)).mono ?_
    rw [H2.out]
    rintro e w3 ⟨rfl, g3⟩
    go_wp2_with fail
    refine (l3Letter_int _ _ _ (by omega) (by omega) (by omega) (by omega)).mono ?_
    rw [H3.out]
    rintro e w4 ⟨rfl, g4⟩
    go_wp2_with fail
    go_ret
    exact ⟨ret_bytes (by rw [show (⟨#[39]⟩ : ByteArray) = ⟨[39].toArray⟩ from rfl]; simp only [bytes_append]; rw [Hh.out]; rfl), bel_chain (bel_chain g1 g2) (bel_chain g3 g4)⟩
theorem l3Of_int (n : Int) (w : World) (h0 : 0 ≤ n) (h2 : n ≤ 9999) : Calls Tryd.prog 41 #[.int .i64 n] w fun e w' => e = .returned (.string ⟨(aof n.toNat).toArray⟩) ∧ Below w.heap.size w w' := by
  obtain ⟨k, rfl⟩ := Int.eq_ofNat_of_zero_le h0
  exact l3Of_nat k w (by omega)
theorem sAlphaOf_any (n : Int) (w : World) : Calls Tryd.prog 24 #[.int .i64 n] w fun e w' => e = .returned (alphaOfR n) ∧ Below w.heap.size w w' := by
  unfold alphaOfR
  by_cases h : 1 ≤ n ∧ n ≤ 9999
  · rw [if_pos h]
    obtain ⟨h1, h2⟩ := h
    go_enter Tryd.func24, Tryd.ntmps24
    go_wp2_with fail
    refine (l6In_any _ _ _ _).mono ?_
    rintro e w1 ⟨rfl, rfl⟩
    rw [show (decide (1 ≤ n ∧ n ≤ 9999)) = true from decide_eq_true ⟨h1, h2⟩]
    go_wp2_with fail
    refine (l3Of_int _ _ (by omega) (by omega)).mono ?_
    rintro e w1 ⟨rfl, g1⟩
    go_wp2_with fail
    go_ret2
    exact ⟨rfl, g1⟩
  · rw [if_neg h]
    have H := Lib.hid h; clear h
    go_enter Tryd.func24, Tryd.ntmps24
    go_wp2_with fail
    refine (l6In_any _ _ _ _).mono ?_
    rintro e w1 ⟨rfl, rfl⟩
    rw [show (decide (1 ≤ n ∧ n ≤ 9999)) = false from decide_eq_false H.out]
    go_wp2_with fail
    go_ret2
    exact ⟨rfl, Below.refl _ _⟩
end Go.Proofs.YtalnojpdkiimpaaDoor

/- Chapter 4, plain: the readings of a pressed text. -/
namespace Go.Proofs.YtalnojpdkiimpaaDoor
set_option linter.unusedVariables false
set_option maxRecDepth 100000
/-- a text without its spaces -/
def bare (l : List UInt8) : List UInt8 := l.filter (fun c => c != 32)
/-- the digits of a number -/
def digs (n : Nat) : List Nat := if _h : n < 60 then [n] else digs (n / 60) ++ [n % 60]
termination_by n
decreasing_by omega
theorem digs_low (n : Nat) (h : n < 60) : digs n = [n] := by rw [digs, dif_pos h]
theorem digs_high (n : Nat) (h : ¬ n < 60) : digs n = digs (n / 60) ++ [n % 60] := by rw [digs, dif_neg h]
def dfold (n : Nat) (ds : List Nat) : Nat := ds.foldl (fun a d => 60 * a + d) n
theorem digs_fold (n : Nat) : dfold 0 (digs n) = n := by
  induction n using Nat.strongRecOn with
  | ind n ih =>
    by_cases h : n < 60
    · rw [digs_low n h]; unfold dfold; simp
    · rw [digs_high n h]
      have e := ih (n / 60) (by omega)
      unfold dfold at *
      rw [List.foldl_append, e]
      simp only [List.foldl_cons, List.foldl_nil]
      omega
theorem fold_digs (r : List Nat) : ∀ n, 1 ≤ n → (∀ d ∈ r, d < 60) → digs (dfold n r) = digs n ++ r := by
  induction r with
  | nil => intro n _ _; simp [dfold]
  | cons d r ih =>
    intro n hn hd
    have h1 := hd d (by simp)
    show digs (dfold (60 * n + d) r) = _
    rw [ih (60 * n + d) (by omega) (fun e he => hd e (by simp [he])), digs_high _ (by omega), show (60 * n + d) / 60 = n by omega, show (60 * n + d) % 60 = d by omega]
    simp
theorem fold_digs0 (d : Nat) (r : List Nat) (h1 : 1 ≤ d) (h2 : d < 60) (h : ∀ e ∈ r, e < 60) : digs (dfold 0 (d :: r)) = d :: r := by
  show digs (dfold (60 * 0 + d) r) = _
  rw [fold_digs r _ (by omega) h, digs_low _ (by omega)]
  simp
theorem digs_lt (n : Nat) : ∀ d ∈ digs n, d < 60 := by
  induction n using Nat.strongRecOn with
  | ind n ih =>
    intro d hd
    by_cases h : n < 60
    · rw [digs_low n h] at hd; simp at hd; omega
    · rw [digs_high n h] at hd
      rcases List.mem_append.1 hd with hd | hd
      · exact ih (n / 60) (by omega) d hd
      · simp at hd; omega
theorem digs_ne (n : Nat) : digs n ≠ [] := by
  by_cases h : n < 60
  · rw [digs_low n h]; simp
  · rw [digs_high n h]; simp
theorem many_mem (c : UInt8) (k : Nat) : ∀ x ∈ (many [c] k), x = c := by
  intro x hx
  unfold many at hx
  simp at hx
  exact hx.2
theorem cdig_mem (d : Nat) : ∀ c ∈ cdig d, (d = 0 ∧ c = 46) ∨ (d ≠ 0 ∧ (c = 60 ∨ c = 89)) := by
  intro c hc
  unfold cdig at hc
  split at hc
  · rename_i h; simp at hc; exact .inl ⟨h, hc⟩
  · rename_i h
    rcases List.mem_append.1 hc with hc | hc
    · exact .inr ⟨h, .inl (many_mem 60 _ c hc)⟩
    · exact .inr ⟨h, .inr (many_mem 89 _ c hc)⟩
theorem bare_cdig (d : Nat) : bare (cdig d) = cdig d := by
  unfold bare
  rw [List.filter_eq_self]
  intro c hc
  rcases cdig_mem d c hc with ⟨_, rfl⟩ | ⟨_, rfl | rfl⟩ <;> decide
theorem bare_clay (n : Nat) : bare (clay n) = (digs n).flatMap cdig := by
  induction n using Nat.strongRecOn with
  | ind n ih =>
    by_cases h : n < 60
    · rw [clay_low n h, digs_low n h, bare_cdig]; simp
    · rw [clay_high n h, digs_high n h]
      have e := ih (n / 60) (by omega)
      have e2 := bare_cdig (n % 60)
      unfold bare at *
      rw [List.filter_append, e, List.flatMap_append, List.filter_cons_of_neg (by decide), e2]
      simp
theorem clay_dot (n : Nat) : (46 : UInt8) ∈ clay n ↔ 0 ∈ digs n := by
  have hd : ∀ d, (46 : UInt8) ∈ cdig d ↔ d = 0 := fun d => by
    constructor
    · intro h
      rcases cdig_mem d 46 h with h | ⟨_, h | h⟩
      · exact h.1
      · exact absurd h (by decide)
      · exact absurd h (by decide)
    · rintro rfl; simp [cdig]
  induction n using Nat.strongRecOn with
  | ind n ih =>
    by_cases h : n < 60
    · rw [clay_low n h, digs_low n h, hd]
      constructor
      · rintro rfl; simp
      · intro h; simp at h; omega
    · have e : (46 : UInt8) ∈ clay (n / 60) ↔ 0 ∈ digs (n / 60) := ih (n / 60) (by omega)
      rw [clay_high n h, digs_high n h, List.mem_append, List.mem_append, List.mem_cons, hd, e]
      constructor
      · rintro (h | h | h)
        · exact .inl h
        · exact absurd h (by decide)
        · exact .inr (by simp [h])
      · rintro (h | h)
        · exact .inl h
        · refine .inr (.inr ?_)
          simp at h
          omega
theorem digs_len (n : Nat) : (digs n).length ≤ 3 ↔ n ≤ 215999 := by
  by_cases h1 : n < 60
  · rw [digs_low n h1]; simp; omega
  · rw [digs_high n h1]
    by_cases h2 : n / 60 < 60
    · rw [digs_low _ h2]; simp; omega
    · rw [digs_high _ h2]
      by_cases h3 : n / 60 / 60 < 60
      · rw [digs_low _ h3]; simp; omega
      · rw [digs_high _ h3]
        have := digs_ne (n / 60 / 60 / 60)
        have h4 : 1 ≤ (digs (n / 60 / 60 / 60)).length := List.length_pos_iff.2 this
        simp only [List.length_append, List.length_cons, List.length_nil]
        omega
/-- a reading of a text -/
def isRd (s : List UInt8) (x : Nat) : Bool := decide (1 ≤ x) && decide ((46 : UInt8) ∉ clay x) && decide (bare (clay x) = s)
/-- all readings -/
def rds (s : List UInt8) : List Nat := (List.range 216000).filter (isRd s)
theorem mem_rds (s : List UInt8) (x : Nat) : x ∈ rds s ↔ x ≤ 215999 ∧ isRd s x = true := by
  unfold rds
  rw [List.mem_filter, List.mem_range]
  constructor <;> (rintro ⟨h1, h2⟩; exact ⟨by omega, h2⟩)
theorem isRd_iff (s : List UInt8) (x : Nat) : isRd s x = true ↔ 1 ≤ x ∧ 0 ∉ digs x ∧ (digs x).flatMap cdig = s := by
  unfold isRd
  rw [Bool.and_eq_true, Bool.and_eq_true, decide_eq_true_eq, decide_eq_true_eq, decide_eq_true_eq, clay_dot, bare_clay, and_assoc]
theorem rds_asc (s : List UInt8) : (rds s).Pairwise (· < ·) := List.Pairwise.filter _ List.pairwise_lt_range
/-- two ascending lists with the same members -/
theorem asc_unique : ∀ (a b : List Nat), a.Pairwise (· < ·) → b.Pairwise (· < ·) → (∀ x, x ∈ a ↔ x ∈ b) → a = b
  | [], [], _, _, _ => rfl
  | [], y :: b, _, _, h => absurd ((h y).2 (by simp)) (by simp)
  | x :: a, [], _, _, h => absurd ((h x).1 (by simp)) (by simp)
  | x :: a, y :: b, ha, hb, h => by
    obtain ⟨ha1, ha2⟩ := List.pairwise_cons.1 ha
    obtain ⟨hb1, hb2⟩ := List.pairwise_cons.1 hb
    have hxy : x = y := by
      rcases List.mem_cons.1 ((h x).1 (by simp)) with e | e
      · exact e
      · rcases List.mem_cons.1 ((h y).2 (by simp)) with e' | e'
        · exact e'.symm
        · have := ha1 y e'; have := hb1 x e; omega
    subst hxy
    rw [asc_unique a b ha2 hb2 (fun z => ?_)]
    constructor
    · intro hz
      rcases List.mem_cons.1 ((h z).1 (by simp [hz])) with e | e
      · have := ha1 z hz; omega
      · exact e
    · intro hz
      rcases List.mem_cons.1 ((h z).2 (by simp [hz])) with e | e
      · have := hb1 z hz; omega
      · exact e
/-- the digits that a text can be cut into, f at most, one after another -/
def prts : Nat → List UInt8 → Nat → List Nat
  | _, [], n => [n]
  | 0, _ :: _, _ => []
  | f + 1, c :: s, n => (List.range 59).flatMap fun j => if (cdig (j + 1)) <+: (c :: s) then prts f ((c :: s).drop (cdig (j + 1)).length) (60 * n + (j + 1)) else []
theorem mem_prts (f : Nat) : ∀ (s : List UInt8) (n x : Nat), x ∈ prts f s n ↔ ∃ ds : List Nat, ds.length ≤ f ∧ (∀ d ∈ ds, 1 ≤ d ∧ d < 60) ∧ ds.flatMap cdig = s ∧ x = dfold n ds := by
  have hne : ∀ d, 1 ≤ d → d < 60 → cdig d ≠ [] := fun d h1 h2 h => by have := cdig_len d h2; rw [h] at this; simp at this
  have hnil : ∀ (f n x : Nat), x ∈ ([n] : List Nat) ↔ ∃ ds : List Nat, ds.length ≤ f ∧ (∀ d ∈ ds, 1 ≤ d ∧ d < 60) ∧ ds.flatMap cdig = [] ∧ x = dfold n ds := fun f n x => by
    constructor
    · intro h
      exact ⟨[], by simp, by simp, by simp, by simpa [dfold] using h⟩
    · rintro ⟨ds, h1, h2, h3, h4⟩
      cases ds with
      | nil => simpa [dfold] using h4
      | cons d r =>
        simp only [List.flatMap_cons, List.append_eq_nil_iff] at h3
        exact absurd h3.1 (hne d (h2 d (by simp)).1 (h2 d (by simp)).2)
  induction f with
  | zero =>
    intro s n x
    cases s with
    | nil => simp only [prts]; exact hnil 0 n x
    | cons c s =>
      simp only [prts, List.not_mem_nil, false_iff]
      rintro ⟨ds, h1, h2, h3, h4⟩
      have : ds = [] := List.length_eq_zero_iff.1 (by omega)
      subst this
      simp at h3
  | succ f ih =>
    intro s n x
    cases s with
    | nil => simp only [prts]; exact hnil (f + 1) n x
    | cons c s =>
      simp only [prts, List.mem_flatMap, List.mem_range]
      constructor
      · rintro ⟨j, hj, hx⟩
        split at hx
        · rename_i hp
          obtain ⟨t, ht⟩ := hp
          rw [← ht, List.drop_left, ih] at hx
          obtain ⟨ds, h1, h2, h3, h4⟩ := hx
          refine ⟨(j + 1) :: ds, by simp; omega, ?_, ?_, h4⟩
          · intro d hd
            rcases List.mem_cons.1 hd with rfl | hd
            · omega
            · exact h2 d hd
          · rw [List.flatMap_cons, h3, ht]
        · cases hx
      · rintro ⟨ds, h1, h2, h3, h4⟩
        cases ds with
        | nil => simp at h3
        | cons d r =>
          have hd := h2 d (by simp)
          rw [List.flatMap_cons] at h3
          refine ⟨d - 1, by omega, ?_⟩
          rw [show d - 1 + 1 = d by omega, if_pos ⟨_, h3⟩, ← h3, List.drop_left, ih]
          exact ⟨r, by simp at h1; omega, fun e he => h2 e (by simp [he]), rfl, h4⟩
theorem mem_prts0 (s : List UInt8) (hs : s ≠ []) (x : Nat) : x ∈ prts 3 s 0 ↔ x ∈ rds s := by
  rw [mem_prts, mem_rds, isRd_iff]
  constructor
  · rintro ⟨ds, h1, h2, h3, rfl⟩
    cases ds with
    | nil => exact absurd h3.symm (by simpa using hs)
    | cons d r =>
      have hd := h2 d (by simp)
      have e := fold_digs0 d r hd.1 hd.2 (fun e he => (h2 e (by simp [he])).2)
      refine ⟨(digs_len _).1 (by rw [e]; exact h1), ?_, ?_, by rw [e]; exact h3⟩
      · have : ∀ (r : List Nat) n, n ≤ dfold n r := fun r => by
          induction r with
          | nil => exact fun n => Nat.le_refl n
          | cons d r ih => intro n; have := ih (60 * n + d); show n ≤ dfold (60 * n + d) r; omega
        have := this r (60 * 0 + d)
        show 1 ≤ dfold (60 * 0 + d) r
        omega
      · rw [e]
        intro h0
        have := h2 0 h0
        omega
  · rintro ⟨h1, h2, h3, h4⟩
    refine ⟨digs x, (digs_len x).2 h1, fun d hd => ⟨?_, digs_lt x d hd⟩, h4, (digs_fold x).symm⟩
    rcases Nat.eq_zero_or_pos d with rfl | h
    · exact absurd hd h3
    · exact h
theorem digs_snoc (n d : Nat) (h1 : 1 ≤ d) (h2 : d < 60) : digs (60 * n + d) = (if n = 0 then [] else digs n) ++ [d] := by
  split
  · rename_i h; subst h; rw [digs_low _ (by omega)]; simp
  · rename_i h
    rw [digs_high _ (by omega), show (60 * n + d) / 60 = n by omega, show (60 * n + d) % 60 = d by omega]
/-- no number stands twice -/
theorem prts_nodup (f : Nat) : ∀ (s : List UInt8) (n : Nat), (prts f s n).Pairwise (· ≠ ·) := by
  induction f with
  | zero =>
    intro s n
    cases s with
    | nil => simp [prts]
    | cons c s => simp [prts]
  | succ f ih =>
    intro s n
    cases s with
    | nil => simp [prts]
    | cons c s =>
      simp only [prts]
      rw [List.pairwise_flatMap]
      refine ⟨fun j hj => ?_, ?_⟩
      · split
        · exact ih _ _
        · exact List.Pairwise.nil
      · have key : ∀ j, j ∈ List.range 59 → ∀ x, x ∈ (if (cdig (j + 1)) <+: (c :: s) then prts f ((c :: s).drop (cdig (j + 1)).length) (60 * n + (j + 1)) else []) → ∃ r, digs x = (if n = 0 then [] else digs n) ++ (j + 1) :: r := by
          intro j hj x hx
          have hj' := List.mem_range.1 hj
          split at hx
          · rw [mem_prts] at hx
            obtain ⟨ds, h1, h2, h3, rfl⟩ := hx
            refine ⟨ds, ?_⟩
            rw [fold_digs ds _ (by omega) (fun d hd => (h2 d hd).2), digs_snoc n (j + 1) (by omega) (by omega)]
            simp
          · cases hx
        refine List.Pairwise.imp_of_mem ?_ (List.pairwise_lt_range (n := 59))
        intro j k hj hk hlt x hx y hy e
        obtain ⟨r, hr⟩ := key j hj x hx
        obtain ⟨t, ht⟩ := key k hk y hy
        rw [e, ht] at hr
        have := List.append_cancel_left hr
        simp at this
        omega
/-- x is put into an ascending list -/
theorem asc_insert (l : List Nat) (x k : Nat) (hl : l.Pairwise (· < ·)) (hk : k ≤ l.length) (hx : x ∉ l) (h1 : ∀ y ∈ l.take k, y ≤ x) (h2 : ∀ y ∈ l.drop k, x < y) : (l.take k ++ x :: l.drop k).Pairwise (· < ·) := by
  have hs : l.take k ++ l.drop k = l := List.take_append_drop k l
  have hp := hl
  rw [← hs, List.pairwise_append] at hp
  obtain ⟨p1, p2, p3⟩ := hp
  rw [List.pairwise_append, List.pairwise_cons]
  refine ⟨p1, ⟨h2, p2⟩, fun a ha b hb => ?_⟩
  rcases List.mem_cons.1 hb with rfl | hb
  · have := h1 a ha
    have : a ≠ b := fun e => hx (by rw [← e]; exact List.mem_of_mem_take ha)
    omega
  · exact p3 a ha b hb
theorem mem_insert (l : List Nat) (x k : Nat) (z : Nat) : z ∈ l.take k ++ x :: l.drop k ↔ z = x ∨ z ∈ l := by
  conv => rhs; rw [← List.take_append_drop k l]
  simp only [List.mem_append, List.mem_cons]
  constructor
  · rintro (h | h | h)
    · exact .inr (.inl h)
    · exact .inl h
    · exact .inr (.inr h)
  · rintro (h | h | h)
    · exact .inr (.inl h)
    · exact .inl h
    · exact .inr (.inr h)
end Go.Proofs.YtalnojpdkiimpaaDoor

/- The model's chapter 4 (package spec): l4Digit, l4Of, PlaceOf, PlaceRead. -/
namespace Go.Proofs.YtalnojpdkiimpaaDoor
open Go.RowKit
set_option linter.unusedVariables false
set_option maxRecDepth 100000
theorem l4Digit_nat (d : Nat) (w : World) (h : d < 60) : Calls Tryd.prog 58 #[.int .i64 d] w fun e w' => e = .returned (.string ⟨(cdig d).toArray⟩) ∧ w = w' := by
  by_cases hz : d = 0
  · subst hz
    go_enter Tryd.func58, Tryd.ntmps58
    go_wp2
    go_ret
    exact ⟨rfl, rfl⟩
  · have hq : ((d : Int) == 0) = false := by rw [beq_eq_false_iff_ne]; omega
    obtain ⟨L1, H1, b1⟩ : ∃ L : List UInt8, Hid (many [60] ((d : Int) / 10).toNat = L) ∧ L.length ≤ 9 := ⟨_, Lib.hid rfl, by rw [many_length]; simp; omega⟩
    obtain ⟨L2, H2, b2⟩ : ∃ L : List UInt8, Hid (many [89] ((d : Int) % 10).toNat = L) ∧ L.length ≤ 9 := ⟨_, Lib.hid rfl, by rw [many_length]; simp; omega⟩
    have Hf : Hid (cdig d = L1 ++ L2) := by
      show _ = _
      unfold cdig
      rw [if_neg hz, ← H1.out, ← H2.out, show ((d : Int) / 10).toNat = d / 10 by omega, show ((d : Int) % 10).toNat = d % 10 by omega]
    clear hz
    go_enter Tryd.func58, Tryd.ntmps58
    go_wp2_with fail
    refine (l6Many_any [60] _ _ (by decide) (by omega) (by omega)).mono ?_
    rw [H1.out]
    rintro e w1 ⟨rfl, rfl⟩
    go_wp2_with fail
    refine (l6Many_any [89] _ _ (by decide) (by omega) (by omega)).mono ?_
    rw [H2.out]
    rintro e w1 ⟨rfl, rfl⟩
    go_wp2_with fail
    go_ret
    exact ⟨ret_bytes (by rw [Hf.out, bytes_append]), rfl⟩
theorem l4Digit_int (d : Int) (w : World) (h0 : 0 ≤ d) (h : d < 60) : Calls Tryd.prog 58 #[.int .i64 d] w fun e w' => e = .returned (.string ⟨(cdig d.toNat).toArray⟩) ∧ w = w' := by
  obtain ⟨k, rfl⟩ := Int.eq_ofNat_of_zero_le h0
  exact l4Digit_nat k w (by omega)
theorem l4Of_nat (w : World) (n : Nat) : n < 12960000 → Calls Tryd.prog 42 #[.int .i64 n] w fun e w' => e = .returned (.string ⟨(clay n).toArray⟩) ∧ w = w' := by
  induction n using Nat.strongRecOn with
  | ind n ih =>
    intro hn
    by_cases h : n < 60
    · rw [clay_low n h]
      have C := Lib.hid (l4Digit_nat n w h)
      go_enter Tryd.func42, Tryd.ntmps42
      go_wp2_with fail
      refine C.out.mono ?_
      rintro e w1 ⟨rfl, rfl⟩
      go_wp2_with fail
      go_ret
      exact ⟨rfl, rfl⟩
    · have C : Hid (∀ m : Int, m = (n : Int) / 60 → Calls Tryd.prog 42 #[.int .i64 m] w fun e w' => e = .returned (.string ⟨(clay (n / 60)).toArray⟩) ∧ w = w') := by
        show ∀ m : Int, _
        rintro m rfl
        have := ih (n / 60) (by omega) (by omega)
        rwa [show ((n / 60 : Nat) : Int) = (n : Int) / 60 by omega] at this
      have D : Hid (∀ m : Int, m = (n : Int) % 60 → Calls Tryd.prog 58 #[.int .i64 m] w fun e w' => e = .returned (.string ⟨(cdig (n % 60)).toArray⟩) ∧ w = w') := by
        show ∀ m : Int, _
        rintro m rfl
        have := l4Digit_nat (n % 60) w (by omega)
        rwa [show ((n % 60 : Nat) : Int) = (n : Int) % 60 by omega] at this
      rw [clay_high n h]
      have b1 := (clay_short (n / 60) (by omega)).2
      have b2 := (cdig_len (n % 60) (by omega)).2
      generalize clay (n / 60) = L1 at *
      generalize cdig (n % 60) = L2 at *
      clear ih
      go_enter Tryd.func42, Tryd.ntmps42
      go_wp2_with fail
      refine (C.out _ rfl).mono ?_
      rintro e w1 ⟨rfl, rfl⟩
      go_wp2_with fail
      refine (D.out _ rfl).mono ?_
      rintro e w1 ⟨rfl, rfl⟩
      go_wp2_with fail
      go_ret
      exact ⟨ret_bytes (by rw [show (⟨#[32]⟩ : ByteArray) = ⟨[(32 : UInt8)].toArray⟩ from rfl, bytes_append, bytes_append]; simp), rfl⟩
/-- PlaceOf's answer -/
def placeOfR (n : Int) : Value := if 0 ≤ n ∧ n ≤ 12959999 then .tuple #[.string ⟨(clay n.toNat).toArray⟩, .bool true] else .tuple #[.string ⟨#[]⟩, .bool false]
theorem placeOfR_yes (n : Nat) (h : n ≤ 12959999) : placeOfR n = .tuple #[.string ⟨(clay n).toArray⟩, .bool true] := by
  unfold placeOfR; rw [if_pos ⟨by omega, by omega⟩]; rfl
theorem placeOfR_no (n : Int) (h : ¬ (0 ≤ n ∧ n ≤ 12959999)) : placeOfR n = .tuple #[.string ⟨#[]⟩, .bool false] := by unfold placeOfR; rw [if_neg h]
theorem sPlaceOf_any (n : Int) (w : World) : Calls Tryd.prog 25 #[.int .i64 n] w fun e w' => e = .returned (placeOfR n) ∧ w = w' := by
  have C := Lib.hid (l6In_any n 0 12959999)
  by_cases h : 0 ≤ n ∧ n ≤ 12959999
  · obtain ⟨k, rfl⟩ := Int.eq_ofNat_of_zero_le h.1
    rw [placeOfR_yes k (by omega)]
    have O := Lib.hid (l4Of_nat w k (by omega))
    rw [show decide (0 ≤ (k : Int) ∧ (k : Int) ≤ 12959999) = true from decide_eq_true h] at C
    clear h
    go_enter Tryd.func25, Tryd.ntmps25
    go_wp2_with fail
    refine (C.out _).mono ?_
    rintro e w1 ⟨rfl, rfl⟩
    go_wp2_with fail
    refine O.out.mono ?_
    rintro e w1 ⟨rfl, rfl⟩
    go_wp2_with fail
    go_ret2
    exact ⟨rfl, rfl⟩
  · rw [placeOfR_no n h]
    rw [show decide (0 ≤ n ∧ n ≤ 12959999) = false from decide_eq_false h] at C
    clear h
    go_enter Tryd.func25, Tryd.ntmps25
    go_wp2_with fail
    refine (C.out _).mono ?_
    rintro e w1 ⟨rfl, rfl⟩
    go_wp2_with fail
    go_ret2
    exact ⟨rfl, rfl⟩
/-- PlaceRead's answer -/
def placeReadR (l : List UInt8) : Value := if isC l = true then .tuple #[.int .i64 (cval l : Nat), .bool true] else .tuple #[.int .i64 0, .bool false]
theorem placeReadR_yes (l : List UInt8) (v : Nat) (h1 : v ≤ 12959999) (h2 : clay v = l) : placeReadR l = .tuple #[.int .i64 v, .bool true] := by
  subst h2
  unfold placeReadR
  rw [if_pos (isC_clay v h1), clay_val]
theorem placeReadR_no (l : List UInt8) (h : isC l = false) : placeReadR l = .tuple #[.int .i64 0, .bool false] := by unfold placeReadR; rw [h]; rfl
/-- what the loop leaves -/
theorem readEnd (l : List UInt8) (k v : Nat) (h : v = cval (l.take k)) (he : v < 12960000 → k = l.length) :
    (v ≤ 12959999 ∧ clay v = l → placeReadR l = .tuple #[.int .i64 v, .bool true]) ∧ (¬ (v ≤ 12959999 ∧ clay v = l) → placeReadR l = .tuple #[.int .i64 0, .bool false]) := by
  refine ⟨fun ⟨a, b⟩ => placeReadR_yes l v a b, fun hn => placeReadR_no l ?_⟩
  rw [Bool.eq_false_iff]
  intro hc
  obtain ⟨c1, c2⟩ := isC_of l hc
  have hp := cval_prefix l k
  rw [← h] at hp
  have hk := he (by omega)
  rw [hk, List.take_length] at h
  subst h
  exact hn ⟨c1, c2⟩
theorem byte_is (l : List UInt8) (k : Nat) (hk : k < l.length) (n : Nat) (hn : n < 256) : l[k] = UInt8.ofNat n ↔ ((l[k].toNat : Int) = n) := by
  constructor
  · intro h; rw [h, UInt8.toNat_ofNat']; omega
  · intro h
    apply UInt8.toNat_inj.1
    rw [UInt8.toNat_ofNat']
    omega
theorem ret_v {a b : Value} (h : a = b) : Ending.returned a = .returned b := by rw [h]
theorem bytes_at (l : List UInt8) (k : Nat) (hk : k < l.length) (c : UInt8) (h : l[k] = c) : ∀ hix, ((((⟨l.toArray⟩ : ByteArray)[k]'hix).toNat : Int)) = (c.toNat : Int) := by
  intro hix
  have e : (⟨l.toArray⟩ : ByteArray)[k]'hix = c := h
  rw [e]
theorem byte_ne (c : UInt8) (n : Nat) (hn : n < 256) (h : c ≠ UInt8.ofNat n) : ((c.toNat : Int) == (n : Int)) = false := by
  rw [beq_eq_false_iff_ne]
  intro e
  apply h
  apply UInt8.toNat_inj.1
  rw [UInt8.toNat_ofNat']
  omega
end Go.Proofs.YtalnojpdkiimpaaDoor

/- The model's chapter 8 (package spec): ChangeOf, ChangeLength. -/
namespace Go.Proofs.YtalnojpdkiimpaaDoor
open Go.RowKit
set_option linter.unusedVariables false
set_option maxRecDepth 100000
/-- an answer with a text -/
def oV : Option (List UInt8) → Value
  | some l => .tuple #[.string ⟨l.toArray⟩, .bool true]
  | none => .tuple #[.string ⟨#[]⟩, .bool false]
/-- an answer with a number -/
def iV : Option Nat → Value
  | some n => .tuple #[.int .i64 n, .bool true]
  | none => .tuple #[.int .i64 0, .bool false]
theorem oV_two (o : Option (List UInt8)) : ∃ (x : List UInt8) (b : Bool), oV o = .tuple #[.string ⟨x.toArray⟩, .bool b] ∧ (b = true → o = some x) ∧ (b = false → o = none ∧ x = []) := by
  cases o with
  | none => exact ⟨[], false, rfl, (fun h => by cases h), fun _ => ⟨rfl, rfl⟩⟩
  | some l => exact ⟨l, true, rfl, fun _ => rfl, (fun h => by cases h)⟩
theorem iV_two (o : Option Nat) : ∃ (x : Nat) (b : Bool), iV o = .tuple #[.int .i64 x, .bool b] ∧ (b = true → o = some x) ∧ (b = false → o = none ∧ x = 0) := by
  cases o with
  | none => exact ⟨0, false, rfl, (fun h => by cases h), fun _ => ⟨rfl, rfl⟩⟩
  | some l => exact ⟨l, true, rfl, fun _ => rfl, (fun h => by cases h)⟩
theorem chO_r (n : Int) : chO [114] n = if 1 ≤ n ∧ n ≤ 3999 then some (strict n.toNat) else none := by
  unfold chO
  rw [if_pos rfl]
theorem chO_a (n : Int) : chO [97] n = if 1 ≤ n ∧ n ≤ 9999 then some (aof n.toNat) else none := by
  unfold chO
  rw [if_neg (by decide), if_pos rfl]
theorem chO_c (n : Int) : chO [99] n = if 0 ≤ n ∧ n ≤ 12959999 then some (clay n.toNat) else none := by
  unfold chO
  rw [if_neg (by decide), if_neg (by decide), if_pos rfl]
theorem chO_k (n : Int) : chO [107] n = if 0 ≤ n ∧ n ≤ 99999999 then some (rkO n.toNat) else none := by
  unfold chO
  rw [if_neg (by decide), if_neg (by decide), if_neg (by decide), if_pos rfl]
theorem chO_d (n : Int) : chO [100] n = if 0 ≤ n ∧ n ≤ 99999999 then some (dcm n.toNat) else none := by
  unfold chO
  rw [if_neg (by decide), if_neg (by decide), if_neg (by decide), if_neg (by decide), if_pos rfl]
theorem oV_r (n : Int) : romanOfR n = oV (chO [114] n) := by
  unfold romanOfR; rw [chO_r]; split <;> rfl
theorem oV_a (n : Int) : alphaOfR n = oV (chO [97] n) := by
  unfold alphaOfR; rw [chO_a]; split <;> rfl
theorem oV_c (n : Int) : placeOfR n = oV (chO [99] n) := by
  unfold placeOfR; rw [chO_c]; split <;> rfl
theorem oV_k (n : Int) : rkR n = oV (chO [107] n) := by
  unfold rkR; rw [chO_k]; split <;> rfl
theorem oV_d (n : Int) : (if 0 ≤ n ∧ n ≤ 99999999 then .tuple #[.string ⟨(dcm n.toNat).toArray⟩, .bool true] else .tuple #[.string ⟨#[]⟩, .bool false]) = oV (chO [100] n) := by
  rw [chO_d]; split <;> rfl
theorem chO_other (K : List UInt8) (n : Int) (h1 : K ≠ [114]) (h2 : K ≠ [97]) (h3 : K ≠ [99]) (h4 : K ≠ [107]) (h5 : K ≠ [100]) : chO K n = none := by
  unfold chO
  rw [if_neg h1, if_neg h2, if_neg h3, if_neg h4, if_neg h5]
theorem kne {K m : List UInt8} (h : K ≠ m) : (K == m) = false := by rw [beq_eq_false_iff_ne]; exact h
set_option maxHeartbeats 2000000 in
theorem sChangeOf_any (K : List UInt8) (n : Int) (w : World) : Calls Tryd.prog 15 #[.string ⟨K.toArray⟩, .int .i64 n] w fun e w' => e = .returned (oV (chO K n)) ∧ Below w.heap.size w w' := by
  by_cases k1 : K = [114]
  · subst k1
    have C := Lib.hid (sRomanOf_any n w)
    rw [oV_r] at C
    obtain ⟨x, b, hx, _⟩ := oV_two (chO [114] n)
    rw [hx] at C ⊢
    clear hx
    go_enter Tryd.func15, Tryd.ntmps15
    go_wp2_with fail
    refine C.out.mono ?_
    rintro e w1 ⟨rfl, g1⟩
    have G1 := Lib.hid g1; clear g1
    go_wp2_with fail
    go_ret2
    exact ⟨rfl, G1.out⟩
  by_cases k2 : K = [97]
  · subst k2
    have C := Lib.hid (sAlphaOf_any n w)
    rw [oV_a] at C
    obtain ⟨x, b, hx, _⟩ := oV_two (chO [97] n)
    rw [hx] at C ⊢
    clear hx k1
    go_enter Tryd.func15, Tryd.ntmps15
    go_wp2_with fail
    refine C.out.mono ?_
    rintro e w1 ⟨rfl, g1⟩
    have G1 := Lib.hid g1; clear g1
    go_wp2_with fail
    go_ret2
    exact ⟨rfl, G1.out⟩
  by_cases k3 : K = [99]
  · subst k3
    have C := Lib.hid (sPlaceOf_any n w)
    rw [oV_c] at C
    obtain ⟨x, b, hx, _⟩ := oV_two (chO [99] n)
    rw [hx] at C ⊢
    clear hx k1 k2
    go_enter Tryd.func15, Tryd.ntmps15
    go_wp2_with fail
    refine C.out.mono ?_
    rintro e w1 ⟨rfl, rfl⟩
    go_wp2_with fail
    go_ret2
    exact ⟨rfl, Below.refl _ _⟩
  by_cases k4 : K = [107]
  · subst k4
    have C := Lib.hid (sRankOf_any n w)
    rw [oV_k] at C
    obtain ⟨x, b, hx, _⟩ := oV_two (chO [107] n)
    rw [hx] at C ⊢
    clear hx k1 k2 k3
    go_enter Tryd.func15, Tryd.ntmps15
    go_wp2_with fail
    refine C.out.mono ?_
    rintro e w1 ⟨rfl, g1⟩
    have G1 := Lib.hid g1; clear g1
    go_wp2_with fail
    go_ret2
    exact ⟨rfl, G1.out⟩
  by_cases k5 : K = [100]
  · subst k5
    rw [← oV_d]
    have C := Lib.hid (in_any n 0 99999999 w)
    clear k1 k2 k3 k4
    by_cases h : 0 ≤ n ∧ n ≤ 99999999
    · rw [if_pos h]
      rw [show decide (0 ≤ n ∧ n ≤ 99999999) = true from decide_eq_true h] at C
      obtain ⟨u, rfl⟩ := Int.eq_ofNat_of_zero_le h.1
      have D := Lib.hid (sl6DecN_any u w (by omega))
      rw [show ((u : Int)).toNat = u by omega]
      generalize dcm u = M at *
      clear h
      go_enter Tryd.func15, Tryd.ntmps15
      go_wp2_with fail
      refine C.out.mono ?_
      rintro e w1 ⟨rfl, rfl⟩
      go_wp2_with fail
      refine D.out.mono ?_
      rintro e w1 ⟨rfl, g1⟩
      have G1 := Lib.hid g1; clear g1
      go_wp2_with fail
      go_ret2
      exact ⟨rfl, G1.out⟩
    · rw [if_neg h]
      rw [show decide (0 ≤ n ∧ n ≤ 99999999) = false from decide_eq_false h] at C
      clear h
      go_enter Tryd.func15, Tryd.ntmps15
      go_wp2_with fail
      refine C.out.mono ?_
      rintro e w1 ⟨rfl, rfl⟩
      go_wp2_with fail
      go_ret2
      exact ⟨rfl, Below.refl _ _⟩
  · rw [chO_other K n k1 k2 k3 k4 k5]
    have q1 := kne k1; have q2 := kne k2; have q3 := kne k3; have q4 := kne k4; have q5 := kne k5
    clear k1 k2 k3 k4 k5
    go_enter Tryd.func15, Tryd.ntmps15
    go_wp2_with fail
    go_ret2
    exact ⟨rfl, Below.refl _ _⟩
/-- the length of a numeral -/
def lnO (K : List UInt8) (n : Int) : Option Nat := (chO K n).map List.length
theorem sChangeLength_any (K : List UInt8) (n : Int) (w : World) : Calls Tryd.prog 10 #[.string ⟨K.toArray⟩, .int .i64 n] w fun e w' => e = .returned (iV (lnO K n)) ∧ Below w.heap.size w w' := by
  have C := Lib.hid (sChangeOf_any K n w)
  obtain ⟨x, b, hx, h1, h2⟩ := oV_two (chO K n)
  have hv : iV (lnO K n) = .tuple #[.int .i64 x.length, .bool b] := by
    unfold lnO
    cases b with
    | false => rw [(h2 rfl).1, (h2 rfl).2]; rfl
    | true => rw [h1 rfl]; rfl
  rw [hx] at C
  rw [hv]
  clear hx hv h1 h2
  go_enter Tryd.func10, Tryd.ntmps10
  go_wp2_with fail
  refine C.out.mono ?_
  rintro e w1 ⟨rfl, g1⟩
  have G1 := Lib.hid g1; clear g1
  go_wp2_with fail
  go_ret2
  exact ⟨rfl, G1.out⟩
def I64Ok (x : Int) : Prop := -9223372036854775808 ≤ x ∧ x ≤ 9223372036854775807
theorem i64_ok8 {x : Int} (h : (Lit.int .i64 x).wf = true) : I64Ok x := by
  simp only [Lit.wf, Bool.and_eq_true, decide_eq_true_eq] at h
  exact h
theorem bytes_list8 (s : ByteArray) : ∃ l : List UInt8, s = ⟨l.toArray⟩ ∧ s.size = l.length := ⟨s.data.toList, by simp, by simp⟩
theorem oV_val (o : Option (List UInt8)) : ∃ (x : ByteArray) (b : Bool), oV o = .tuple #[.string x, .bool b] := by
  obtain ⟨x, b, h, _⟩ := oV_two o
  exact ⟨_, b, h⟩
theorem iV_val (o : Option Nat) : ∃ (x : Nat) (b : Bool), iV o = .tuple #[.int .i64 x, .bool b] := by
  obtain ⟨x, b, h, _⟩ := iV_two o
  exact ⟨x, b, h⟩
end Go.Proofs.YtalnojpdkiimpaaDoor

/- The model's chapter 6 (package spec): RankNoughts, RankShort, RankLong, RankSum. -/
namespace Go.Proofs.YtalnojpdkiimpaaDoor
open Go.RowKit
set_option linter.unusedVariables false
set_option maxRecDepth 100000
/-- RankNoughts's answer -/
def rnR (n : Int) : Value := if 0 ≤ n ∧ n ≤ 99999999 then .tuple #[.int .i64 (nts (rkO n.toNat) : Nat), .bool true] else .tuple #[.int .i64 0, .bool false]
theorem nts_succ (l : List UInt8) (k : Nat) (h : k < l.length) : nts (l.take (k + 1)) = nts (l.take k) + (if l[k] = 111 then 1 else 0) := by
  rw [List.take_succ_eq_append_getElem h, nts_append]
  unfold nts
  split
  · rename_i e; rw [e]; rfl
  · rename_i e; rw [List.filter_cons_of_neg (by simpa using e)]; rfl
theorem nts_le (l : List UInt8) : nts l ≤ l.length := List.length_filter_le _ _
/-- RankOf's answer is a text and a yes or no -/
theorem rkR_form (n : Int) : ∃ (l : List UInt8) (b : Bool), rkR n = .tuple #[.string ⟨l.toArray⟩, .bool b] ∧ l.length ≤ 16 ∧ rnR n = .tuple #[.int .i64 (nts l : Nat), .bool b] := by
  by_cases h : 0 ≤ n ∧ n ≤ 99999999
  · exact ⟨rkO n.toNat, true, by unfold rkR; rw [if_pos h], (rkO_len _).2, by unfold rnR; rw [if_pos h]⟩
  · exact ⟨[], false, by unfold rkR; rw [if_neg h], by simp, by unfold rnR; rw [if_neg h]; rfl⟩
/-- RankSum's answer -/
def rsR (l m : List UInt8) : Value := if rrB l = true ∧ rrB m = true then rkR ((rkN l : Int) + (rkN m : Int)) else .tuple #[.string ⟨#[]⟩, .bool false]
end Go.Proofs.YtalnojpdkiimpaaDoor

/- The model's chapter 6 (package spec): RankShort, RankLong. -/
namespace Go.Proofs.YtalnojpdkiimpaaDoor
open Go.RowKit
set_option linter.unusedVariables false
set_option maxRecDepth 100000
/-- without a one ahead of the tens -/
def shL (l : List UInt8) : List UInt8 := if l.take 2 = [49, 115] then l.drop 1 else l
def rhR (n : Int) : Value := if 0 ≤ n ∧ n ≤ 99999999 then .tuple #[.string ⟨(shL (rkO n.toNat)).toArray⟩, .bool true] else .tuple #[.string ⟨#[]⟩, .bool false]
theorem rhR_form (n : Int) : ∃ (l : List UInt8) (b : Bool), rkR n = .tuple #[.string ⟨l.toArray⟩, .bool b] ∧ l.length ≤ 16 ∧ (b = false → l = []) ∧ rhR n = .tuple #[.string ⟨(shL l).toArray⟩, .bool b] := by
  by_cases h : 0 ≤ n ∧ n ≤ 99999999
  · exact ⟨rkO n.toNat, true, by unfold rkR; rw [if_pos h], (rkO_len _).2, by simp, by unfold rhR; rw [if_pos h]⟩
  · exact ⟨[], false, by unfold rkR; rw [if_neg h], by simp, fun _ => rfl, by unfold rhR; rw [if_neg h]; rfl⟩
theorem ext_take (l : List UInt8) (k : Nat) : (⟨l.toArray⟩ : ByteArray).extract 0 k = ⟨(l.take k).toArray⟩ ∧ (⟨l.toArray⟩ : ByteArray).extract k l.length = ⟨(l.drop k).toArray⟩ := by
  rw [Lib.extract_eq, Lib.extract_eq]
  refine ⟨by simp, ?_⟩
  rw [List.take_of_length_le (by simp)]
theorem ext_list (l : List UInt8) (k : Nat) : ((⟨l.toArray⟩ : ByteArray).extract 0 k).toList = l.take k := by
  rw [Lib.extract_toList]; simp
/-- the first number up to k with the longest text -/
def bsl : Nat → Nat
  | 0 => 0
  | k + 1 => if (rkO (bsl k)).length < (rkO (k + 1)).length then k + 1 else bsl k
theorem bsl_le : ∀ k, bsl k ≤ k
  | 0 => Nat.le_refl _
  | k + 1 => by have := bsl_le k; unfold bsl; split <;> omega
theorem bsl_most : ∀ k j, j ≤ k → (rkO j).length ≤ (rkO (bsl k)).length ∧ (j < bsl k → (rkO j).length < (rkO (bsl k)).length)
  | 0, j, h => by
    obtain rfl : j = 0 := by omega
    exact ⟨Nat.le_refl _, fun h => by simp [bsl] at h⟩
  | k + 1, j, h => by
    have ih := bsl_most k
    have hle := bsl_le k
    unfold bsl
    split
    · rename_i hlt
      refine ⟨?_, fun hj => ?_⟩
      · by_cases e : j = k + 1
        · subst e; exact Nat.le_refl _
        · have := (ih j (by omega)).1; omega
      · have := (ih j (by omega)).1; omega
    · rename_i hlt
      refine ⟨?_, fun hj => ?_⟩
      · by_cases e : j = k + 1
        · subst e; omega
        · exact (ih j (by omega)).1
      · exact (ih j (by omega)).2 hj
def rlR (n : Int) : Value := if 0 ≤ n ∧ n ≤ 2000 then .tuple #[.int .i64 (bsl n.toNat : Nat), .bool true] else .tuple #[.int .i64 0, .bool false]
end Go.Proofs.YtalnojpdkiimpaaDoor

/- The reader of a drawn code (package spec): pick, l6Open. -/
namespace Go.Proofs.YtalnojpdkiimpaaDoor
open Go.RowKit
set_option linter.unusedVariables false
set_option maxRecDepth 100000
/-- a reader in block r: len bytes (all in blocks below r), its place p -/
structure Rd (w : World) (r : Nat) (a : Option Addr) (len cap : Nat) (p : Nat) : Prop where
  blk : w.heap[r]? = some (.cells #[.slice a len cap, .int .i64 (p : Nat)] 61 (0, 0))
  small : len ≤ 2000
  at' : ∀ i, i < len → ∃ b off y, a = some ⟨b, off, none⟩ ∧ b < r ∧ w.cell? ⟨b, off + i, none⟩ = some (.int .u8 y) ∧ 0 ≤ y ∧ y ≤ 255
/-- what a pick leaves: the reader's place is one further, nothing else has turned -/
theorem Rd.next {w : World} {r : Nat} {a : Option Addr} {len cap p : Nat} (h : Rd w r a len cap p) (q : Nat) :
    Rd ((w.setCell ⟨r, 1, none⟩ (.int .i64 ((p : Int) + 1))).drewN q) r a len cap (p + 1) ∧ w.grownBy ((w.setCell ⟨r, 1, none⟩ (.int .i64 ((p : Int) + 1))).drewN q) (some r) := by
  have hr : r < w.heap.size := lt_of_block' h.blk
  have hg : w.grownBy ((w.setCell ⟨r, 1, none⟩ (.int .i64 ((p : Int) + 1))).drewN q) (some r) :=
    ⟨rfl, rfl, rfl, by simp [World.setCell, World.drewN], fun k hk hne => by
      show (w.setCell ⟨r, 1, none⟩ (.int .i64 ((p : Int) + 1))).heap[k]? = _
      exact Below.heap_setCell _ _ _ _ (fun e => hne (by simp at e; rw [e]))⟩
  refine ⟨⟨?_, h.small, fun i hi => ?_⟩, hg⟩
  · show (w.heap.modify r _)[r]? = _
    have hb := h.blk
    rw [Array.getElem?_eq_getElem hr] at hb
    rw [Array.getElem?_eq_getElem (by simpa using hr), Array.getElem_modify_self, Option.some.inj hb]
    simp
  · obtain ⟨b, off, y, ha, hb, hc, h0, h1⟩ := h.at' i hi
    exact ⟨b, off, y, ha, hb, hg.cell hc (by simp; omega), h0, h1⟩
theorem xor_nonneg (x y : Int) (h0 : 0 ≤ x) (h1 : x ≤ 1000000000) (g0 : 0 ≤ y) (g1 : y ≤ 1000000000) : 0 ≤ bits BinOp.xor IntKind.i64 x y := by
  obtain ⟨a, rfl⟩ := Int.eq_ofNat_of_zero_le h0
  obtain ⟨b, rfl⟩ := Int.eq_ofNat_of_zero_le g0
  have ha : a < 2 ^ 62 := by omega
  have hb : b < 2 ^ 62 := by omega
  have hx : a ^^^ b < 2 ^ 62 := Nat.xor_lt_two_pow ha hb
  have ha' : a % 2 ^ 64 = a := Nat.mod_eq_of_lt (by omega)
  have hb' : b % 2 ^ 64 = b := Nat.mod_eq_of_lt (by omega)
  have e : bits BinOp.xor IntKind.i64 (a : Int) (b : Int) = IntKind.i64.wrap ((a ^^^ b : Nat) : Int) := by
    have e64 : IntKind.i64.bits = 64 := rfl
    simp only [bits, BitVec.ofInt_natCast, BitVec.toNat_xor, BitVec.toNat_ofNat, e64, ha', hb']
  rw [e, IntWalk.i64_in _ (by omega)]
  omega
theorem tmod_between (x n : Int) (h0 : 0 ≤ x) (hn : 1 ≤ n) : 0 ≤ x.tmod n ∧ x.tmod n < n := by
  rw [Int.tmod_eq_emod_of_nonneg h0]
  exact ⟨Int.emod_nonneg _ (by omega), Int.emod_lt_of_pos _ (by omega)⟩
theorem pick_any (r : Nat) (a : Option Addr) (len cap : Nat) (p : Nat) (n : Int) (w : World) (h : Rd w r a len cap p) (hn : 1 ≤ n) (hn2 : n ≤ 1000000) (hp : p ≤ 1000000) :
    Calls Tryd.prog 36 #[.pointer (some ⟨r, 0, none⟩), .int .i64 n] w fun e w' => ∃ x : Int, 0 ≤ x ∧ x < n ∧ e = .returned (.int .i64 x) ∧ Rd w' r a len cap (p + 1) ∧ w.grownBy w' (some r) := by
  have hc0 : w.cell? ⟨r, 0, none⟩ = some (.slice a len cap) := cell_at h.blk (j := 0) rfl
  have hc1 : w.cell? ⟨r, 1, none⟩ = some (.int .i64 (p : Nat)) := cell_at h.blk (j := 1) rfl
  have hf : w.frozen? ⟨r, 1, none⟩ = false := by simp [World.frozen?, h.blk]
  have hl := h.small
  have Hnext := Lib.hid (fun q => h.next q)
  by_cases h0 : len = 0
  · subst h0
    clear h
    go_enter Tryd.func36, Tryd.ntmps36
    go_wp2
    go_ret
    exact ⟨0, Int.le_refl _, by omega, rfl, Hnext.out 0⟩
  · by_cases hk : p < len
    · obtain ⟨b, off, y, rfl, hbr, hcb, hz0, hz1⟩ := h.at' p hk
      have hz : ((len : Int) == 0) = false := by rw [beq_eq_false_iff_ne]; omega
      clear h
      go_enter Tryd.func36, Tryd.ntmps36
      go_wp2
      go_ret
      exact ⟨y % n, Int.emod_nonneg _ (by omega), Int.emod_lt_of_pos _ (by omega), rfl, Hnext.out 0⟩
    · obtain ⟨b, off, y, rfl, hbr, hcb, hz0, hz1⟩ := h.at' (p % len) (Nat.mod_lt _ (by omega))
      obtain ⟨b', off', y', he, hbr', hcb', hz0', hz1'⟩ := h.at' ((p * 7 + 3) % len) (Nat.mod_lt _ (by omega))
      obtain ⟨rfl, rfl⟩ : b' = b ∧ off' = off := by simpa [eq_comm] using he
      have hz : ((len : Int) == 0) = false := by rw [beq_eq_false_iff_ne]; omega
      clear h he
      have hm1 : (p : Int) % (len : Int) < len := Int.emod_lt_of_pos _ (by omega)
      have hm2 : ((p : Int) * 7 + 3) % (len : Int) < len := Int.emod_lt_of_pos _ (by omega)
      have hm3 : 0 ≤ (p : Int) % (len : Int) := Int.emod_nonneg _ (by omega)
      have hm4 : 0 ≤ ((p : Int) * 7 + 3) % (len : Int) := Int.emod_nonneg _ (by omega)
      have hq0 : 0 ≤ (p : Int) / (len : Int) := Int.ediv_nonneg (by omega) (by omega)
      have hq1 : (p : Int) / (len : Int) ≤ 1000000 := by
        rw [← Int.natCast_ediv]
        have := Nat.div_le_self p len
        generalize p / len = z at this ⊢
        omega
      go_enter Tryd.func36, Tryd.ntmps36
      go_wp2
      go_quiet (fail)
      go_wp2
      go_ret
      have hx := xor_nonneg (y * 131 + y' * 1117 + (p : Int) * 29 + (p : Int) / (len : Int) * 53) ((y * 131 + y' * 1117 + (p : Int) * 29 + (p : Int) / (len : Int) * 53) / 64) (by omega) (by omega) (by omega) (by omega)
      exact ⟨_, (tmod_between _ n hx hn).1, (tmod_between _ n hx hn).2, rfl, Hnext.out nq⟩
theorem l6Open_any (a : Option Addr) (len cap : Nat) (zs : List Int) (w : World) (h : IsRow .u8 w a len cap zs) :
    Calls Tryd.prog 20 #[.slice a len cap] w fun e w' => ∃ (a' : Option Addr) (l c : Nat), e = .returned (.pointer (some ⟨w.heap.size, 0, none⟩)) ∧ Rd w' w.heap.size a' l c 0 ∧ Below w.heap.size w w' := by
  rcases h with ⟨rfl, rfl, rfl, rfl⟩ | ⟨x, rfl, hl, hm, hz, hcell, hwz⟩
  · go_enter Tryd.func20, Tryd.ntmps20
    go_wp2
    go_ret
    exact ⟨_, _, _, rfl, ⟨heap_alloc_new _ _, by omega, fun i hi => by omega⟩, (Below.refl _ _).alloc (Nat.le_refl _) _⟩
  · obtain ⟨b, off, spot⟩ := x
    unfold maxLen at hm
    by_cases h0 : len = 0
    · subst h0
      go_enter Tryd.func20, Tryd.ntmps20
      go_wp2
      go_ret
      exact ⟨_, _, _, rfl, ⟨heap_alloc_new _ _, by omega, fun i hi => by omega⟩, (Below.refl _ _).alloc (Nat.le_refl _) _⟩
    · have hc := hcell 0 (by omega)
      have hspot : spot = none := by simpa [Addr.add] using World.cell?_spot hc
      subst hspot
      have hat : ∀ l c, l ≤ len → ∀ i, i < l → ∃ b' off' y, some (⟨b, off, none⟩ : Addr) = some ⟨b', off', none⟩ ∧ b' < w.heap.size ∧ (w.alloc c).cell? ⟨b', off' + i, none⟩ = some (.int .u8 y) ∧ 0 ≤ y ∧ y ≤ 255 := by
        intro l c hlc i hi
        have hci := hcell i (by omega)
        have hci' : w.cell? ⟨b, off + i, none⟩ = some (.int .u8 (zs.getD i 0)) := by
          have e : (⟨b, off, none⟩ : Addr).add i = ⟨b, off + i, none⟩ := by unfold Addr.add; split <;> simp_all
          rw [← e]; exact hci
        have hlt := World.block_lt_of_cell? w _ hci'
        have hwf := hwz (zs.getD i 0) (by rw [List.getD_eq_getElem?_getD, List.getElem?_eq_getElem (by omega)]; exact List.getElem_mem _)
        simp only [Lit.wf, Bool.and_eq_true, decide_eq_true_eq] at hwf
        refine ⟨b, off, zs.getD i 0, rfl, hlt, ?_, hwf.1, hwf.2⟩
        rw [World.cell?_of_block (Below.heap_alloc w c b hlt)]
        exact hci'
      have Hat := Lib.hid hat
      clear hat hcell hwz hc
      by_cases h2 : 2000 < len
      · go_enter Tryd.func20, Tryd.ntmps20
        go_wp2
        go_ret
        exact ⟨_, _, _, rfl, ⟨heap_alloc_new _ _, by omega, Hat.out _ _ (by omega)⟩, (Below.refl _ _).alloc (Nat.le_refl _) _⟩
      · go_enter Tryd.func20, Tryd.ntmps20
        go_wp2
        go_ret
        exact ⟨_, _, _, rfl, ⟨heap_alloc_new _ _, by omega, Hat.out _ _ (by omega)⟩, (Below.refl _ _).alloc (Nat.le_refl _) _⟩
end Go.Proofs.YtalnojpdkiimpaaDoor

/- The draws of chapter 1 (package spec): a number. -/
namespace Go.Proofs.YtalnojpdkiimpaaDoor
open Go.RowKit
set_option linter.unusedVariables false
set_option maxRecDepth 100000
theorem grown_trans {w1 w2 w3 : World} {r : Nat} (h : w1.grownBy w2 (some r)) (k : w2.grownBy w3 (some r)) : w1.grownBy w3 (some r) :=
  ⟨k.os.trans h.os, k.tape.trans h.tape, k.output.trans h.output, Nat.le_trans h.size k.size, fun i hi hne => (k.block i (Nat.lt_of_lt_of_le hi h.size) hne).trans (h.block i hi hne)⟩
theorem bel_grown {B r : Nat} {w w1 w2 : World} (h : Below B w w1) (g : w1.grownBy w2 (some r)) (hB : B ≤ w1.heap.size) (hr : B ≤ r) : Below B w w2 := h.grown g hB (fun k hk => by simp at hk; omega)
theorem l91Small_any (r : Nat) (a : Option Addr) (len cap : Nat) (p : Nat) (w : World) (h : Rd w r a len cap p) (hp : p ≤ 900000) :
    Calls Tryd.prog 39 #[.pointer (some ⟨r, 0, none⟩)] w fun e w' => ∃ (x : Int) (p' : Nat), 0 ≤ x ∧ x ≤ 4000 ∧ e = .returned (.int .i64 x) ∧ Rd w' r a len cap p' ∧ p' ≤ p + 5 ∧ w.grownBy w' (some r) := by
  have H := Lib.hid h; clear h
  go_enter Tryd.func39, Tryd.ntmps39
  go_wp2_with fail
  refine (pick_any r a len cap p _ _ H.out (by omega) (by omega) (by omega)).mono ?_
  rintro e w1 ⟨x, hx0, hx1, rfl, hr1, g1⟩
  have H1 := Lib.hid hr1; have G1 := Lib.hid g1; clear hr1 g1
  by_cases h0 : x = 0
  · subst h0
    go_wp2_with fail
    go_ret
    exact ⟨0, p + 1, by omega, by omega, rfl, H1.out, by omega, G1.out⟩
  by_cases h1 : x = 1
  · subst h1
    go_wp2_with fail
    go_ret
    exact ⟨4000, p + 1, by omega, by omega, rfl, H1.out, by omega, G1.out⟩
  by_cases h2 : x = 2
  · subst h2
    go_wp2_with fail
    refine (pick_any r a len cap _ _ _ H1.out (by omega) (by omega) (by omega)).mono ?_
    rintro e w2 ⟨y, hy0, hy1, rfl, hr2, g2⟩
    have H2 := Lib.hid hr2; have G2 := Lib.hid g2; clear hr2 g2
    go_wp2_with fail
    go_ret
    exact ⟨1 + y, p + 2, by omega, by omega, rfl, H2.out, by omega, grown_trans G1.out G2.out⟩
  · go_wp2_with fail
    refine (pick_any r a len cap _ _ _ H1.out (by omega) (by omega) (by omega)).mono ?_
    rintro e w2 ⟨y, hy0, hy1, rfl, hr2, g2⟩
    have H2 := Lib.hid hr2; have G2 := Lib.hid g2; clear hr2 g2
    go_wp2_with fail
    refine (pick_any r a len cap _ _ _ H2.out (by omega) (by omega) (by omega)).mono ?_
    rintro e w3 ⟨z, hz0, hz1, rfl, hr3, g3⟩
    have H3 := Lib.hid hr3; have G3 := Lib.hid g3; clear hr3 g3
    go_wp2_with fail
    refine (pick_any r a len cap _ _ _ H3.out (by omega) (by omega) (by omega)).mono ?_
    rintro e w4 ⟨u, hu0, hu1, rfl, hr4, g4⟩
    have H4 := Lib.hid hr4; have G4 := Lib.hid g4; clear hr4 g4
    go_wp2_with fail
    refine (pick_any r a len cap _ _ _ H4.out (by omega) (by omega) (by omega)).mono ?_
    rintro e w5 ⟨v, hv0, hv1, rfl, hr5, g5⟩
    have H5 := Lib.hid hr5; have G5 := Lib.hid g5; clear hr5 g5
    go_wp2_with fail
    go_ret
    exact ⟨_, p + 5, by omega, by omega, rfl, H5.out, by omega, grown_trans G1.out (grown_trans G2.out (grown_trans G3.out (grown_trans G4.out G5.out)))⟩
end Go.Proofs.YtalnojpdkiimpaaDoor

/- The draws of chapter 1 (package spec): a text. -/
namespace Go.Proofs.YtalnojpdkiimpaaDoor
open Go.RowKit
set_option linter.unusedVariables false
set_option maxRecDepth 100000
theorem Rd.grownOther {w w' : World} {r : Nat} {a : Option Addr} {len cap p : Nat} (h : Rd w r a len cap p) (hg : w.grownBy w' none) : Rd w' r a len cap p :=
  ⟨by rw [hg.block r (lt_of_block' h.blk) (by simp)]; exact h.blk, h.small, fun i hi => by
    obtain ⟨b, off, y, ha, hb, hc, h0, h1⟩ := h.at' i hi
    exact ⟨b, off, y, ha, hb, hg.cell hc (by simp), h0, h1⟩⟩
theorem Rd.alloc {w : World} {r : Nat} {a : Option Addr} {len cap p : Nat} (h : Rd w r a len cap p) (o : Obj) : Rd (w.alloc o) r a len cap p := h.grownOther (World.grownBy_alloc w o none)
theorem Rd.below {w w' : World} {r : Nat} {a : Option Addr} {len cap p : Nat} (h : Rd w r a len cap p) (hg : Below w.heap.size w w') : Rd w' r a len cap p :=
  h.grownOther ⟨hg.os, hg.tape, hg.output, hg.size, fun k hk _ => hg.block k hk⟩
theorem grown_of_below {w w' : World} (r : Nat) (hg : Below w.heap.size w w') : w.grownBy w' (some r) := ⟨hg.os, hg.tape, hg.output, hg.size, fun k hk _ => hg.block k hk⟩
/-- n short strings in a row -/
def StrRow (w : World) (b n : Nat) : Prop := ∀ i, i < n → ∃ x : ByteArray, w.cell? ⟨b, i, none⟩ = some (.string x) ∧ x.size ≤ 30
theorem of_any (r : Nat) (a : Option Addr) (len cap : Nat) (p : Nat) (b n : Nat) (w : World) (h : Rd w r a len cap p) (hs : StrRow w b n) (hbr : b ≠ r) (hn : 1 ≤ n) (hn2 : n ≤ 1000) (hp : p ≤ 1000000) :
    Calls Tryd.prog 44 #[.pointer (some ⟨r, 0, none⟩), .slice (some ⟨b, 0, none⟩) n n] w fun e w' => ∃ x : ByteArray, x.size ≤ 30 ∧ e = .returned (.string x) ∧ Rd w' r a len cap (p + 1) ∧ w.grownBy w' (some r) := by
  have H := Lib.hid h; have HS := Lib.hid hs; clear h hs
  go_enter Tryd.func44, Tryd.ntmps44
  go_wp2_with fail
  refine (pick_any r a len cap p _ _ H.out (by omega) (by omega) (by omega)).mono ?_
  rintro e w1 ⟨x, hx0, hx1, rfl, hr1, g1⟩
  obtain ⟨k, rfl⟩ := Int.eq_ofNat_of_zero_le hx0
  obtain ⟨s, hc, hsz⟩ := HS.out k (by omega)
  have hc1 := g1.cell hc (by simp; omega)
  have H1 := Lib.hid hr1; have G1 := Lib.hid g1
  clear hr1 g1 hc
  go_wp2_with fail
  go_ret
  exact ⟨s, hsz, rfl, H1.out, G1.out⟩
theorem strRow_new (w : World) (l : List ByteArray) (T : TypeId) (h : ∀ x ∈ l, x.size ≤ 30) (fr : Nat × Nat) : StrRow (w.alloc (.cells (l.map Value.string).toArray T fr)) w.heap.size l.length := fun i hi => by
  refine ⟨l[i], ?_, h _ (List.getElem_mem _)⟩
  rw [cell_at (heap_alloc_new w _) (v := .string l[i])]
  simp [hi]
end Go.Proofs.YtalnojpdkiimpaaDoor

/- The draws of chapter 6 (package spec): a number of up to eight digits; DrawRankOf, DrawRankNoughts, DrawRankShort, DrawRankLong. -/
namespace Go.Proofs.YtalnojpdkiimpaaDoor
open Go.RowKit
set_option linter.unusedVariables false
set_option maxRecDepth 100000
set_option maxHeartbeats 1000000 in
theorem l92Eight_any (r : Nat) (a : Option Addr) (len cap : Nat) (p : Nat) (w : World) (h : Rd w r a len cap p) (hp : p ≤ 900000) :
    Calls Tryd.prog 37 #[.pointer (some ⟨r, 0, none⟩)] w fun e w' => ∃ (x : Int) (p' : Nat), -2 ≤ x ∧ x ≤ 199999999 ∧ e = .returned (.int .i64 x) ∧ Rd w' r a len cap p' ∧ p' ≤ p + 20 ∧ w.grownBy w' (some r) := by
  have H := Lib.hid h; clear h
  go_enter Tryd.func37, Tryd.ntmps37
  go_wp2_with fail
  refine (pick_any r a len cap p _ _ H.out (by omega) (by omega) (by omega)).mono ?_
  rintro e w1 ⟨k, hk0, hk1, rfl, hr1, g1⟩
  have H1 := Lib.hid hr1; have G1 := Lib.hid g1; clear hr1 g1
  go_wp2_with fail
  go_loopw [3, 5] (fun n i wr => ∃ (j p' : Nat) (x : Int), i = .int .i64 j ∧ (j : Int) ≤ k ∧ n = .int .i64 x ∧ 0 ≤ x ∧ x < ((10 ^ j : Nat) : Int) ∧ Rd wr r a len cap p' ∧ p' = p + 1 + 2 * j ∧ w.grownBy wr (some r)) (fun _ i _ => 9 - (intOf i).toNat)
  case atStart => exact ⟨0, p + 1, 0, rfl, by omega, rfl, by omega, by decide, H1.out, rfl, G1.out⟩
  case round =>
    obtain ⟨j, p', x, rfl, hj, rfl, hx0, hx1, hr, hp', g⟩ := hrel
    have HR := Lib.hid hr; have G := Lib.hid g; have Hp' := Lib.hid hp'
    have hp2 : p' ≤ 900017 := by omega
    clear hr g hp' H1 G1
    have e8 : 10 ^ j ≤ 10 ^ 8 := Nat.pow_le_pow_right (by omega) (by omega)
    have e9 : (10 : Nat) ^ 8 = 100000000 := by decide
    have hx2 : x < 100000000 := by omega
    by_cases hlt : (j : Int) < k
    · have hs : 10 ^ (j + 1) = 10 ^ j * 10 := Nat.pow_succ _ _
      have Hx : Hid (∀ d : Int, d ≤ 9 → 10 * x + d < ((10 ^ (j + 1) : Nat) : Int)) := fun d hd => by rw [hs]; omega
      clear hs e8 e9 hx1
      go_wp2_with fail
      refine (pick_any r a len cap _ _ _ HR.out (by omega) (by omega) (by omega)).mono ?_
      rintro e w2 ⟨y, hy0, hy1, rfl, hr2, g2⟩
      have H2 := Lib.hid hr2; have G2 := Lib.hid (grown_trans G.out g2); clear hr2 g2
      go_wp2_with fail
      refine (pick_any r a len cap _ _ _ H2.out (by omega) (by omega) (by omega)).mono ?_
      rintro e w3 ⟨z, hz0, hz1, rfl, hr3, g3⟩
      have H3 := Lib.hid hr3; have G3 := Lib.hid (grown_trans G2.out g3); clear hr3 g3
      rcases (show z = 0 ∨ z = 1 by omega) with rfl | rfl
      · go_wp2_with fail
        go_roundw
        case rel => exact ⟨j + 1, p' + 1 + 1, 10 * x + 0, by go_num, by omega, by go_num, by omega, Hx.out 0 (by omega), H3.out, by have := Hp'.out; omega, G3.out⟩
        case measure => simp [intOf]; omega
      · go_wp2_with fail
        go_roundw
        case rel => exact ⟨j + 1, p' + 1 + 1, 10 * x + y, by go_num, by omega, by go_num, by omega, Hx.out y (by omega), H3.out, by have := Hp'.out; omega, G3.out⟩
        case measure => simp [intOf]; omega
    · clear e8 e9 hx1
      go_wp2_with fail
      refine (pick_any r a len cap _ _ _ HR.out (by omega) (by omega) (by omega)).mono ?_
      rintro e w2 ⟨y, hy0, hy1, rfl, hr2, g2⟩
      have H2 := Lib.hid hr2; have G2 := Lib.hid (grown_trans G.out g2); clear hr2 g2
      go_wp2_with fail
      refine (pick_any r a len cap _ _ _ H2.out (by omega) (by omega) (by omega)).mono ?_
      rintro e w3 ⟨z, hz0, hz1, rfl, hr3, g3⟩
      have H3 := Lib.hid hr3; have G3 := Lib.hid (grown_trans G2.out g3); clear hr3 g3
      go_wp2_with fail
      go_ret
      exact ⟨_, p' + 1 + 1, by omega, by omega, rfl, H3.out, by have := Hp'.out; omega, G3.out⟩
end Go.Proofs.YtalnojpdkiimpaaDoor

/- The model's AlphaRead, AlphaAdd. -/
namespace Go.Proofs.YtalnojpdkiimpaaDoor
open Go.RowKit
set_option linter.unusedVariables false
set_option maxRecDepth 100000
/-- the sum after k rounds -/
def partA (l : List UInt8) (k : Nat) : Int := (if k = 0 then 0 else th l) + asum (l.take k)
theorem partA_zero (l : List UInt8) : partA l 0 = 0 := by simp [partA, asum]
theorem partA_bd (l : List UInt8) (k : Nat) (hk : k ≤ 6) : 0 ≤ partA l k ∧ partA l k ≤ 1000000 := by
  have h1 := th_bd l
  have h2 := asum_bd (l.take k)
  have h3 : (l.take k).length ≤ k := List.length_take_le _ _
  unfold partA
  split <;> omega
theorem partA_succ (l : List UInt8) (k : Nat) (h0 : 1 ≤ k) (h : k < l.length) : partA l (k + 1) = partA l k + av (l[k].toNat : Int) := by
  unfold partA
  rw [if_neg (by omega), if_neg (by omega), asum_take_succ l k h]
  omega
theorem partA_one (c d : UInt8) (r : List UInt8) (h : c = 39) : partA (c :: d :: r) 1 = 999 * av (d.toNat : Int) := by
  subst h
  unfold partA
  rw [th_two]
  have e : av ((39 : UInt8).toNat : Int) = 0 := by decide
  simp only [if_true, List.take_succ_cons, List.take_zero, asum, e]
  simp
theorem partA_one_no (c : UInt8) (r : List UInt8) (h : c ≠ 39 ∨ r = []) : partA (c :: r) 1 = av (c.toNat : Int) := by
  unfold partA
  have e : th (c :: r) = 0 := by
    match r with
    | [] => rfl
    | d :: q =>
      rw [th_two]
      rcases h with h | h
      · rw [if_neg h]
      · cases h
  rw [e]
  simp [asum]
theorem partA_end (l : List UInt8) (k : Nat) (hk : k = l.length) : partA l k = rdA l := by
  subst hk
  unfold partA rdA
  rw [List.take_length]
  split
  · rename_i h
    obtain rfl := List.eq_nil_of_length_eq_zero h
    rfl
  · rfl
theorem readR_fits (l : List UInt8) (v : Int) (h : l.length ≤ 6 → v = rdA l) (h1 : 1 ≤ v) (h2 : v ≤ 9999) (he : aof v.toNat = l) : alphaReadR l = .tuple #[.int .i64 v, .bool true] := by
  have hl : l.length ≤ 6 := by rw [← he]; have := aof_len v.toNat; omega
  have e := h hl
  subst e
  unfold alphaReadR isA
  rw [if_pos (by simp only [decide_eq_true_eq]; exact ⟨h1, h2, he⟩)]
theorem readR_unfit (l : List UInt8) (v : Int) (h : l.length ≤ 6 → v = rdA l) (hn : ¬ (1 ≤ v ∧ v ≤ 9999) ∨ aof v.toNat ≠ l) : alphaReadR l = .tuple #[.int .i64 0, .bool false] := by
  refine alphaReadR_not l fun hi => ?_
  have hl := isA_len l hi
  obtain ⟨a1, a2, a3⟩ := isA_of l hi
  have e := h (by omega)
  subst e
  rcases hn with hn | hn
  · exact hn ⟨a1, a2⟩
  · exact hn a3
theorem byte_at (l : List UInt8) (k : Nat) (c : UInt8) (h : l[k]? = some c) : ∀ hix, ((((⟨l.toArray⟩ : ByteArray)[k]'hix).toNat : Int)) = (c.toNat : Int) := by
  intro hix
  have e : (⟨l.toArray⟩ : ByteArray)[k]'hix = c := by
    have hk : k < l.length := hix
    rw [List.getElem?_eq_getElem hk] at h
    exact Option.some.inj h
  rw [e]
theorem readR_two (l : List UInt8) : ∃ (n : Int) (b : Bool), alphaReadR l = .tuple #[.int .i64 n, .bool b] ∧ isA l = b ∧ (b = true → rdA l = n ∧ 1 ≤ n ∧ n ≤ 9999) := by
  cases h : isA l with
  | true => exact ⟨_, _, alphaReadR_yes l h, rfl, fun _ => ⟨rfl, (isA_of l h).1, (isA_of l h).2.1⟩⟩
  | false => exact ⟨_, _, alphaReadR_not l (by rw [h]; simp), rfl, fun h => by cases h⟩
end Go.Proofs.YtalnojpdkiimpaaDoor

/- The draws of chapter 3 (package spec). -/
namespace Go.Proofs.YtalnojpdkiimpaaDoor
open Go.RowKit
set_option linter.unusedVariables false
set_option maxRecDepth 100000
theorem l91Great_any (r : Nat) (a : Option Addr) (len cap : Nat) (p : Nat) (w : World) (h : Rd w r a len cap p) (hp : p ≤ 900000) :
    Calls Tryd.prog 38 #[.pointer (some ⟨r, 0, none⟩)] w fun e w' => ∃ (x : Int) (p' : Nat), -20000 ≤ x ∧ x ≤ 20000 ∧ e = .returned (.int .i64 x) ∧ Rd w' r a len cap p' ∧ p' ≤ p + 6 ∧ w.grownBy w' (some r) := by
  have H := Lib.hid h; clear h
  go_enter Tryd.func38, Tryd.ntmps38
  go_wp2_with fail
  refine (pick_any r a len cap p _ _ H.out (by omega) (by omega) (by omega)).mono ?_
  rintro e w1 ⟨x, hx0, hx1, rfl, hr1, g1⟩
  have H1 := Lib.hid hr1; have G1 := Lib.hid g1; clear hr1 g1
  go_wp2_with fail
  refine (pick_any r a len cap _ _ _ H1.out (by omega) (by omega) (by omega)).mono ?_
  rintro e w2 ⟨y, hy0, hy1, rfl, hr2, g2⟩
  have H2 := Lib.hid hr2; have G2 := Lib.hid (grown_trans G1.out g2); clear hr2 g2
  go_wp2_with fail
  refine (pick_any r a len cap _ _ _ H2.out (by omega) (by omega) (by omega)).mono ?_
  rintro e w3 ⟨z, hz0, hz1, rfl, hr3, g3⟩
  have H3 := Lib.hid hr3; have G3 := Lib.hid (grown_trans G2.out g3); clear hr3 g3
  go_wp2_with fail
  refine (pick_any r a len cap _ _ _ H3.out (by omega) (by omega) (by omega)).mono ?_
  rintro e w4 ⟨u, hu0, hu1, rfl, hr4, g4⟩
  have H4 := Lib.hid hr4; have G4 := Lib.hid (grown_trans G3.out g4); clear hr4 g4
  go_wp2_with fail
  refine (pick_any r a len cap _ _ _ H4.out (by omega) (by omega) (by omega)).mono ?_
  rintro e w5 ⟨v, hv0, hv1, rfl, hr5, g5⟩
  have H5 := Lib.hid hr5; have G5 := Lib.hid (grown_trans G4.out g5); clear hr5 g5
  go_wp2_with fail
  refine (pick_any r a len cap _ _ _ H5.out (by omega) (by omega) (by omega)).mono ?_
  rintro e w6 ⟨t, ht0, ht1, rfl, hr6, g6⟩
  have H6 := Lib.hid hr6; have G6 := Lib.hid (grown_trans G5.out g6); clear hr6 g6
  go_wp2_with fail
  go_ret
  exact ⟨_, p + 6, by omega, by omega, rfl, H6.out, by omega, G6.out⟩
def all27 : ByteArray := ⟨#[42, 97, 98, 99, 100, 101, 102, 103, 104, 105, 106, 107, 108, 109, 110, 111, 112, 113, 114, 115, 116, 117, 118, 119, 120, 121, 122]⟩
theorem all27_size : all27.size = 27 := rfl
theorem all27_cut (k : Nat) (h : k < 27) : (all27.extract k (k + 1)).size = 1 := by
  rw [ByteArray.size_extract, all27_size]; omega
end Go.Proofs.YtalnojpdkiimpaaDoor

/- The draws of chapter 8 (package spec). -/
namespace Go.Proofs.YtalnojpdkiimpaaDoor
open Go.RowKit
set_option linter.unusedVariables false
set_option maxRecDepth 100000
set_option maxHeartbeats 1000000 in
theorem l92Kind_any (r : Nat) (a : Option Addr) (l c : Nat) (p : Nat) (w : World) (h : Rd w r a l c p) (hp : p ≤ 900000) :
    Calls Tryd.prog 29 #[.pointer (some ⟨r, 0, none⟩)] w fun e w' => ∃ x : ByteArray, x.size ≤ 30 ∧ e = .returned (.string x) ∧ Rd w' r a l c (p + 1) ∧ w.grownBy w' (some r) := by
  have H := Lib.hid h; clear h
  have hrow := strRow_new w [⟨#[114]⟩, ⟨#[97]⟩, ⟨#[99]⟩, ⟨#[107]⟩, ⟨#[100]⟩, ⟨#[114]⟩, ⟨#[97]⟩, ⟨#[99]⟩, ⟨#[107]⟩, ⟨#[100]⟩, ⟨#[120]⟩, ⟨#[]⟩, ⟨#[114, 114]⟩] 9 (by decide) (0, 0)
  have HRow := Lib.hid hrow; clear hrow
  go_enter Tryd.func29, Tryd.ntmps29
  go_wp2_with fail
  refine (of_any _ a l c p w.heap.size 13 _ (H.out.alloc _) HRow.out (by have := lt_of_block' H.out.blk; omega) (by omega) (by omega) (by omega)).mono ?_
  rintro e w5 ⟨z, hz, rfl, hr5, g5⟩
  have H5 := Lib.hid hr5
  have G5 := Lib.hid (grown_trans (World.grownBy_alloc w _ (some _)) g5); clear hr5 g5
  go_wp2_with fail
  go_ret
  exact ⟨z, hz, rfl, H5.out, G5.out⟩
set_option maxHeartbeats 1000000 in
theorem l92Any_any (r : Nat) (a : Option Addr) (l c : Nat) (p : Nat) (w : World) (h : Rd w r a l c p) (hp : p ≤ 899000) :
    Calls Tryd.prog 19 #[.pointer (some ⟨r, 0, none⟩)] w fun e w' => ∃ (x : Int) (p' : Nat), -20000 ≤ x ∧ x ≤ 199999999 ∧ e = .returned (.int .i64 x) ∧ Rd w' r a l c p' ∧ p' ≤ p + 21 ∧ w.grownBy w' (some r) := by
  have H := Lib.hid h; clear h
  go_enter Tryd.func19, Tryd.ntmps19
  go_wp2_with fail
  refine (pick_any _ a l c p _ _ H.out (by omega) (by omega) (by omega)).mono ?_
  rintro e w2 ⟨u, hu0, hu1, rfl, hr2, g2⟩
  have H2 := Lib.hid hr2; have G2 := Lib.hid g2; clear hr2 g2
  by_cases u0 : u = 0
  · subst u0
    go_wp2_with fail
    refine (l92Eight_any _ a l c (p + 1) _ H2.out (by omega)).mono ?_
    rintro e w3 ⟨n, p', hn0, hn1, rfl, hr3, hp', g3⟩
    have H3 := Lib.hid hr3; have G3 := Lib.hid (grown_trans G2.out g3); clear hr3 g3
    go_wp2_with fail
    go_ret
    exact ⟨n, p', by omega, by omega, rfl, H3.out, by omega, G3.out⟩
  · by_cases u1 : u = 1
    · subst u1
      go_wp2_with fail
      refine (l91Great_any _ a l c (p + 1) _ H2.out (by omega)).mono ?_
      rintro e w3 ⟨n, p', hn0, hn1, rfl, hr3, hp', g3⟩
      have H3 := Lib.hid hr3; have G3 := Lib.hid (grown_trans G2.out g3); clear hr3 g3
      go_wp2_with fail
      go_ret
      exact ⟨n, p', by omega, by omega, rfl, H3.out, by omega, G3.out⟩
    · have q0 : (u == 0) = false := by rw [beq_eq_false_iff_ne]; exact u0
      have q1 : (u == 1) = false := by rw [beq_eq_false_iff_ne]; exact u1
      go_wp2_with fail
      refine (l91Small_any _ a l c (p + 1) _ H2.out (by omega)).mono ?_
      rintro e w3 ⟨n, p', hn0, hn1, rfl, hr3, hp', g3⟩
      have H3 := Lib.hid hr3; have G3 := Lib.hid (grown_trans G2.out g3); clear hr3 g3
      go_wp2_with fail
      go_ret
      exact ⟨n, p', by omega, by omega, rfl, H3.out, by omega, G3.out⟩
theorem drawChangeOf_any (a : Option Addr) (len cap : Nat) (zs : List Int) (w : World) (h : IsRow .u8 w a len cap zs) :
    Calls Tryd.prog 16 #[.slice a len cap] w fun e w' => ∃ (k : ByteArray) (x : Int), k.size ≤ 30 ∧ -20000 ≤ x ∧ x ≤ 199999999 ∧ e = .returned (.tuple #[.string k, .int .i64 x]) ∧ Below w.heap.size w w' := by
  have H := Lib.hid h; clear h
  go_enter Tryd.func16, Tryd.ntmps16
  go_wp2_with fail
  refine (l6Open_any a len cap zs _ H.out).mono ?_
  rintro e w1 ⟨a', l, c, rfl, hr, g1⟩
  have H1 := Lib.hid hr; have G1 := Lib.hid g1; clear hr g1
  go_wp2_with fail
  refine (l92Kind_any _ a' l c 0 _ H1.out (by omega)).mono ?_
  rintro e w2 ⟨k, hk, rfl, hr2, g2⟩
  have H2 := Lib.hid hr2; have G2 := Lib.hid g2; clear hr2 g2
  go_wp2_with fail
  refine (l92Any_any _ a' l c _ _ H2.out (by omega)).mono ?_
  rintro e w3 ⟨n, p3, hn0, hn1, rfl, hr3, hp3, g3⟩
  have G3 := Lib.hid (bel_grown G1.out (grown_trans G2.out g3) G1.out.size (Nat.le_refl _)); clear hr3 g3
  go_wp2_with fail
  go_ret2
  exact ⟨k, n, hk, hn0, hn1, rfl, G3.out⟩
theorem drawChangeLength_any (a : Option Addr) (len cap : Nat) (zs : List Int) (w : World) (h : IsRow .u8 w a len cap zs) :
    Calls Tryd.prog 8 #[.slice a len cap] w fun e w' => ∃ (k : ByteArray) (x : Int), k.size ≤ 30 ∧ -20000 ≤ x ∧ x ≤ 199999999 ∧ e = .returned (.tuple #[.string k, .int .i64 x]) ∧ Below w.heap.size w w' := by
  have H := Lib.hid h; clear h
  go_enter Tryd.func8, Tryd.ntmps8
  go_wp2_with fail
  refine (drawChangeOf_any a len cap zs _ H.out).mono ?_
  rintro e w1 ⟨k, n, hk, hn0, hn1, rfl, g1⟩
  have G1 := Lib.hid g1; clear g1
  go_wp2_with fail
  go_ret2
  exact ⟨k, n, hk, hn0, hn1, rfl, G1.out⟩
theorem drawChangeShort_any (a : Option Addr) (len cap : Nat) (zs : List Int) (w : World) (h : IsRow .u8 w a len cap zs) :
    Calls Tryd.prog 12 #[.slice a len cap] w fun e w' => ∃ x : Int, -20000 ≤ x ∧ x ≤ 199999999 ∧ e = .returned (.int .i64 x) ∧ Below w.heap.size w w' := by
  have H := Lib.hid h; clear h
  go_enter Tryd.func12, Tryd.ntmps12
  go_wp2_with fail
  refine (l6Open_any a len cap zs _ H.out).mono ?_
  rintro e w1 ⟨a', l, c, rfl, hr, g1⟩
  have H1 := Lib.hid hr; have G1 := Lib.hid g1; clear hr g1
  go_wp2_with fail
  refine (l92Any_any _ a' l c 0 _ H1.out (by omega)).mono ?_
  rintro e w2 ⟨n, p2, hn0, hn1, rfl, hr2, hp2, g2⟩
  have G2 := Lib.hid (bel_grown G1.out g2 G1.out.size (Nat.le_refl _)); clear hr2 g2
  go_wp2_with fail
  go_ret
  exact ⟨n, hn0, hn1, rfl, G2.out⟩
end Go.Proofs.YtalnojpdkiimpaaDoor

/- The model's chapter 8 (package spec): ChangeShort. -/
namespace Go.Proofs.YtalnojpdkiimpaaDoor
open Go.RowKit
set_option linter.unusedVariables false
set_option maxRecDepth 100000
theorem lnO_bd (K : List UInt8) (n : Int) (k : Nat) (h : lnO K n = some k) : 1 ≤ k ∧ k ≤ 59 := by
  unfold lnO at h
  obtain ⟨s, hs, rfl⟩ := Option.map_eq_some_iff.1 h
  exact chO_len K n s hs
/-- kinds with the least length so far, and this length -/
def shN (n : Int) : Nat → List UInt8 × Nat
  | 0 => ([], 0)
  | i + 1 => match lnO [kb i] n with
    | none => shN n i
    | some k => if (shN n i).1 = [] ∨ k < (shN n i).2 then ([kb i], k) else if k = (shN n i).2 then ((shN n i).1 ++ [kb i], k) else shN n i
theorem shN_none (n : Int) (i : Nat) (h : lnO [kb i] n = none) : shN n (i + 1) = shN n i := by
  show (match lnO [kb i] n with | none => _ | some k => _) = _
  rw [h]
theorem shN_some (n : Int) (i k : Nat) (h : lnO [kb i] n = some k) : shN n (i + 1) = if (shN n i).1 = [] ∨ k < (shN n i).2 then ([kb i], k) else if k = (shN n i).2 then ((shN n i).1 ++ [kb i], k) else shN n i := by
  show (match lnO [kb i] n with | none => _ | some k => _) = _
  rw [h]
def shV (n : Int) : Value := .tuple #[.string ⟨(shN n 5).1.toArray⟩, .bool ((shN n 5).1 != [])]
theorem kcut : ∀ i, i < 5 → (⟨#[114, 97, 99, 107, 100]⟩ : ByteArray).extract i (i + 1) = ⟨[kb i].toArray⟩ := by
  have h : ∀ i, i < 5 → ((⟨#[114, 97, 99, 107, 100]⟩ : ByteArray).extract i (i + 1)).data = [kb i].toArray := by decide +kernel
  exact fun i hi => ByteArray.ext (h i hi)
theorem kbyte (k : Nat) (hk : k < 5) : ∀ hix, (((⟨#[114, 97, 99, 107, 100]⟩ : ByteArray)[k]'hix).toNat : Int) = ((kb k).toNat : Int) := by
  rcases (show k = 0 ∨ k = 1 ∨ k = 2 ∨ k = 3 ∨ k = 4 by omega) with rfl | rfl | rfl | rfl | rfl <;> exact fun _ => rfl
theorem sl8Kinds_any (w : World) : Calls Tryd.prog 22 #[] w fun e w' => e = .returned (.string ⟨#[114, 97, 99, 107, 100]⟩) ∧ w = w' := by
  go_enter Tryd.func22, Tryd.ntmps22
  go_wp2
  go_ret
  exact ⟨rfl, rfl⟩
set_option maxHeartbeats 2000000 in
theorem sChangeShort_any (n : Int) (w : World) : Calls Tryd.prog 14 #[.int .i64 n] w fun e w' => e = .returned (shV n) ∧ Below w.heap.size w w' := by
  have K := Lib.hid sl8Kinds_any
  have HV : Hid (shV n = .tuple #[.string ⟨(shN n 5).1.toArray⟩, .bool ((shN n 5).1 != [])]) := Lib.hid rfl
  go_enter Tryd.func14, Tryd.ntmps14
  go_wp2_with fail
  refine (K.out _).mono ?_
  rintro e w1 ⟨rfl, rfl⟩
  go_wp2_with fail
  go_loopw [5, 6, 7] (fun o b i wr => ∃ (k B : Nat) (O : List UInt8), k ≤ 5 ∧ O.length ≤ k ∧ B ≤ 59 ∧ i = .int .i64 k ∧ o = .string ⟨O.toArray⟩ ∧ b = .int .i64 B ∧ Hid (shN n k = (O, B)) ∧ Hid (Below w.heap.size w wr)) (fun _ _ i _ => 5 - (intOf i).toNat)
  case atStart => exact ⟨0, 0, [], by omega, by simp, by omega, rfl, rfl, rfl, Lib.hid rfl, Lib.hid (Below.refl _ _)⟩
  case round =>
    obtain ⟨k, B, O, hk, hO, hB, rfl, rfl, rfl, HS, HW⟩ := hrel
    by_cases hlt : k < 5
    · have HE := Lib.hid (kcut k hlt)
      have i1 : (k : Int) < 5 := by omega
      have C : Hid (∀ W : World, Calls Tryd.prog 10 #[.string ((⟨#[114, 97, 99, 107, 100]⟩ : ByteArray).extract k (k + 1)), .int .i64 n] W fun e w' => e = .returned (iV (lnO [kb k] n)) ∧ Below W.heap.size W w') := Lib.hid fun W => by rw [HE.out]; exact sChangeLength_any [kb k] n W
      cases ho : lnO [kb k] n with
      | none =>
        have HS2 : Hid (shN n (k + 1) = (O, B)) := Lib.hid (by rw [shN_none n k ho]; exact HS.out)
        rw [ho, show iV none = .tuple #[.int .i64 0, .bool false] from rfl] at C
        clear ho
        go_wp2_with fail
        refine (C.out _).mono ?_
        rintro e w2 ⟨rfl, g2⟩
        have G2 := Lib.hid (HW.out.trans (g2.mono HW.out.size)); clear g2
        go_wp2_with fail
        go_roundw
        case rel => exact ⟨k + 1, B, O, by omega, by omega, hB, by go_num, rfl, rfl, HS2, G2⟩
        case measure => simp [intOf]; omega
      | some q =>
        have hq := lnO_bd _ n q ho
        have HSt := Lib.hid (shN_some n k q ho)
        rw [HS.out] at HSt
        rw [ho, show iV (some q) = .tuple #[.int .i64 q, .bool true] from rfl] at C
        clear ho
        by_cases h1 : O = []
        · subst h1
          have HS2 : Hid (shN n (k + 1) = ([kb k], q)) := Lib.hid (by rw [HSt.out, if_pos (.inl rfl)])
          have hcat : (⟨#[]⟩ : ByteArray) ++ (⟨#[114, 97, 99, 107, 100]⟩ : ByteArray).extract k (k + 1) = ⟨[kb k].toArray⟩ := by rw [HE.out]; exact cat_bytes [] [kb k]
          have HC := Lib.hid hcat; clear hcat
          go_wp2_with fail
          refine (C.out _).mono ?_
          rintro e w2 ⟨rfl, g2⟩
          have G2 := Lib.hid (HW.out.trans (g2.mono HW.out.size)); clear g2
          go_wp2_with fail
          go_roundw
          case rel => exact ⟨k + 1, q, [kb k], by omega, by show 1 ≤ k + 1; omega, hq.2, by go_num, congrArg Value.string HC.out, rfl, HS2, G2⟩
          case measure => simp [intOf]; omega
        · have q1 : (O == []) = false := by rw [beq_eq_false_iff_ne]; exact h1
          by_cases h2 : q < B
          · have HS2 : Hid (shN n (k + 1) = ([kb k], q)) := Lib.hid (by rw [HSt.out, if_pos (.inr h2)])
            have hcat : (⟨#[]⟩ : ByteArray) ++ (⟨#[114, 97, 99, 107, 100]⟩ : ByteArray).extract k (k + 1) = ⟨[kb k].toArray⟩ := by rw [HE.out]; exact cat_bytes [] [kb k]
            have HC := Lib.hid hcat; clear hcat
            have j2 : (q : Int) < (B : Int) := by omega
            clear h1
            go_wp2_with fail
            refine (C.out _).mono ?_
            rintro e w2 ⟨rfl, g2⟩
            have G2 := Lib.hid (HW.out.trans (g2.mono HW.out.size)); clear g2
            go_wp2_with fail
            go_roundw
            case rel => exact ⟨k + 1, q, [kb k], by omega, by show 1 ≤ k + 1; omega, hq.2, by go_num, congrArg Value.string HC.out, rfl, HS2, G2⟩
            case measure => simp [intOf]; omega
          · have j2 : ¬ (q : Int) < (B : Int) := by omega
            by_cases h3 : q = B
            · subst h3
              have HS2 : Hid (shN n (k + 1) = (O ++ [kb k], q)) := Lib.hid (by rw [HSt.out, if_neg (fun h => h.elim h1 h2), if_pos rfl])
              have hcat : (⟨O.toArray⟩ : ByteArray) ++ (⟨#[114, 97, 99, 107, 100]⟩ : ByteArray).extract k (k + 1) = ⟨(O ++ [kb k]).toArray⟩ := by rw [HE.out]; exact cat_bytes O [kb k]
              have HC := Lib.hid hcat; clear hcat
              clear h1
              have l1 : ¬ 9223372036854775807 < O.length + 1 := by omega
              go_wp2_with fail
              refine (C.out _).mono ?_
              rintro e w2 ⟨rfl, g2⟩
              have G2 := Lib.hid (HW.out.trans (g2.mono HW.out.size)); clear g2
              go_wp2_with fail
              go_roundw
              case rel => exact ⟨k + 1, q, O ++ [kb k], by omega, by rw [List.length_append]; show _ + 1 ≤ k + 1; omega, hB, by go_num, congrArg Value.string HC.out, rfl, HS2, G2⟩
              case measure => simp [intOf]; omega
            · have HS2 : Hid (shN n (k + 1) = (O, B)) := Lib.hid (by rw [HSt.out, if_neg (fun h => h.elim h1 h2), if_neg h3])
              have j3 : ((q : Int) == (B : Int)) = false := by rw [beq_eq_false_iff_ne]; omega
              clear h1
              go_wp2_with fail
              refine (C.out _).mono ?_
              rintro e w2 ⟨rfl, g2⟩
              have G2 := Lib.hid (HW.out.trans (g2.mono HW.out.size)); clear g2
              go_wp2_with fail
              go_roundw
              case rel => exact ⟨k + 1, B, O, by omega, by omega, hB, by go_num, rfl, rfl, HS2, G2⟩
              case measure => simp [intOf]; omega
    · obtain rfl : k = 5 := by omega
      rw [HS.out] at HV
      by_cases h1 : O = []
      · subst h1
        go_wp2_with fail
        go_ret2
        exact ⟨rret HV.out.symm, HW.out⟩
      · have q1 : (O == []) = false := by rw [beq_eq_false_iff_ne]; exact h1
        have q2 : (O != []) = true := by rw [bne_iff_ne]; exact h1
        rw [show ((O, B) : List UInt8 × Nat).1 = O from rfl, q2] at HV
        clear h1 q2
        go_wp2_with fail
        go_ret2
        exact ⟨rret HV.out.symm, HW.out⟩
end Go.Proofs.YtalnojpdkiimpaaDoor

/- Changes, plain: which kinds are shortest, which read a text. -/
namespace Go.Proofs.YtalnojpdkiimpaaDoor
set_option linter.unusedVariables false
set_option maxRecDepth 100000
theorem kb_inj : ∀ i : Fin 5, ∀ j : Fin 5, kb i.val = kb j.val → i = j := by decide
theorem kb_ne {i j : Nat} (hi : i < 5) (hj : j < 5) (h : kb i = kb j) : i = j := by
  have := kb_inj ⟨i, hi⟩ ⟨j, hj⟩ h
  exact congrArg Fin.val this
/-- what is known of the kinds with the least length -/
structure ShI (n : Int) (i : Nat) (O : List UInt8) (B : Nat) : Prop where
  none : O = [] → ∀ j, j < i → lnO [kb j] n = none
  first : O ≠ [] → ∃ j, j < i ∧ O.take 1 = [kb j] ∧ lnO [kb j] n = some B
  mem : ∀ c, c ∈ O → ∃ j, j < i ∧ c = kb j ∧ lnO [kb j] n = some B
  least : O ≠ [] → ∀ j, j < i → ∀ k, lnO [kb j] n = some k → B ≤ k ∧ (k = B → kb j ∈ O)
theorem shN_inv (n : Int) : ∀ i, i ≤ 5 → ShI n i (shN n i).1 (shN n i).2
  | 0, _ => ⟨(fun _ j h => by omega), (fun h => absurd rfl h), (fun c h => by cases h), (fun h => absurd rfl h)⟩
  | i + 1, hi => by
    have ih := shN_inv n i (by omega)
    cases hk : lnO [kb i] n with
    | none =>
      rw [shN_none n i hk]
      refine ⟨fun h j hj => ?_, fun h => ?_, fun c hc => ?_, fun h j hj k hjk => ?_⟩
      · by_cases e : j = i
        · subst e; exact hk
        · exact ih.none h j (by omega)
      · obtain ⟨j, h1, h2⟩ := ih.first h
        exact ⟨j, by omega, h2⟩
      · obtain ⟨j, h1, h2⟩ := ih.mem c hc
        exact ⟨j, by omega, h2⟩
      · by_cases e : j = i
        · subst e; rw [hk] at hjk; cases hjk
        · exact ih.least h j (by omega) k hjk
    | some k =>
      rw [shN_some n i k hk]
      generalize shN n i = s at *
      obtain ⟨O, B⟩ := s
      simp only at ih ⊢
      by_cases h1 : O = [] ∨ k < B
      · rw [if_pos h1]
        refine ⟨(fun h => by cases h), (fun _ => ⟨i, by omega, rfl, hk⟩), (fun c hc => ⟨i, by omega, by simpa using hc, hk⟩), fun _ j hj k' hjk => ?_⟩
        by_cases e : j = i
        · subst e
          rw [hk] at hjk
          obtain rfl := Option.some.inj hjk
          exact ⟨Nat.le_refl _, fun _ => by simp⟩
        · rcases h1 with h1 | h1
          · have := ih.none h1 j (by omega)
            rw [this] at hjk; cases hjk
          · by_cases hO : O = []
            · have := ih.none hO j (by omega)
              rw [this] at hjk; cases hjk
            · have := (ih.least hO j (by omega) k' hjk).1
              exact ⟨by show k ≤ k'; omega, fun e => by have e : k' = k := e; omega⟩
      · rw [if_neg h1]
        have hO : O ≠ [] := fun e => h1 (.inl e)
        by_cases h2 : k = B
        · rw [if_pos h2]
          subst h2
          refine ⟨fun h => ?_, fun _ => ?_, fun c hc => ?_, fun _ j hj k' hjk => ?_⟩
          · have : (O ++ [kb i]) = [] := h
            simp at this
          · obtain ⟨j, h1, h3, h4⟩ := ih.first hO
            refine ⟨j, by omega, ?_, h4⟩
            show (O ++ [kb i]).take 1 = _
            rw [List.take_append_of_le_length (List.length_pos_iff.2 hO)]
            exact h3
          · rcases List.mem_append.1 hc with hc | hc
            · obtain ⟨j, h1, h3⟩ := ih.mem c hc
              exact ⟨j, by omega, h3⟩
            · exact ⟨i, by omega, by simpa using hc, hk⟩
          · by_cases e : j = i
            · subst e
              rw [hk] at hjk
              obtain rfl := Option.some.inj hjk
              exact ⟨Nat.le_refl _, fun _ => by show kb j ∈ O ++ [kb j]; simp⟩
            · obtain ⟨q1, q2⟩ := ih.least hO j (by omega) k' hjk
              exact ⟨q1, fun e => List.mem_append_left _ (q2 e)⟩
        · rw [if_neg h2]
          refine ⟨fun h => absurd h hO, fun h => ?_, fun c hc => ?_, fun _ j hj k' hjk => ?_⟩
          · obtain ⟨j, h1, h3⟩ := ih.first h
            exact ⟨j, by omega, h3⟩
          · obtain ⟨j, h1, h3⟩ := ih.mem c hc
            exact ⟨j, by omega, h3⟩
          · by_cases e : j = i
            · subst e
              rw [hk] at hjk
              obtain rfl := Option.some.inj hjk
              have : ¬ k < B := fun e => h1 (.inr e)
              exact ⟨by show B ≤ k; omega, fun e => absurd e h2⟩
            · exact ih.least hO j (by omega) k' hjk
theorem shN_len (n : Int) : ∀ i, (shN n i).1.length ≤ i
  | 0 => Nat.le_refl _
  | i + 1 => by
    have ih := shN_len n i
    cases hk : lnO [kb i] n with
    | none => rw [shN_none n i hk]; omega
    | some k =>
      rw [shN_some n i k hk]
      split
      · show 1 ≤ _; omega
      · split
        · rw [List.length_append]; show _ + 1 ≤ _; omega
        · omega
theorem shN_bd (n : Int) : ∀ i, (shN n i).2 ≤ 59
  | 0 => Nat.zero_le _
  | i + 1 => by
    have ih := shN_bd n i
    cases hk : lnO [kb i] n with
    | none => rw [shN_none n i hk]; exact ih
    | some k =>
      have := (lnO_bd _ n k hk).2
      rw [shN_some n i k hk]
      split
      · exact this
      · split
        · exact this
        · exact ih
/-- is a kind among the shortest ones: what the law asks -/
theorem shN_law (n : Int) (i : Nat) (hi : i < 5) (hO : (shN n 5).1 ≠ []) : (∀ k, lnO [kb i] n = some k → (kb i ∈ (shN n 5).1 → k = (shN n 5).2) ∧ (kb i ∉ (shN n 5).1 → (shN n 5).2 < k)) ∧ (lnO [kb i] n = none → kb i ∉ (shN n 5).1) := by
  have h := shN_inv n 5 (Nat.le_refl _)
  generalize shN n 5 = s at *
  obtain ⟨O, B⟩ := s
  simp only at h hO ⊢
  refine ⟨fun k hk => ⟨fun hm => ?_, fun hm => ?_⟩, fun hk hm => ?_⟩
  · obtain ⟨j, hj, e, hb⟩ := h.mem _ hm
    obtain rfl := kb_ne hi hj e
    rw [hk] at hb
    exact Option.some.inj hb
  · obtain ⟨q1, q2⟩ := h.least hO i hi k hk
    rcases Nat.lt_or_ge B k with h' | h'
    · exact h'
    · exact absurd (q2 (by omega)) hm
  · obtain ⟨j, hj, e, hb⟩ := h.mem _ hm
    obtain rfl := kb_ne hi hj e
    rw [hk] at hb
    cases hb
end Go.Proofs.YtalnojpdkiimpaaDoor

/- Rows of values of one cell each, of whatever type. -/
namespace Go.Proofs.YtalnojpdkiimpaaDoor
open Go.RowKit
set_option linter.unusedVariables false
set_option maxRecDepth 100000
def vals (v : Nat → Value) (n : Nat) : List Value := (List.range n).map v
theorem vals_at (v : Nat → Value) (n k : Nat) (h : k < n) : (vals v n)[k]? = some (v k) := by simp [vals, h]
theorem vals_len (v : Nat → Value) (n : Nat) : (vals v n).length = n := by simp [vals]
theorem vals_congr {u v : Nat → Value} {n : Nat} (h : ∀ k, k < n → u k = v k) : vals u n = vals v n :=
  List.map_congr_left fun k hk => by rw [h k (List.mem_range.1 hk)]
/-- a block of just n values, of type T -/
def VRow (T : TypeId) (w : World) (b n : Nat) (v : Nat → Value) : Prop := w.heap[b]? = some (.cells (vals v n).toArray T (0, 0))
section
variable {T : TypeId} {w w' : World} {b n : Nat} {u v : Nat → Value}
theorem VRow.lt (h : VRow T w b n v) : b < w.heap.size := lt_of_block' h
theorem VRow.cell (h : VRow T w b n v) (k : Nat) (hk : k < n) : w.cell? ⟨b, k, none⟩ = some (v k) := cell_at h (by rw [List.getElem?_toArray]; exact vals_at v n k hk)
theorem VRow.frozen (h : VRow T w b n v) (k : Nat) : w.frozen? ⟨b, k, none⟩ = false := by
  unfold VRow at h
  simp [World.frozen?, h]
theorem VRow.congr (h : VRow T w b n v) (e : ∀ k, k < n → v k = u k) : VRow T w b n u := by
  unfold VRow at h ⊢
  rw [h, vals_congr e]
theorem VRow.keep (h : VRow T w b n v) (e : w'.heap[b]? = w.heap[b]?) : VRow T w' b n v := e.trans h
theorem VRow.below (h : VRow T w b n v) (g : Below w.heap.size w w') : VRow T w' b n v := h.keep (g.block b h.lt)
theorem VRow.belowB {B : Nat} (h : VRow T w b n v) (g : Below B w w') (hb : b < B) : VRow T w' b n v := h.keep (g.block b hb)
theorem VRow.set_ (h : VRow T w b n v) (k : Nat) (x : Value) : VRow T (w.setCell ⟨b, k, none⟩ x) b n (fun j => if j = k then x else v j) := by
  unfold VRow at h ⊢
  have e : (vals v n).toArray.setIfInBounds k x = (vals (fun j => if j = k then x else v j) n).toArray := by
    apply Array.ext
    · simp [vals]
    · intro i h1 h2
      simp only [Array.size_setIfInBounds, List.size_toArray, vals_len] at h1
      by_cases e : k = i
      · subst e; simp [vals]
      · rw [Array.getElem_setIfInBounds_ne (by simpa [vals] using h1) e]
        simp [vals, Ne.symm e]
  simp only [World.setCell, Array.getElem?_modify, h, if_true, Option.map_some]
  rw [← e]
  rfl
theorem VRow.new (w : World) (T : TypeId) (n : Nat) (v : Nat → Value) : VRow T (w.alloc (.cells (vals v n).toArray T)) w.heap.size n v := heap_alloc_new w _
theorem VRow.alloc (h : VRow T w b n v) (o : Obj) : VRow T (w.alloc o) b n v := (Below.heap_alloc w o b h.lt).trans h
theorem VRow.upto {k : Nat} {z : Value} (h : VRow T w b n (fun j => if j < k then v j else z)) : VRow T (w.setCell ⟨b, k, none⟩ (v k)) b n (fun j => if j < k + 1 then v j else z) :=
  (h.set_ k (v k)).congr fun j hj => by
    by_cases e : j = k
    · subst e; simp
    · rw [if_neg e]
      by_cases h2 : j < k
      · rw [if_pos h2, if_pos (by omega)]
      · rw [if_neg h2, if_neg (by omega)]
end
theorem made_vals (z : Value) (hz : z.cells = #[z]) (n : Nat) : madeCells z.cells (n * 1) = (vals (fun _ => z) n).toArray := by
  rw [hz]
  apply Array.ext
  · simp [madeCells, vals]
  · intro i h1 h2
    simp [madeCells, vals, Nat.mod_one]
theorem wpList_make_vals {P : Program} (w : World) {ops : Array Oper} {rest : List Oper} {o : Oper} {a : Act} {Q : Exit → Act → World → Prop}
    (hg : o.guard = none) (l c : Operand) (t T : TypeId) (hop : o.op = Op.makeSlice t l c) (z : Value) (hzc : z.cells = #[z])
    (i : TypeInfo) (ht : P.underlying t = some (.slice T)) (hi : P.info? T = some i) (hz : i.zero = some z) (hsize : i.size = 1) (hby : i.bytes ≤ 16)
    (n : Nat) (hn : n ≤ 10000000) (hl : a.eval l = .int .i64 (n : Int)) (hc : a.eval c = .int .i64 (n : Int))
    (hK : ∀ w', VRow T w' w.heap.size n (fun _ => z) → Below w.heap.size w w' → w'.heap.size = w.heap.size + 1 → wpList P ops Q rest (a.put o.dst (.slice (some ⟨w.heap.size, 0, none⟩) n n)) w') :
    wpList P ops Q (o :: rest) a w := by
  refine wpList_plain hg fun K hK' => ?_
  have hb' : (i.bytes : Int) * (n : Int) ≤ 281474976710656 := by
    have h1 := Int.mul_le_mul (show (i.bytes : Int) ≤ 16 by omega) (show (n : Int) ≤ 10000000 by omega) (by omega) (by omega)
    omega
  have hrun := run_make (P := P) w t T i z ht hi hz .i64 .i64 n n (by omega) (Int.le_refl _) hb' (by omega)
  simp only [Int.toNat_natCast, hsize, made_vals z hzc] at hrun
  unfold Oper.wp
  simp [execOp, hop, hl, hc, hrun, Result.andThen]
  exact hK' _ _ (hK _ (VRow.new w T n _) ((Below.refl _ _).alloc (Nat.le_refl _) _) (by simp))
end Go.Proofs.YtalnojpdkiimpaaDoor

/- The program's chapter 8: all kinds with a text, one kind with a text. -/
namespace Go.Proofs.YtalnojpdkiimpaaDoor
open Go.RowKit
set_option linter.unusedVariables false
set_option maxRecDepth 100000
/-- a kind's own type -/
def kT (i : Nat) : TypeId := if i = 0 then 54 else if i = 1 then 55 else if i = 2 then 56 else if i = 3 then 57 else 58
/-- all kinds with a text, in memory -/
def NmR (w : World) (b : Nat) (l : List UInt8) : Prop := b < w.heap.size ∧ ∀ i, i < 5 → w.cell? ⟨b, i * 2, none⟩ = some (.string ⟨[kb i].toArray⟩) ∧ w.cell? ⟨b, i * 2 + 1, none⟩ = some (.iface (kT i) (.string ⟨l.toArray⟩))
theorem NmR.below {w w' : World} {b : Nat} {l : List UInt8} (h : NmR w b l) (g : Below w.heap.size w w') : NmR w' b l :=
  ⟨Nat.lt_of_lt_of_le h.1 g.size, fun i hi => ⟨(g.cell (p := ⟨b, i * 2, none⟩) h.1).trans (h.2 i hi).1, (g.cell (p := ⟨b, i * 2 + 1, none⟩) h.1).trans (h.2 i hi).2⟩⟩
abbrev nmCells (l : List UInt8) : Array Value := #[.string ⟨#[114]⟩, .iface 54 (.string ⟨l.toArray⟩), .string ⟨#[97]⟩, .iface 55 (.string ⟨l.toArray⟩), .string ⟨#[99]⟩, .iface 56 (.string ⟨l.toArray⟩), .string ⟨#[107]⟩, .iface 57 (.string ⟨l.toArray⟩), .string ⟨#[100]⟩, .iface 58 (.string ⟨l.toArray⟩)]
theorem nm_new (w : World) (l : List UInt8) : NmR (w.alloc (.cells (nmCells l) 53)) w.heap.size l := by
  have h := heap_alloc_new w (.cells (nmCells l) 53)
  refine ⟨lt_of_block' h, fun i hi => ?_⟩
  rcases (show i = 0 ∨ i = 1 ∨ i = 2 ∨ i = 3 ∨ i = 4 by omega) with rfl | rfl | rfl | rfl | rfl <;> exact ⟨cell_at h rfl, cell_at h rfl⟩
set_option maxHeartbeats 2000000 in
theorem numeralsAs_any (l : List UInt8) (w : World) : Calls Tryd.prog 30 #[.string ⟨l.toArray⟩] w fun e w' => ∃ b, e = .returned (.slice (some ⟨b, 0, none⟩) 5 5) ∧ w.heap.size ≤ b ∧ NmR w' b l ∧ Below w.heap.size w w' := by
  have H := Lib.hid (nm_new w l)
  have HB := Lib.hid ((Below.refl w.heap.size w).alloc (Nat.le_refl _) (.cells (nmCells l) 53))
  go_enter Tryd.func30, Tryd.ntmps30
  go_wp2_with fail
  go_ret
  exact ⟨_, rfl, Nat.le_refl _, H.out, HB.out⟩
/-- what is found of a kind: i is its place, 5 if it is none -/
def nAs (i : Nat) (l : List UInt8) : Value := if i < 5 then .tuple #[.iface (kT i) (.string ⟨l.toArray⟩), .bool true] else .tuple #[.nilIface, .bool false]
set_option maxHeartbeats 2000000 in
theorem numeralAs_at (K l : List UInt8) (p : Nat) (w : World) (hp : p ≤ 5) (hne : ∀ k, k < p → ([kb k] == K) = false) (heq : p < 5 → ([kb p] == K) = true) :
    Calls Tryd.prog 17 #[.string ⟨K.toArray⟩, .string ⟨l.toArray⟩] w fun e w' => e = .returned (nAs p l) ∧ Below w.heap.size w w' := by
  have C := Lib.hid (fun w => numeralsAs_any l w)
  have Hne := Lib.hid hne; have Heq := Lib.hid heq; clear hne heq
  have HV1 : Hid (p < 5 → nAs p l = .tuple #[.iface (kT p) (.string ⟨l.toArray⟩), .bool true]) := Lib.hid (fun h => if_pos h)
  have HV2 : Hid (¬ p < 5 → nAs p l = .tuple #[.nilIface, .bool false]) := Lib.hid (fun h => if_neg h)
  go_enter Tryd.func17, Tryd.ntmps17
  go_wp2_with fail
  refine (C.out _).mono ?_
  rintro e w1 ⟨b, rfl, hb, hN, hB⟩
  have HN := Lib.hid hN; have HB := Lib.hid hB; clear hN hB C
  go_wp2_with fail
  go_loopw [11] (fun i wr => ∃ k : Nat, k ≤ p ∧ i = .int .i64 k ∧ Hid (NmR wr b l) ∧ Hid (Below w.heap.size w wr)) (fun i _ => 5 - (intOf i).toNat)
  case atStart => exact ⟨0, by omega, rfl, HN, HB⟩
  case round =>
    obtain ⟨k, hk, rfl, HN1, HB1⟩ := hrel
    clear HN HB
    by_cases hlt : k < 5
    · obtain ⟨hd1, hd2⟩ := HN1.out.2 k hlt
      have hbl := HN1.out.1
      have i1 : (k : Int) < 5 := by omega
      have HB2 : Hid (Below w.heap.size w (wr.alloc (.cells #[.string ⟨[kb k].toArray⟩, .iface (kT k) (.string ⟨l.toArray⟩)] 53))) := Lib.hid (HB1.out.alloc HB1.out.size _)
      have HN2 : Hid (NmR (wr.alloc (.cells #[.string ⟨[kb k].toArray⟩, .iface (kT k) (.string ⟨l.toArray⟩)] 53)) b l) := Lib.hid (HN1.out.below ((Below.refl _ _).alloc (Nat.le_refl _) _))
      by_cases he : k < p
      · have q := Hne.out k he
        generalize kT k = T at *
        go_wp2_with fail
        go_roundw
        case rel => exact ⟨k + 1, by omega, by go_num, HN2, HB2⟩
        case measure => simp [intOf]; omega
      · obtain rfl : k = p := by omega
        have q := Heq.out hlt
        have HV := Lib.hid (HV1.out hlt)
        generalize kT k = T at *
        go_wp2_with fail
        go_ret2
        exact ⟨rret HV.out.symm, HB2.out⟩
    · obtain rfl : k = 5 := by omega
      obtain rfl : p = 5 := by omega
      have HV := Lib.hid (HV2.out (by omega))
      go_wp2_with fail
      go_ret2
      exact ⟨rret HV.out.symm, HB1.out⟩
/-- the place of a kind -/
def kIx (K : List UInt8) : Nat := if K = [114] then 0 else if K = [97] then 1 else if K = [99] then 2 else if K = [107] then 3 else if K = [100] then 4 else 5
theorem kIx_facts (K : List UInt8) : kIx K ≤ 5 ∧ (∀ k, k < kIx K → ([kb k] == K) = false) ∧ (kIx K < 5 → ([kb (kIx K)] == K) = true ∧ K = [kb (kIx K)]) ∧ (¬ kIx K < 5 → K ≠ [114] ∧ K ≠ [97] ∧ K ≠ [99] ∧ K ≠ [107] ∧ K ≠ [100]) := by
  have e0 : kb 0 = 114 := rfl
  have e1 : kb 1 = 97 := rfl
  have e2 : kb 2 = 99 := rfl
  have e3 : kb 3 = 107 := rfl
  have e4 : kb 4 = 100 := rfl
  have sw : ∀ c : UInt8, K ≠ [c] → ([c] == K) = false := fun c h => by rw [beq_eq_false_iff_ne]; exact fun e => h e.symm
  unfold kIx
  by_cases h0 : K = [114]
  · rw [if_pos h0]
    exact ⟨by omega, (fun k hk => by omega), (fun _ => ⟨by rw [h0]; rfl, h0⟩), fun h => absurd (by omega) h⟩
  rw [if_neg h0]
  by_cases h1 : K = [97]
  · rw [if_pos h1]
    refine ⟨by omega, (fun k hk => ?_), (fun _ => ⟨by rw [h1]; rfl, h1⟩), fun h => absurd (by omega) h⟩
    obtain rfl : k = 0 := by omega
    exact sw _ h0
  rw [if_neg h1]
  by_cases h2 : K = [99]
  · rw [if_pos h2]
    refine ⟨by omega, (fun k hk => ?_), (fun _ => ⟨by rw [h2]; rfl, h2⟩), fun h => absurd (by omega) h⟩
    rcases (show k = 0 ∨ k = 1 by omega) with rfl | rfl
    · exact sw _ h0
    · exact sw _ h1
  rw [if_neg h2]
  by_cases h3 : K = [107]
  · rw [if_pos h3]
    refine ⟨by omega, (fun k hk => ?_), (fun _ => ⟨by rw [h3]; rfl, h3⟩), fun h => absurd (by omega) h⟩
    rcases (show k = 0 ∨ k = 1 ∨ k = 2 by omega) with rfl | rfl | rfl
    · exact sw _ h0
    · exact sw _ h1
    · exact sw _ h2
  rw [if_neg h3]
  by_cases h4 : K = [100]
  · rw [if_pos h4]
    refine ⟨by omega, (fun k hk => ?_), (fun _ => ⟨by rw [h4]; rfl, h4⟩), fun h => absurd (by omega) h⟩
    rcases (show k = 0 ∨ k = 1 ∨ k = 2 ∨ k = 3 by omega) with rfl | rfl | rfl | rfl
    · exact sw _ h0
    · exact sw _ h1
    · exact sw _ h2
    · exact sw _ h3
  rw [if_neg h4]
  refine ⟨by omega, (fun k hk => ?_), (fun h => by omega), fun _ => ⟨h0, h1, h2, h3, h4⟩⟩
  rcases (show k = 0 ∨ k = 1 ∨ k = 2 ∨ k = 3 ∨ k = 4 by omega) with rfl | rfl | rfl | rfl | rfl
  · exact sw _ h0
  · exact sw _ h1
  · exact sw _ h2
  · exact sw _ h3
  · exact sw _ h4
theorem numeralAs_any (K l : List UInt8) (w : World) : Calls Tryd.prog 17 #[.string ⟨K.toArray⟩, .string ⟨l.toArray⟩] w fun e w' => e = .returned (nAs (kIx K) l) ∧ Below w.heap.size w w' := by
  obtain ⟨h1, h2, h3, _⟩ := kIx_facts K
  exact numeralAs_at K l (kIx K) w h1 h2 (fun h => (h3 h).1)
end Go.Proofs.YtalnojpdkiimpaaDoor

/- Decimals, plain: how the library reads and writes them. -/
namespace Go.Proofs.YtalnojpdkiimpaaDoor
open Go.Lib
set_option linter.unusedVariables false
set_option maxRecDepth 100000
theorem dec_dcm (u : Nat) : decDigits u = dcm u := by
  induction u using Nat.strongRecOn with
  | _ u ih =>
    rw [decDigits, dcm]
    by_cases h : u < 10
    · rw [dif_pos h, dif_pos h]; rfl
    · rw [dif_neg h, dif_neg h, ih (u / 10) (by omega)]; rfl
theorem itoa_dcm (u : Nat) : itoa (u : Int) = dcm u := by rw [itoa_nonneg, dec_dcm]
end Go.Proofs.YtalnojpdkiimpaaDoor

/- The library's variables that chapter 8's program reads: the powers of ten, two sentinels. -/
namespace Go.Proofs.YtalnojpdkiimpaaDoor
open Go.ChangeShapes Go.WideShapes Go.ChangeAt Go.WideMaps Go.WideElems Go.RowKit
set_option linter.unusedVariables false
set_option maxRecDepth 100000
/-- a variable that stands holds the same cells in whatever later world -/
theorem var_step {P : Program} {n : String} {g : Nat} {cs : Array Value} {w w' : World} (hg : P.globalNamed n = some g) (h : w.var? P n = some cs) (hlt : g < w.heap.size) (b : Below w.heap.size w w') : w'.var? P n = some cs :=
  var?_below b hg hlt h
/-- the powers of ten -/
def PW (w : World) : Prop := 3 < w.heap.size ∧ Lib.TabIs Tryd.prog w "internal/strconv.uint64pow10" .u64 Lib.pow10Tab
theorem gPW : Tryd.prog.globalNamed "internal/strconv.uint64pow10" = some 3 := by kernel_rfl
theorem tPW : (Tryd.prog.globals[3]?).map (·.type) = some 113 := by kernel_rfl
theorem PW.step {w w' : World} (h : PW w) (b : Below w.heap.size w w') : PW w' := ⟨Nat.lt_of_lt_of_le h.1 b.size, var_step gPW h.2 h.1 b⟩
theorem cPW : Tryd.prog.cellsOf 113 = 20 := by kernel_rfl
theorem cPW1 : Tryd.prog.cellsOf 101 = 1 := by kernel_rfl
theorem tb_pw {W : World} (h : LaidItem Tryd.prog W "internal/strconv.uint64pow10" (Lib.tabData .u64 Lib.pow10Tab)) : PW W := by
  obtain ⟨g, t, cs, fuel, p, hg, ht, hvar, hd⟩ := h
  obtain rfl := Option.some.inj (gPW.symm.trans hg)
  obtain rfl := Option.some.inj (tPW.symm.trans ht)
  have hc := Lib.cells_of_tab Tryd.underlying113 Tryd.underlying101 cPW1 cPW hd
  have hcs : cs = (Lib.pow10Tab.map fun z => Value.int .u64 z).toArray := by rw [← hc]
  subst hcs
  exact ⟨World.block_lt_of_cell? W ⟨3, 0, none⟩ (u := .int .u64 1) (World.var?_cell gPW hvar 0), hvar⟩
/-- a variable that holds an error -/
def ErV (n : String) (w : World) : Prop := ∃ g tp p, Tryd.prog.globalNamed n = some g ∧ g < w.heap.size ∧ w.var? Tryd.prog n = some #[.iface tp p]
theorem ErV.step {n : String} {w w' : World} (h : ErV n w) (b : Below w.heap.size w w') : ErV n w' := by
  obtain ⟨g, tp, p, hg, hlt, hv⟩ := h
  exact ⟨g, tp, p, hg, Nat.lt_of_lt_of_le hlt b.size, var_step hg hv hlt b⟩
theorem er_item {W : World} {n nm : String} {d : DataW Unit} {g : Nat} {ti : TypeId} {ms : Array (String × TypeId)} (hg : Tryd.prog.globalNamed n = some g) (ht : (Tryd.prog.globals[g]?).map (·.type) = some ti) (hi : Tryd.prog.underlying ti = some (.interface ms))
    (h : LaidItem Tryd.prog W n (.iface nm d)) : ErV n W := by
  obtain ⟨g', t, cs, fuel, p, hg', ht', hvar, hd⟩ := h
  obtain rfl := Option.some.inj (hg.symm.trans hg')
  obtain rfl := Option.some.inj (ht.symm.trans ht')
  obtain ⟨f1, u, v, hcs, hn, h1⟩ := iface_of_trod hi hd
  obtain ⟨l⟩ := cs
  have hcs' : l = [.iface u v] := hcs
  subst hcs'
  exact ⟨g, u, v, hg, World.block_lt_of_cell? W ⟨g, 0, none⟩ (u := .iface u v) (World.var?_cell hg hvar 0), hvar⟩
end Go.Proofs.YtalnojpdkiimpaaDoor
