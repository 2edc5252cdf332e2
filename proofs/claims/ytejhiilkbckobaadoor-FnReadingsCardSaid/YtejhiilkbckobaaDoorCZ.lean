/- The program's chapter 4: clayDigit, PlaceOf. -/
import Derived.Test.YtejhiilkbckobaaDoorCQ
import Derived.Test.YtejhiilkbckobaaDoorVR
namespace Go.Proofs.YtejhiilkbckobaaDoor
open Go.RowKit
set_option linter.unusedVariables false
set_option maxRecDepth 100000
theorem repeat_any (c : UInt8) (k : Int) (n : Nat) (hk : k = n) (w : World) (hn : n ≤ 1000) : Calls Tryd.prog 37 #[.string ⟨#[c]⟩, .int .i64 k] w fun e w' => e = .returned (.string ⟨(many [c] n).toArray⟩) ∧ Below w.heap.size w w' := by
  subst hk
  have h := Tryd.strings_Repeat ⟨#[c]⟩ n w (by omega) (by show 1 * n ≤ _; omega)
  rwa [show ((⟨#[c]⟩ : ByteArray).data.toList) = [c] from rfl, repeat_many] at h
theorem clayDigit_any (d : Nat) (w : World) (h : d < 60) : Calls Tryd.prog 25 #[.int .i64 d] w fun e w' => e = .returned (.string ⟨(cdig d).toArray⟩) ∧ Below w.heap.size w w' := by
  by_cases hz : d = 0
  · subst hz
    go_enter Tryd.func25, Tryd.ntmps25
    go_wp2_with fail
    go_ret
    exact ⟨rfl, Below.refl _ _⟩
  · have hq : ((d : Int) == 0) = false := by rw [beq_eq_false_iff_ne]; omega
    have C1 := Lib.hid (fun w1 : World => repeat_any 60 ((d : Int) / 10) (d / 10) (by omega) w1 (by omega))
    have C2 := Lib.hid (fun w1 : World => repeat_any 89 ((d : Int) % 10) (d % 10) (by omega) w1 (by omega))
    obtain ⟨L1, H1, b1⟩ : ∃ L : List UInt8, Hid (many [60] (d / 10) = L) ∧ L.length ≤ 9 := ⟨_, Lib.hid rfl, by rw [many_length]; simp; omega⟩
    obtain ⟨L2, H2, b2⟩ : ∃ L : List UInt8, Hid (many [89] (d % 10) = L) ∧ L.length ≤ 9 := ⟨_, Lib.hid rfl, by rw [many_length]; simp; omega⟩
    have Hf : Hid (cdig d = L1 ++ L2) := by
      show _ = _
      unfold cdig
      rw [if_neg hz, ← H1.out, ← H2.out]
    clear hz
    rw [H1.out] at C1
    rw [H2.out] at C2
    go_enter Tryd.func25, Tryd.ntmps25
    go_wp2_with fail
    refine (C1.out _).mono ?_
    rintro e w1 ⟨rfl, g1⟩
    have G1 := Lib.hid g1; clear g1
    go_wp2_with fail
    refine (C2.out _).mono ?_
    rintro e w2 ⟨rfl, g2⟩
    have G2 := Lib.hid (G1.out.trans (g2.mono G1.out.size)); clear g2
    go_wp2_with fail
    go_ret
    exact ⟨ret_bytes (by rw [Hf.out, bytes_append]), G2.out⟩
/-- the digits' answer, with its block -/
def DigR (w w' : World) (f : Nat → Int) (n : Nat) (ok : Bool) (e : Ending) : Prop :=
  (ok = true → e = .returned (.tuple #[.slice (some ⟨w.heap.size, 0, none⟩) n n, .bool true]) ∧ Own w' w.heap.size n f) ∧ (ok = false → e = .returned (.tuple #[.slice none 0 0, .bool false])) ∧ Below w.heap.size w w'
set_option maxHeartbeats 1000000 in
theorem digitsOf_own (a : Option Addr) (n c : Nat) (f : Nat → Int) (N : Int) (w : World) (h : Ls w a n f) (hn : n ≤ 10000000) (hp : ∀ k, k < n → 2 ≤ f k ∧ f k ≤ 100) (hN : N ≤ 9223372036854775807) :
    Calls Tryd.prog 24 #[.slice a n c, .int .i64 N] w fun e w' => DigR w w' (pdg f n N) n (dgB f n N) e := by
  obtain ⟨i0, hi, hz0, hz1, hz2⟩ := info_parts info_int
  have H := Lib.hid h; clear h
  by_cases hneg : N < 0
  · have HB : Hid (dgB f n N = false) := Lib.hid (decide_eq_false (by omega))
    go_enter Tryd.func24, Tryd.ntmps24
    go_wp2_with fail
    go_ret2
    exact ⟨(fun h => by rw [HB.out] at h; cases h), fun _ => rfl, Below.refl _ _⟩
  · have h0 : 0 ≤ N := by omega
    have P4 := Lib.hid hp
    have L := Lib.hid (lft_le f n N (fun k hk => (hp k hk).1) h0)
    have I := Lib.hid (lft_iff f n N (fun k hk => (hp k hk).1) h0)
    clear hp
    go_enter Tryd.func24, Tryd.ntmps24
    go_wp2_with (at_make; refine wpList_make_ints _ rfl _ _ 31 rfl i0 Tryd.underlying31 hi hz0 hz1 hz2 n (by omega) rfl rfl ?_; intro w1 hown hb hsz)
    have Hown := Lib.hid hown; have Hb := Lib.hid hb; have Hsz := Lib.hid hsz
    clear hown hb hsz
    go_loopw [1, 7] (fun x i wr => ∃ k : Nat, DownIx k i ∧ k ≤ n ∧ x = .int .i64 (lft f n N (n - k)) ∧ Own wr w.heap.size n (fun j => if k ≤ j then pdg f n N j else 0) ∧ Below w.heap.size w wr ∧ wr.heap.size = w.heap.size + 1) (fun _ i _ => (intOf i + 1).toNat)
    case atStart => exact ⟨n, downIx_mk n, by omega, by rw [Nat.sub_self]; rfl, Hown.out.congr fun j hj => by rw [if_neg (by omega)], Hb.out, Hsz.out⟩
    case round =>
      obtain ⟨k, hik, hk, rfl, hown, hbel, hsz⟩ := hrel
      have Ho := Lib.hid hown; have Hbe := Lib.hid hbel; have Hsz := Lib.hid hsz
      clear hsz
      rcases hik with ⟨rfl, rfl⟩ | ⟨k, rfl, rfl⟩
      · clear hown hbel
        rw [Nat.sub_zero]
        by_cases hgt : 0 < lft f n N n
        · have HB : Hid (dgB f n N = false) := Lib.hid (decide_eq_false fun h => by have := I.out.1 h.2; omega)
          generalize lft f n N n = r at *
          go_wp2_with fail
          go_ret2
          exact ⟨(fun h => by rw [HB.out] at h; cases h), fun _ => rfl, Hbe.out⟩
        · have HB : Hid (dgB f n N = true) := Lib.hid (decide_eq_true ⟨h0, I.out.2 (by omega)⟩)
          generalize lft f n N n = r at *
          go_wp2_with fail
          go_ret2
          exact ⟨fun _ => ⟨rfl, Ho.out.congr fun j hj => by simp⟩, (fun h => by rw [HB.out] at h; cases h), Hbe.out⟩
      · obtain ⟨b, off, rfl, hb, hc⟩ := H.out k (by omega)
        have hc1 : wr.cell? ⟨b, off + k, none⟩ = some (.int .i64 (f k)) := (hbel.cell (p := ⟨b, off + k, none⟩) hb).trans hc
        obtain ⟨v0, hv0⟩ : ∃ v0, wr.cell? ⟨w.heap.size, k, none⟩ = some v0 := ⟨_, hown.cell k (by omega)⟩
        have hfr := hown.frozen k
        have hfp := P4.out k (by omega)
        obtain ⟨hr0, hr1⟩ := L.out (n - (k + 1)) (by omega)
        have hr2 := Int.le_trans hr1 hN
        have Hst : Hid (lft f n N (n - k) = lft f n N (n - (k + 1)) / f k) := Lib.hid (by rw [show n - k = (n - (k + 1)) + 1 by omega]; simp only [lft]; rw [show n - 1 - (n - (k + 1)) = k by omega])
        have Hpl : Hid (pdg f n N k = lft f n N (n - (k + 1)) % f k) := Lib.hid (by unfold pdg; rw [show n - 1 - k = n - (k + 1) by omega])
        have HO : Hid (Own (wr.setCell ⟨w.heap.size, k, none⟩ (.int .i64 (lft f n N (n - (k + 1)) % f k))) w.heap.size n (fun j => if k ≤ j then pdg f n N j else 0)) := by
          rw [← Hpl.out]; exact Ho.out.from
        have HB2 : Hid (Below w.heap.size w (wr.setCell ⟨w.heap.size, k, none⟩ (.int .i64 (lft f n N (n - (k + 1)) % f k)))) := Hbe.out.setCell (Nat.le_refl _) _
        have hc2 : (wr.setCell ⟨w.heap.size, k, none⟩ (.int .i64 (lft f n N (n - (k + 1)) % f k))).cell? ⟨b, off + k, none⟩ = some (.int .i64 (f k)) := (HB2.out.cell (p := ⟨b, off + k, none⟩) hb).trans hc
        clear hown hbel hc hr1
        generalize lft f n N (n - (k + 1)) = r at *
        generalize f k = v at *
        go_wp2_with fail
        go_roundw
        case rel => exact ⟨k, downIx_mk k, by omega, by rw [Hst.out], HO.out, HB2.out, by simp [World.setCell]; exact Hsz.out⟩
        case measure => simp [intOf]
theorem s60_prd : prd (fun _ => (60 : Int)) 4 = 12960000 := by decide
theorem dgB_60 (N : Int) : dgB (fun _ => 60) 4 N = decide (0 ≤ N ∧ N ≤ 12959999) := by
  unfold dgB
  rw [s60_prd, decide_eq_decide]
  omega
theorem pdg_d4 (N k : Nat) (hk : k < 4) : pdg (fun _ => (60 : Int)) 4 N k = d4 N k := by
  rcases (show k = 0 ∨ k = 1 ∨ k = 2 ∨ k = 3 by omega) with rfl | rfl | rfl | rfl <;> simp [pdg, lft, d4] <;> omega
theorem info_str4 : (Tryd.prog.info? 9).map (fun i => (i.zero, i.size, i.bytes)) = some (some (.string ⟨#[]⟩), 1, 16) := by kernel_rfl
theorem info_vals {T : TypeId} {z : Value} {by_ : Nat} {P : Program} (h : (P.info? T).map (fun i => (i.zero, i.size, i.bytes)) = some (some z, 1, by_)) : ∃ i, P.info? T = some i ∧ i.zero = some z ∧ i.size = 1 ∧ i.bytes = by_ := by
  cases e : P.info? T with
  | none => rw [e] at h; cases h
  | some i =>
    rw [e] at h
    simp only [Option.map_some, Option.some.injEq, Prod.mk.injEq] at h
    exact ⟨i, rfl, h.1, h.2.1, h.2.2⟩
def lenV : Value → Nat
  | .slice _ n _ => n
  | _ => 0
/-- the text of a digit at a place, as a value -/
def sgn4 (N z j : Nat) : Value := .string ⟨(cdig (d4 N (z + j))).toArray⟩
theorem join4_any (N z m b : Nat) (w : World) (h : VRow 9 w b m (sgn4 N z)) (hm : m ≤ 4) (hN : N ≤ 12959999) (hj : Lib.join ((List.range m).map fun j => cdig (d4 N (z + j))) [32] = clay N) :
    Calls Tryd.prog 26 #[.slice (some ⟨b, 0, none⟩) m m, .string ⟨#[32]⟩] w fun e w' => e = .returned (.string ⟨(clay N).toArray⟩) ∧ Below w.heap.size w w' := by
  obtain ⟨xs, hxs⟩ : ∃ xs : List ByteArray, xs = (List.range m).map fun j => (⟨(cdig (d4 N (z + j))).toArray⟩ : ByteArray) := ⟨_, rfl⟩
  have hl : xs.length = m := by rw [hxs]; simp
  have hmap : xs.map (·.data.toList) = (List.range m).map fun j => cdig (d4 N (z + j)) := by rw [hxs, List.map_map]; rfl
  have hle := (clay_short N (by omega)).2
  have J := Tryd.strings_Join b 0 m xs ⟨#[32]⟩ w (fun j x hx => by
    have hjm : j < m := by
      rcases Nat.lt_or_ge j m with h | h
      · exact h
      · rw [List.getElem?_eq_none (by omega)] at hx; cases hx
    rw [Nat.zero_add, h.cell j hjm]
    rw [hxs] at hx
    simp [hjm] at hx
    unfold sgn4
    rw [hx]) h.lt (by omega) (by omega) (by rw [hmap]; show (Lib.join _ [32]).length ≤ _; rw [hj]; omega)
  rw [hl, hmap] at J
  rwa [show Lib.join ((List.range m).map fun j => cdig (d4 N (z + j))) (⟨#[32]⟩ : ByteArray).data.toList = clay N from hj] at J
set_option maxHeartbeats 1000000 in
theorem iPlaceOf_nat (N : Nat) (w : World) (hN : N ≤ 12959999) : Calls Tryd.prog 9 #[.int .i64 N] w fun e w' => e = .returned (.tuple #[.string ⟨(clay N).toArray⟩, .bool true]) ∧ Below w.heap.size w w' := by
  obtain ⟨i0, hi, hz0, hz1, hz2⟩ := info_vals info_str4
  have hok : dgB (fun _ => 60) 4 (N : Int) = true := by rw [dgB_60]; exact decide_eq_true (by omega)
  have HOK := Lib.hid hok; clear hok
  have hz3 := zed_le N
  have HZ0 := Lib.hid (fun k => d4_zero N k (by omega))
  have HZ1 := Lib.hid (d4_zed N (by omega))
  have HJ := Lib.hid (clay_d4 N (by omega))
  generalize hz : zed N = z at *
  have HZ := Lib.hid hz; clear hz
  obtain ⟨m, hm⟩ : ∃ m, m = 4 - z := ⟨_, rfl⟩
  rw [← hm] at HJ
  have HM := Lib.hid hm; clear hm
  have HN := Lib.hid hN; clear hN
  go_enter Tryd.func9, Tryd.ntmps9
  go_wp2_with fail
  refine (clayPlaces_any w).mono ?_
  rintro e w1 ⟨b, rfl, hb0, hb1, ho, hb⟩
  have HL := Lib.hid ho.row.ls; have HB := Lib.hid hb; clear ho hb hb0 hb1
  go_wp2_with fail
  refine (digitsOf_own _ 4 4 (fun _ => 60) N w1 HL.out (by omega) (fun _ _ => ⟨by omega, by omega⟩) (by have := HN.out; omega)).mono ?_
  rintro e w2 ⟨h1, h2, h3⟩
  obtain ⟨rfl, h4⟩ := h1 HOK.out
  have HD := Lib.hid h4; have HB2 := Lib.hid (HB.out.trans (h3.mono HB.out.size)); have HS := Lib.hid (show w.heap.size ≤ w1.heap.size from HB.out.size)
  clear h1 h2 h3 h4 HL
  have hd4 : Hid (∀ k, k < 4 → w2.cell? ⟨w1.heap.size, k, none⟩ = some (.int .i64 (d4 N k : Nat))) := Lib.hid fun k hk => by rw [HD.out.cell k hk, pdg_d4 N k hk]
  clear HD HB
  go_wp2_with fail
  go_loop [4] (fun v => ∃ k j : Nat, k + j = 4 ∧ k ≤ z ∧ v = .slice (some ⟨w1.heap.size, k, none⟩) j j) (fun v => lenV v)
  case atStart => exact ⟨0, 4, rfl, by omega, rfl⟩
  case round =>
    obtain ⟨k, j, hkj, hkz, rfl⟩ := hrel
    have hc := hd4.out k
    by_cases hlt : k < z
    · have hc' := hc (by omega)
      rw [HZ0.out k hlt] at hc'
      have t1 : decide ((j : Int) > 1) = true := decide_eq_true (by omega)
      clear hc
      go_wp2_with fail
      go_round
      case rel => exact ⟨k + 1, j - 1, by omega, by omega, by go_num⟩
      case measure => simp [lenV]; omega
    · obtain rfl : k = z := by omega
      obtain rfl : j = m := by have := HM.out; omega
      have hk4 : k + j ≤ 4 := by omega
      have hk5 : 4 ≤ k + j := by omega
      have hex : k = 3 ∧ decide ((j : Int) > 1) = false ∨ k < 3 ∧ decide ((j : Int) > 1) = true ∧ w2.cell? ⟨w1.heap.size, k, none⟩ = some (.int .i64 (d4 N k : Nat)) ∧ (((d4 N k : Nat) : Int) == 0) = false := by
        by_cases h3 : k = 3
        · exact .inl ⟨h3, decide_eq_false (by omega)⟩
        · exact .inr ⟨by omega, decide_eq_true (by omega), hc (by omega), by rw [beq_eq_false_iff_ne]; have := HZ1.out (by omega); omega⟩
      clear hc hlt HM hkj
      rcases hex with ⟨h3, t1⟩ | ⟨h3, t1, t2, t3⟩
      all_goals
        clear h3
        go_wp2_with (at_make; refine wpList_make_vals _ rfl _ _ 42 9 rfl (.string ⟨#[]⟩) rfl i0 Tryd.underlying42 hi hz0 hz1 (by omega) j (by omega) rfl rfl ?_; intro w3 hrow hb3 hsz3)
        have HR := Lib.hid hrow; have HB3 := Lib.hid hb3
        clear hrow hb3 hsz3
        go_loopw [33] (fun i wr => ∃ q : Nat, i = .int .i64 q ∧ q ≤ j ∧ VRow 9 wr w2.heap.size j (fun x => if x < q then sgn4 N k x else .string ⟨#[]⟩) ∧ Below w2.heap.size w2 wr) (fun i _ => j - (intOf i).toNat)
        case atStart => exact ⟨0, rfl, by omega, HR.out.congr fun x hx => by simp, HB3.out⟩
        case round =>
          clear HR HB3
          obtain ⟨q, rfl, hq, hrow, hbel⟩ := hrel
          have HR := Lib.hid hrow; have HBr := Lib.hid hbel
          clear hrow hbel
          by_cases hlt : q < j
          · have hcd : wr.cell? ⟨w1.heap.size, k + q, none⟩ = some (.int .i64 (d4 N (k + q) : Nat)) := (HBr.out.cell (p := ⟨w1.heap.size, k + q, none⟩) (World.block_lt_of_cell? w2 ⟨w1.heap.size, k + q, none⟩ (hd4.out (k + q) (by omega)))).trans (hd4.out (k + q) (by omega))
            have hd := d4_lt N (k + q)
            have C := Lib.hid (clayDigit_any (d4 N (k + q)) wr hd)
            have HG : Hid (sgn4 N k q = .string ⟨(cdig (d4 N (k + q))).toArray⟩) := rfl
            generalize d4 N (k + q) = y at *
            go_wp2_with fail
            refine C.out.mono ?_
            rintro e w4 ⟨rfl, g4⟩
            have hrow4 := HR.out.below g4
            have HB4 : Hid (Below w2.heap.size w2 w4) := HBr.out.trans (g4.mono HBr.out.size)
            have HR4 := Lib.hid hrow4
            obtain ⟨v0, hv0⟩ : ∃ v0, w4.cell? ⟨w2.heap.size, q, none⟩ = some v0 := ⟨_, hrow4.cell q hlt⟩
            have hfr := hrow4.frozen q
            have hup := hrow4.upto
            rw [HG.out] at hup
            have HU := Lib.hid hup
            have HS4 : Hid (Below w2.heap.size w2 (w4.setCell ⟨w2.heap.size, q, none⟩ (.string ⟨(cdig y).toArray⟩))) := HB4.out.setCell (Nat.le_refl _) _
            clear hup hrow4 g4 C HR
            generalize cdig y = L at *
            go_wp2_with fail
            go_roundw
            case rel => exact ⟨q + 1, by go_num, by omega, HU.out, HS4.out⟩
            case measure => simp [intOf]; omega
          · obtain rfl : q = j := by omega
            have JC := Lib.hid (join4_any N k q w2.heap.size wr (HR.out.congr fun x hx => by simp [hx]) (by omega) HN.out HJ.out)
            go_wp2_with fail
            refine JC.out.mono ?_
            rintro e w4 ⟨rfl, g4⟩
            have HF : Hid (Below w.heap.size w w4) := HB2.out.trans ((HBr.out.trans (g4.mono HBr.out.size)).mono HB2.out.size)
            clear g4
            go_wp2_with fail
            go_ret2
            exact ⟨rfl, HF.out⟩
theorem iPlaceOf_any (n : Int) (w : World) (hn : n ≤ 9223372036854775807) : Calls Tryd.prog 9 #[.int .i64 n] w fun e w' => e = .returned (placeOfR n) ∧ Below w.heap.size w w' := by
  by_cases h : 0 ≤ n ∧ n ≤ 12959999
  · obtain ⟨k, rfl⟩ := Int.eq_ofNat_of_zero_le h.1
    rw [placeOfR_yes k (by omega)]
    exact iPlaceOf_nat k w (by omega)
  · rw [placeOfR_no n h]
    have HOK : Hid (dgB (fun _ => 60) 4 n = false) := by show _ = _; rw [dgB_60]; exact decide_eq_false h
    clear h
    go_enter Tryd.func9, Tryd.ntmps9
    go_wp2_with fail
    refine (clayPlaces_any w).mono ?_
    rintro e w1 ⟨b, rfl, hb0, hb1, ho, hb⟩
    have HL := Lib.hid ho.row.ls; have HB := Lib.hid hb; clear ho hb hb0 hb1
    go_wp2_with fail
    refine (digitsOf_own _ 4 4 (fun _ => 60) n w1 HL.out (by omega) (fun _ _ => ⟨by omega, by omega⟩) hn).mono ?_
    rintro e w2 ⟨h1, h2, h3⟩
    obtain rfl := h2 HOK.out
    have HB2 := Lib.hid (HB.out.trans (h3.mono HB.out.size))
    clear h1 h2 h3 HL HB
    go_wp2_with fail
    go_ret2
    exact ⟨rfl, HB2.out⟩
end Go.Proofs.YtejhiilkbckobaaDoor
