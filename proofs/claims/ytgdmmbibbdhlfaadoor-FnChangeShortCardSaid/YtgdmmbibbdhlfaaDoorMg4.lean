/- Several texts of mine, one after another: D, Dr, Ds, UF, AT, AD, YD, YF, YK. -/
import Derived.Test.YtgdmmbibbdhlfaaDoorRows
import Derived.Test.YtgdmmbibbdhlfaaDoorMg1
import Derived.Test.YtgdmmbibbdhlfaaDoorMg3
import Derived.Test.YtgdmmbibbdhlfaaDoorMg2
/- The reader of a drawn code (package spec): pick, l6Open. -/
namespace Go.Proofs.YtgdmmbibbdhlfaaDoor
open Go.RowKit
set_option linter.unusedVariables false
set_option maxRecDepth 100000
/-- a reader in block r: len bytes (all in blocks below r), its place p -/
structure Rd (w : World) (r : Nat) (a : Option Addr) (len cap : Nat) (p : Nat) : Prop where
  blk : w.heap[r]? = some (.cells #[.slice a len cap, .int .i64 (p : Nat)] 61 (0, 0))
  small : len ≤ 2000
  at' : ∀ i, i < len → ∃ b off y, a = some ⟨b, off, none⟩ ∧ b < r ∧ w.cell? ⟨b, off + i, none⟩ = some (.int .u8 y) ∧ 0 ≤ y ∧ y ≤ 255
/-- what a pick leaves: the reader's place is one further, nothing else has turned -/
theorem Rd.next {w : World} {r : Nat} {a : Option Addr} {len cap p : Nat} (h : Rd w r a len cap p) (q : Nat) :
    Rd ((w.setCell ⟨r, 1, none⟩ (.int .i64 ((p : Int) + 1))).drewN q) r a len cap (p + 1) ∧ w.grownBy ((w.setCell ⟨r, 1, none⟩ (.int .i64 ((p : Int) + 1))).drewN q) (some r) := by
  have hr : r < w.heap.size := lt_of_block' h.blk
  have hg : w.grownBy ((w.setCell ⟨r, 1, none⟩ (.int .i64 ((p : Int) + 1))).drewN q) (some r) :=
    ⟨rfl, rfl, rfl, by simp [World.setCell, World.drewN], fun k hk hne => by
      show (w.setCell ⟨r, 1, none⟩ (.int .i64 ((p : Int) + 1))).heap[k]? = _
      exact Below.heap_setCell _ _ _ _ (fun e => hne (by simp at e; rw [e]))⟩
  refine ⟨⟨?_, h.small, fun i hi => ?_⟩, hg⟩
  · show (w.heap.modify r _)[r]? = _
    have hb := h.blk
    rw [Array.getElem?_eq_getElem hr] at hb
    rw [Array.getElem?_eq_getElem (by simpa using hr), Array.getElem_modify_self, Option.some.inj hb]
    simp
  · obtain ⟨b, off, y, ha, hb, hc, h0, h1⟩ := h.at' i hi
    exact ⟨b, off, y, ha, hb, hg.cell hc (by simp; omega), h0, h1⟩
theorem xor_nonneg (x y : Int) (h0 : 0 ≤ x) (h1 : x ≤ 1000000000) (g0 : 0 ≤ y) (g1 : y ≤ 1000000000) : 0 ≤ bits BinOp.xor IntKind.i64 x y := by
  obtain ⟨a, rfl⟩ := Int.eq_ofNat_of_zero_le h0
  obtain ⟨b, rfl⟩ := Int.eq_ofNat_of_zero_le g0
  have ha : a < 2 ^ 62 := by omega
  have hb : b < 2 ^ 62 := by omega
  have hx : a ^^^ b < 2 ^ 62 := Nat.xor_lt_two_pow ha hb
  have ha' : a % 2 ^ 64 = a := Nat.mod_eq_of_lt (by omega)
  have hb' : b % 2 ^ 64 = b := Nat.mod_eq_of_lt (by omega)
  have e : bits BinOp.xor IntKind.i64 (a : Int) (b : Int) = IntKind.i64.wrap ((a ^^^ b : Nat) : Int) := by
    have e64 : IntKind.i64.bits = 64 := rfl
    simp only [bits, BitVec.ofInt_natCast, BitVec.toNat_xor, BitVec.toNat_ofNat, e64, ha', hb']
  rw [e, IntWalk.i64_in _ (by omega)]
  omega
theorem tmod_between (x n : Int) (h0 : 0 ≤ x) (hn : 1 ≤ n) : 0 ≤ x.tmod n ∧ x.tmod n < n := by
  rw [Int.tmod_eq_emod_of_nonneg h0]
  exact ⟨Int.emod_nonneg _ (by omega), Int.emod_lt_of_pos _ (by omega)⟩
theorem pick_any (r : Nat) (a : Option Addr) (len cap : Nat) (p : Nat) (n : Int) (w : World) (h : Rd w r a len cap p) (hn : 1 ≤ n) (hn2 : n ≤ 1000000) (hp : p ≤ 1000000) :
    Calls Tryd.prog 36 #[.pointer (some ⟨r, 0, none⟩), .int .i64 n] w fun e w' => ∃ x : Int, 0 ≤ x ∧ x < n ∧ e = .returned (.int .i64 x) ∧ Rd w' r a len cap (p + 1) ∧ w.grownBy w' (some r) := by
  have hc0 : w.cell? ⟨r, 0, none⟩ = some (.slice a len cap) := cell_at h.blk (j := 0) rfl
  have hc1 : w.cell? ⟨r, 1, none⟩ = some (.int .i64 (p : Nat)) := cell_at h.blk (j := 1) rfl
  have hf : w.frozen? ⟨r, 1, none⟩ = false := by simp [World.frozen?, h.blk]
  have hl := h.small
  have Hnext := Lib.hid (fun q => h.next q)
  by_cases h0 : len = 0
  · subst h0
    clear h
    go_enter Tryd.func36, Tryd.ntmps36
    go_wp2
    go_ret
    exact ⟨0, Int.le_refl _, by omega, rfl, Hnext.out 0⟩
  · by_cases hk : p < len
    · obtain ⟨b, off, y, rfl, hbr, hcb, hz0, hz1⟩ := h.at' p hk
      have hz : ((len : Int) == 0) = false := by rw [beq_eq_false_iff_ne]; omega
      clear h
      go_enter Tryd.func36, Tryd.ntmps36
      go_wp2
      go_ret
      exact ⟨y % n, Int.emod_nonneg _ (by omega), Int.emod_lt_of_pos _ (by omega), rfl, Hnext.out 0⟩
    · obtain ⟨b, off, y, rfl, hbr, hcb, hz0, hz1⟩ := h.at' (p % len) (Nat.mod_lt _ (by omega))
      obtain ⟨b', off', y', he, hbr', hcb', hz0', hz1'⟩ := h.at' ((p * 7 + 3) % len) (Nat.mod_lt _ (by omega))
      obtain ⟨rfl, rfl⟩ : b' = b ∧ off' = off := by simpa [eq_comm] using he
      have hz : ((len : Int) == 0) = false := by rw [beq_eq_false_iff_ne]; omega
      clear h he
      have hm1 : (p : Int) % (len : Int) < len := Int.emod_lt_of_pos _ (by omega)
      have hm2 : ((p : Int) * 7 + 3) % (len : Int) < len := Int.emod_lt_of_pos _ (by omega)
      have hm3 : 0 ≤ (p : Int) % (len : Int) := Int.emod_nonneg _ (by omega)
      have hm4 : 0 ≤ ((p : Int) * 7 + 3) % (len : Int) := Int.emod_nonneg _ (by omega)
      have hq0 : 0 ≤ (p : Int) / (len : Int) := Int.ediv_nonneg (by omega) (by omega)
      have hq1 : (p : Int) / (len : Int) ≤ 1000000 := by
        rw [← Int.natCast_ediv]
        have := Nat.div_le_self p len
        generalize p / len = z at this ⊢
        omega
      go_enter Tryd.func36, Tryd.ntmps36
      go_wp2
      go_quiet (fail)
      go_wp2
      go_ret
      have hx := xor_nonneg (y * 131 + y' * 1117 + (p : Int) * 29 + (p : Int) / (len : Int) * 53) ((y * 131 + y' * 1117 + (p : Int) * 29 + (p : Int) / (len : Int) * 53) / 64) (by omega) (by omega) (by omega) (by omega)
      exact ⟨_, (tmod_between _ n hx hn).1, (tmod_between _ n hx hn).2, rfl, Hnext.out nq⟩
theorem l6Open_any (a : Option Addr) (len cap : Nat) (zs : List Int) (w : World) (h : IsRow .u8 w a len cap zs) :
    Calls Tryd.prog 20 #[.slice a len cap] w fun e w' => ∃ (a' : Option Addr) (l c : Nat), e = .returned (.pointer (some ⟨w.heap.size, 0, none⟩)) ∧ Rd w' w.heap.size a' l c 0 ∧ Below w.heap.size w w' := by
  rcases h with ⟨rfl, rfl, rfl, rfl⟩ | ⟨x, rfl, hl, hm, hz, hcell, hwz⟩
  · go_enter Tryd.func20, Tryd.ntmps20
    go_wp2
    go_ret
    exact ⟨_, _, _, rfl, ⟨heap_alloc_new _ _, by omega, fun i hi => by omega⟩, (Below.refl _ _).alloc (Nat.le_refl _) _⟩
  · obtain ⟨b, off, spot⟩ := x
    unfold maxLen at hm
    by_cases h0 : len = 0
    · subst h0
      go_enter Tryd.func20, Tryd.ntmps20
      go_wp2
      go_ret
      exact ⟨_, _, _, rfl, ⟨heap_alloc_new _ _, by omega, fun i hi => by omega⟩, (Below.refl _ _).alloc (Nat.le_refl _) _⟩
    · have hc := hcell 0 (by omega)
      have hspot : spot = none := by simpa [Addr.add] using World.cell?_spot hc
      subst hspot
      have hat : ∀ l c, l ≤ len → ∀ i, i < l → ∃ b' off' y, some (⟨b, off, none⟩ : Addr) = some ⟨b', off', none⟩ ∧ b' < w.heap.size ∧ (w.alloc c).cell? ⟨b', off' + i, none⟩ = some (.int .u8 y) ∧ 0 ≤ y ∧ y ≤ 255 := by
        intro l c hlc i hi
        have hci := hcell i (by omega)
        have hci' : w.cell? ⟨b, off + i, none⟩ = some (.int .u8 (zs.getD i 0)) := by
          have e : (⟨b, off, none⟩ : Addr).add i = ⟨b, off + i, none⟩ := by unfold Addr.add; split <;> simp_all
          rw [← e]; exact hci
        have hlt := World.block_lt_of_cell? w _ hci'
        have hwf := hwz (zs.getD i 0) (by rw [List.getD_eq_getElem?_getD, List.getElem?_eq_getElem (by omega)]; exact List.getElem_mem _)
        simp only [Lit.wf, Bool.and_eq_true, decide_eq_true_eq] at hwf
        refine ⟨b, off, zs.getD i 0, rfl, hlt, ?_, hwf.1, hwf.2⟩
        rw [World.cell?_of_block (Below.heap_alloc w c b hlt)]
        exact hci'
      have Hat := Lib.hid hat
      clear hat hcell hwz hc
      by_cases h2 : 2000 < len
      · go_enter Tryd.func20, Tryd.ntmps20
        go_wp2
        go_ret
        exact ⟨_, _, _, rfl, ⟨heap_alloc_new _ _, by omega, Hat.out _ _ (by omega)⟩, (Below.refl _ _).alloc (Nat.le_refl _) _⟩
      · go_enter Tryd.func20, Tryd.ntmps20
        go_wp2
        go_ret
        exact ⟨_, _, _, rfl, ⟨heap_alloc_new _ _, by omega, Hat.out _ _ (by omega)⟩, (Below.refl _ _).alloc (Nat.le_refl _) _⟩
end Go.Proofs.YtgdmmbibbdhlfaaDoor

/- The draws of chapter 1 (package spec): a number. -/
namespace Go.Proofs.YtgdmmbibbdhlfaaDoor
open Go.RowKit
set_option linter.unusedVariables false
set_option maxRecDepth 100000
theorem grown_trans {w1 w2 w3 : World} {r : Nat} (h : w1.grownBy w2 (some r)) (k : w2.grownBy w3 (some r)) : w1.grownBy w3 (some r) :=
  ⟨k.os.trans h.os, k.tape.trans h.tape, k.output.trans h.output, Nat.le_trans h.size k.size, fun i hi hne => (k.block i (Nat.lt_of_lt_of_le hi h.size) hne).trans (h.block i hi hne)⟩
theorem bel_grown {B r : Nat} {w w1 w2 : World} (h : Below B w w1) (g : w1.grownBy w2 (some r)) (hB : B ≤ w1.heap.size) (hr : B ≤ r) : Below B w w2 := h.grown g hB (fun k hk => by simp at hk; omega)
theorem l91Small_any (r : Nat) (a : Option Addr) (len cap : Nat) (p : Nat) (w : World) (h : Rd w r a len cap p) (hp : p ≤ 900000) :
    Calls Tryd.prog 39 #[.pointer (some ⟨r, 0, none⟩)] w fun e w' => ∃ (x : Int) (p' : Nat), 0 ≤ x ∧ x ≤ 4000 ∧ e = .returned (.int .i64 x) ∧ Rd w' r a len cap p' ∧ p' ≤ p + 5 ∧ w.grownBy w' (some r) := by
  have H := Lib.hid h; clear h
  go_enter Tryd.func39, Tryd.ntmps39
  go_wp2_with fail
  refine (pick_any r a len cap p _ _ H.out (by omega) (by omega) (by omega)).mono ?_
  rintro e w1 ⟨x, hx0, hx1, rfl, hr1, g1⟩
  have H1 := Lib.hid hr1; have G1 := Lib.hid g1; clear hr1 g1
  by_cases h0 : x = 0
  · subst h0
    go_wp2_with fail
    go_ret
    exact ⟨0, p + 1, by omega, by omega, rfl, H1.out, by omega, G1.out⟩
  by_cases h1 : x = 1
  · subst h1
    go_wp2_with fail
    go_ret
    exact ⟨4000, p + 1, by omega, by omega, rfl, H1.out, by omega, G1.out⟩
  by_cases h2 : x = 2
  · subst h2
    go_wp2_with fail
    refine (pick_any r a len cap _ _ _ H1.out (by omega) (by omega) (by omega)).mono ?_
    rintro e w2 ⟨y, hy0, hy1, rfl, hr2, g2⟩
    have H2 := Lib.hid hr2; have G2 := Lib.hid g2; clear hr2 g2
    go_wp2_with fail
    go_ret
    exact ⟨1 + y, p + 2, by omega, by omega, rfl, H2.out, by omega, grown_trans G1.out G2.out⟩
  · go_wp2_with fail
    refine (pick_any r a len cap _ _ _ H1.out (by omega) (by omega) (by omega)).mono ?_
    rintro e w2 ⟨y, hy0, hy1, rfl, hr2, g2⟩
    have H2 := Lib.hid hr2; have G2 := Lib.hid g2; clear hr2 g2
    go_wp2_with fail
    refine (pick_any r a len cap _ _ _ H2.out (by omega) (by omega) (by omega)).mono ?_
    rintro e w3 ⟨z, hz0, hz1, rfl, hr3, g3⟩
    have H3 := Lib.hid hr3; have G3 := Lib.hid g3; clear hr3 g3
    go_wp2_with fail
    refine (pick_any r a len cap _ _ _ H3.out (by omega) (by omega) (by omega)).mono ?_
    rintro e w4 ⟨u, hu0, hu1, rfl, hr4, g4⟩
    have H4 := Lib.hid hr4; have G4 := Lib.hid g4; clear hr4 g4
    go_wp2_with fail
    refine (pick_any r a len cap _ _ _ H4.out (by omega) (by omega) (by omega)).mono ?_
    rintro e w5 ⟨v, hv0, hv1, rfl, hr5, g5⟩
    have H5 := Lib.hid hr5; have G5 := Lib.hid g5; clear hr5 g5
    go_wp2_with fail
    go_ret
    exact ⟨_, p + 5, by omega, by omega, rfl, H5.out, by omega, grown_trans G1.out (grown_trans G2.out (grown_trans G3.out (grown_trans G4.out G5.out)))⟩
end Go.Proofs.YtgdmmbibbdhlfaaDoor

/- The draws of chapter 1 (package spec): a text. -/
namespace Go.Proofs.YtgdmmbibbdhlfaaDoor
open Go.RowKit
set_option linter.unusedVariables false
set_option maxRecDepth 100000
theorem Rd.grownOther {w w' : World} {r : Nat} {a : Option Addr} {len cap p : Nat} (h : Rd w r a len cap p) (hg : w.grownBy w' none) : Rd w' r a len cap p :=
  ⟨by rw [hg.block r (lt_of_block' h.blk) (by simp)]; exact h.blk, h.small, fun i hi => by
    obtain ⟨b, off, y, ha, hb, hc, h0, h1⟩ := h.at' i hi
    exact ⟨b, off, y, ha, hb, hg.cell hc (by simp), h0, h1⟩⟩
theorem Rd.alloc {w : World} {r : Nat} {a : Option Addr} {len cap p : Nat} (h : Rd w r a len cap p) (o : Obj) : Rd (w.alloc o) r a len cap p := h.grownOther (World.grownBy_alloc w o none)
theorem Rd.below {w w' : World} {r : Nat} {a : Option Addr} {len cap p : Nat} (h : Rd w r a len cap p) (hg : Below w.heap.size w w') : Rd w' r a len cap p :=
  h.grownOther ⟨hg.os, hg.tape, hg.output, hg.size, fun k hk _ => hg.block k hk⟩
theorem grown_of_below {w w' : World} (r : Nat) (hg : Below w.heap.size w w') : w.grownBy w' (some r) := ⟨hg.os, hg.tape, hg.output, hg.size, fun k hk _ => hg.block k hk⟩
/-- n short strings in a row -/
def StrRow (w : World) (b n : Nat) : Prop := ∀ i, i < n → ∃ x : ByteArray, w.cell? ⟨b, i, none⟩ = some (.string x) ∧ x.size ≤ 30
theorem of_any (r : Nat) (a : Option Addr) (len cap : Nat) (p : Nat) (b n : Nat) (w : World) (h : Rd w r a len cap p) (hs : StrRow w b n) (hbr : b ≠ r) (hn : 1 ≤ n) (hn2 : n ≤ 1000) (hp : p ≤ 1000000) :
    Calls Tryd.prog 44 #[.pointer (some ⟨r, 0, none⟩), .slice (some ⟨b, 0, none⟩) n n] w fun e w' => ∃ x : ByteArray, x.size ≤ 30 ∧ e = .returned (.string x) ∧ Rd w' r a len cap (p + 1) ∧ w.grownBy w' (some r) := by
  have H := Lib.hid h; have HS := Lib.hid hs; clear h hs
  go_enter Tryd.func44, Tryd.ntmps44
  go_wp2_with fail
  refine (pick_any r a len cap p _ _ H.out (by omega) (by omega) (by omega)).mono ?_
  rintro e w1 ⟨x, hx0, hx1, rfl, hr1, g1⟩
  obtain ⟨k, rfl⟩ := Int.eq_ofNat_of_zero_le hx0
  obtain ⟨s, hc, hsz⟩ := HS.out k (by omega)
  have hc1 := g1.cell hc (by simp; omega)
  have H1 := Lib.hid hr1; have G1 := Lib.hid g1
  clear hr1 g1 hc
  go_wp2_with fail
  go_ret
  exact ⟨s, hsz, rfl, H1.out, G1.out⟩
theorem strRow_new (w : World) (l : List ByteArray) (T : TypeId) (h : ∀ x ∈ l, x.size ≤ 30) (fr : Nat × Nat) : StrRow (w.alloc (.cells (l.map Value.string).toArray T fr)) w.heap.size l.length := fun i hi => by
  refine ⟨l[i], ?_, h _ (List.getElem_mem _)⟩
  rw [cell_at (heap_alloc_new w _) (v := .string l[i])]
  simp [hi]
end Go.Proofs.YtgdmmbibbdhlfaaDoor

/- The draws of chapter 6 (package spec): a number of up to eight digits; DrawRankOf, DrawRankNoughts, DrawRankShort, DrawRankLong. -/
namespace Go.Proofs.YtgdmmbibbdhlfaaDoor
open Go.RowKit
set_option linter.unusedVariables false
set_option maxRecDepth 100000
set_option maxHeartbeats 1000000 in
theorem l92Eight_any (r : Nat) (a : Option Addr) (len cap : Nat) (p : Nat) (w : World) (h : Rd w r a len cap p) (hp : p ≤ 900000) :
    Calls Tryd.prog 37 #[.pointer (some ⟨r, 0, none⟩)] w fun e w' => ∃ (x : Int) (p' : Nat), -2 ≤ x ∧ x ≤ 199999999 ∧ e = .returned (.int .i64 x) ∧ Rd w' r a len cap p' ∧ p' ≤ p + 20 ∧ w.grownBy w' (some r) := by
  have H := Lib.hid h; clear h
  go_enter Tryd.func37, Tryd.ntmps37
  go_wp2_with fail
  refine (pick_any r a len cap p _ _ H.out (by omega) (by omega) (by omega)).mono ?_
  rintro e w1 ⟨k, hk0, hk1, rfl, hr1, g1⟩
  have H1 := Lib.hid hr1; have G1 := Lib.hid g1; clear hr1 g1
  go_wp2_with fail
  go_loopw [3, 5] (fun n i wr => ∃ (j p' : Nat) (x : Int), i = .int .i64 j ∧ (j : Int) ≤ k ∧ n = .int .i64 x ∧ 0 ≤ x ∧ x < ((10 ^ j : Nat) : Int) ∧ Rd wr r a len cap p' ∧ p' = p + 1 + 2 * j ∧ w.grownBy wr (some r)) (fun _ i _ => 9 - (intOf i).toNat)
  case atStart => exact ⟨0, p + 1, 0, rfl, by omega, rfl, by omega, by decide, H1.out, rfl, G1.out⟩
  case round =>
    obtain ⟨j, p', x, rfl, hj, rfl, hx0, hx1, hr, hp', g⟩ := hrel
    have HR := Lib.hid hr; have G := Lib.hid g; have Hp' := Lib.hid hp'
    have hp2 : p' ≤ 900017 := by omega
    clear hr g hp' H1 G1
    have e8 : 10 ^ j ≤ 10 ^ 8 := Nat.pow_le_pow_right (by omega) (by omega)
    have e9 : (10 : Nat) ^ 8 = 100000000 := by decide
    have hx2 : x < 100000000 := by omega
    by_cases hlt : (j : Int) < k
    · have hs : 10 ^ (j + 1) = 10 ^ j * 10 := Nat.pow_succ _ _
      have Hx : Hid (∀ d : Int, d ≤ 9 → 10 * x + d < ((10 ^ (j + 1) : Nat) : Int)) := fun d hd => by rw [hs]; omega
      clear hs e8 e9 hx1
      go_wp2_with fail
      refine (pick_any r a len cap _ _ _ HR.out (by omega) (by omega) (by omega)).mono ?_
      rintro e w2 ⟨y, hy0, hy1, rfl, hr2, g2⟩
      have H2 := Lib.hid hr2; have G2 := Lib.hid (grown_trans G.out g2); clear hr2 g2
      go_wp2_with fail
      refine (pick_any r a len cap _ _ _ H2.out (by omega) (by omega) (by omega)).mono ?_
      rintro e w3 ⟨z, hz0, hz1, rfl, hr3, g3⟩
      have H3 := Lib.hid hr3; have G3 := Lib.hid (grown_trans G2.out g3); clear hr3 g3
      rcases (show z = 0 ∨ z = 1 by omega) with rfl | rfl
      · go_wp2_with fail
        go_roundw
        case rel => exact ⟨j + 1, p' + 1 + 1, 10 * x + 0, by go_num, by omega, by go_num, by omega, Hx.out 0 (by omega), H3.out, by have := Hp'.out; omega, G3.out⟩
        case measure => simp [intOf]; omega
      · go_wp2_with fail
        go_roundw
        case rel => exact ⟨j + 1, p' + 1 + 1, 10 * x + y, by go_num, by omega, by go_num, by omega, Hx.out y (by omega), H3.out, by have := Hp'.out; omega, G3.out⟩
        case measure => simp [intOf]; omega
    · clear e8 e9 hx1
      go_wp2_with fail
      refine (pick_any r a len cap _ _ _ HR.out (by omega) (by omega) (by omega)).mono ?_
      rintro e w2 ⟨y, hy0, hy1, rfl, hr2, g2⟩
      have H2 := Lib.hid hr2; have G2 := Lib.hid (grown_trans G.out g2); clear hr2 g2
      go_wp2_with fail
      refine (pick_any r a len cap _ _ _ H2.out (by omega) (by omega) (by omega)).mono ?_
      rintro e w3 ⟨z, hz0, hz1, rfl, hr3, g3⟩
      have H3 := Lib.hid hr3; have G3 := Lib.hid (grown_trans G2.out g3); clear hr3 g3
      go_wp2_with fail
      go_ret
      exact ⟨_, p' + 1 + 1, by omega, by omega, rfl, H3.out, by have := Hp'.out; omega, G3.out⟩
end Go.Proofs.YtgdmmbibbdhlfaaDoor

/- The model's AlphaRead, AlphaAdd. -/
namespace Go.Proofs.YtgdmmbibbdhlfaaDoor
open Go.RowKit
set_option linter.unusedVariables false
set_option maxRecDepth 100000
/-- the sum after k rounds -/
def partA (l : List UInt8) (k : Nat) : Int := (if k = 0 then 0 else th l) + asum (l.take k)
theorem partA_zero (l : List UInt8) : partA l 0 = 0 := by simp [partA, asum]
theorem partA_bd (l : List UInt8) (k : Nat) (hk : k ≤ 6) : 0 ≤ partA l k ∧ partA l k ≤ 1000000 := by
  have h1 := th_bd l
  have h2 := asum_bd (l.take k)
  have h3 : (l.take k).length ≤ k := List.length_take_le _ _
  unfold partA
  split <;> omega
theorem partA_succ (l : List UInt8) (k : Nat) (h0 : 1 ≤ k) (h : k < l.length) : partA l (k + 1) = partA l k + av (l[k].toNat : Int) := by
  unfold partA
  rw [if_neg (by omega), if_neg (by omega), asum_take_succ l k h]
  omega
theorem partA_one (c d : UInt8) (r : List UInt8) (h : c = 39) : partA (c :: d :: r) 1 = 999 * av (d.toNat : Int) := by
  subst h
  unfold partA
  rw [th_two]
  have e : av ((39 : UInt8).toNat : Int) = 0 := by decide
  simp only [if_true, List.take_succ_cons, List.take_zero, asum, e]
  simp
theorem partA_one_no (c : UInt8) (r : List UInt8) (h : c ≠ 39 ∨ r = []) : partA (c :: r) 1 = av (c.toNat : Int) := by
  unfold partA
  have e : th (c :: r) = 0 := by
    match r with
    | [] => rfl
    | d :: q =>
      rw [th_two]
      rcases h with h | h
      · rw [if_neg h]
      · cases h
  rw [e]
  simp [asum]
theorem partA_end (l : List UInt8) (k : Nat) (hk : k = l.length) : partA l k = rdA l := by
  subst hk
  unfold partA rdA
  rw [List.take_length]
  split
  · rename_i h
    obtain rfl := List.eq_nil_of_length_eq_zero h
    rfl
  · rfl
theorem readR_fits (l : List UInt8) (v : Int) (h : l.length ≤ 6 → v = rdA l) (h1 : 1 ≤ v) (h2 : v ≤ 9999) (he : aof v.toNat = l) : alphaReadR l = .tuple #[.int .i64 v, .bool true] := by
  have hl : l.length ≤ 6 := by rw [← he]; have := aof_len v.toNat; omega
  have e := h hl
  subst e
  unfold alphaReadR isA
  rw [if_pos (by simp only [decide_eq_true_eq]; exact ⟨h1, h2, he⟩)]
theorem readR_unfit (l : List UInt8) (v : Int) (h : l.length ≤ 6 → v = rdA l) (hn : ¬ (1 ≤ v ∧ v ≤ 9999) ∨ aof v.toNat ≠ l) : alphaReadR l = .tuple #[.int .i64 0, .bool false] := by
  refine alphaReadR_not l fun hi => ?_
  have hl := isA_len l hi
  obtain ⟨a1, a2, a3⟩ := isA_of l hi
  have e := h (by omega)
  subst e
  rcases hn with hn | hn
  · exact hn ⟨a1, a2⟩
  · exact hn a3
theorem byte_at (l : List UInt8) (k : Nat) (c : UInt8) (h : l[k]? = some c) : ∀ h', ((((⟨l.toArray⟩ : ByteArray)[k]'h').toNat : Int)) = (c.toNat : Int) := by
  intro h'
  have e : (⟨l.toArray⟩ : ByteArray)[k]'h' = c := by
    have hk : k < l.length := h'
    rw [List.getElem?_eq_getElem hk] at h
    exact Option.some.inj h
  rw [e]
theorem readR_two (l : List UInt8) : ∃ (n : Int) (b : Bool), alphaReadR l = .tuple #[.int .i64 n, .bool b] ∧ isA l = b ∧ (b = true → rdA l = n ∧ 1 ≤ n ∧ n ≤ 9999) := by
  cases h : isA l with
  | true => exact ⟨_, _, alphaReadR_yes l h, rfl, fun _ => ⟨rfl, (isA_of l h).1, (isA_of l h).2.1⟩⟩
  | false => exact ⟨_, _, alphaReadR_not l (by rw [h]; simp), rfl, fun h => by cases h⟩
end Go.Proofs.YtgdmmbibbdhlfaaDoor

/- The draws of chapter 3 (package spec). -/
namespace Go.Proofs.YtgdmmbibbdhlfaaDoor
open Go.RowKit
set_option linter.unusedVariables false
set_option maxRecDepth 100000
theorem l91Great_any (r : Nat) (a : Option Addr) (len cap : Nat) (p : Nat) (w : World) (h : Rd w r a len cap p) (hp : p ≤ 900000) :
    Calls Tryd.prog 38 #[.pointer (some ⟨r, 0, none⟩)] w fun e w' => ∃ (x : Int) (p' : Nat), -20000 ≤ x ∧ x ≤ 20000 ∧ e = .returned (.int .i64 x) ∧ Rd w' r a len cap p' ∧ p' ≤ p + 6 ∧ w.grownBy w' (some r) := by
  have H := Lib.hid h; clear h
  go_enter Tryd.func38, Tryd.ntmps38
  go_wp2_with fail
  refine (pick_any r a len cap p _ _ H.out (by omega) (by omega) (by omega)).mono ?_
  rintro e w1 ⟨x, hx0, hx1, rfl, hr1, g1⟩
  have H1 := Lib.hid hr1; have G1 := Lib.hid g1; clear hr1 g1
  go_wp2_with fail
  refine (pick_any r a len cap _ _ _ H1.out (by omega) (by omega) (by omega)).mono ?_
  rintro e w2 ⟨y, hy0, hy1, rfl, hr2, g2⟩
  have H2 := Lib.hid hr2; have G2 := Lib.hid (grown_trans G1.out g2); clear hr2 g2
  go_wp2_with fail
  refine (pick_any r a len cap _ _ _ H2.out (by omega) (by omega) (by omega)).mono ?_
  rintro e w3 ⟨z, hz0, hz1, rfl, hr3, g3⟩
  have H3 := Lib.hid hr3; have G3 := Lib.hid (grown_trans G2.out g3); clear hr3 g3
  go_wp2_with fail
  refine (pick_any r a len cap _ _ _ H3.out (by omega) (by omega) (by omega)).mono ?_
  rintro e w4 ⟨u, hu0, hu1, rfl, hr4, g4⟩
  have H4 := Lib.hid hr4; have G4 := Lib.hid (grown_trans G3.out g4); clear hr4 g4
  go_wp2_with fail
  refine (pick_any r a len cap _ _ _ H4.out (by omega) (by omega) (by omega)).mono ?_
  rintro e w5 ⟨v, hv0, hv1, rfl, hr5, g5⟩
  have H5 := Lib.hid hr5; have G5 := Lib.hid (grown_trans G4.out g5); clear hr5 g5
  go_wp2_with fail
  refine (pick_any r a len cap _ _ _ H5.out (by omega) (by omega) (by omega)).mono ?_
  rintro e w6 ⟨t, ht0, ht1, rfl, hr6, g6⟩
  have H6 := Lib.hid hr6; have G6 := Lib.hid (grown_trans G5.out g6); clear hr6 g6
  go_wp2_with fail
  go_ret
  exact ⟨_, p + 6, by omega, by omega, rfl, H6.out, by omega, G6.out⟩
def all27 : ByteArray := ⟨#[42, 97, 98, 99, 100, 101, 102, 103, 104, 105, 106, 107, 108, 109, 110, 111, 112, 113, 114, 115, 116, 117, 118, 119, 120, 121, 122]⟩
theorem all27_size : all27.size = 27 := rfl
theorem all27_cut (k : Nat) (h : k < 27) : (all27.extract k (k + 1)).size = 1 := by
  rw [ByteArray.size_extract, all27_size]; omega
end Go.Proofs.YtgdmmbibbdhlfaaDoor

/- The draws of chapter 8 (package spec). -/
namespace Go.Proofs.YtgdmmbibbdhlfaaDoor
open Go.RowKit
set_option linter.unusedVariables false
set_option maxRecDepth 100000
set_option maxHeartbeats 1000000 in
theorem l92Kind_any (r : Nat) (a : Option Addr) (l c : Nat) (p : Nat) (w : World) (h : Rd w r a l c p) (hp : p ≤ 900000) :
    Calls Tryd.prog 29 #[.pointer (some ⟨r, 0, none⟩)] w fun e w' => ∃ x : ByteArray, x.size ≤ 30 ∧ e = .returned (.string x) ∧ Rd w' r a l c (p + 1) ∧ w.grownBy w' (some r) := by
  have H := Lib.hid h; clear h
  have hrow := strRow_new w [⟨#[114]⟩, ⟨#[97]⟩, ⟨#[99]⟩, ⟨#[107]⟩, ⟨#[100]⟩, ⟨#[114]⟩, ⟨#[97]⟩, ⟨#[99]⟩, ⟨#[107]⟩, ⟨#[100]⟩, ⟨#[120]⟩, ⟨#[]⟩, ⟨#[114, 114]⟩] 9 (by decide) (0, 0)
  have HRow := Lib.hid hrow; clear hrow
  go_enter Tryd.func29, Tryd.ntmps29
  go_wp2_with fail
  refine (of_any _ a l c p w.heap.size 13 _ (H.out.alloc _) HRow.out (by have := lt_of_block' H.out.blk; omega) (by omega) (by omega) (by omega)).mono ?_
  rintro e w5 ⟨z, hz, rfl, hr5, g5⟩
  have H5 := Lib.hid hr5
  have G5 := Lib.hid (grown_trans (World.grownBy_alloc w _ (some _)) g5); clear hr5 g5
  go_wp2_with fail
  go_ret
  exact ⟨z, hz, rfl, H5.out, G5.out⟩
set_option maxHeartbeats 1000000 in
theorem l92Any_any (r : Nat) (a : Option Addr) (l c : Nat) (p : Nat) (w : World) (h : Rd w r a l c p) (hp : p ≤ 899000) :
    Calls Tryd.prog 19 #[.pointer (some ⟨r, 0, none⟩)] w fun e w' => ∃ (x : Int) (p' : Nat), -20000 ≤ x ∧ x ≤ 199999999 ∧ e = .returned (.int .i64 x) ∧ Rd w' r a l c p' ∧ p' ≤ p + 21 ∧ w.grownBy w' (some r) := by
  have H := Lib.hid h; clear h
  go_enter Tryd.func19, Tryd.ntmps19
  go_wp2_with fail
  refine (pick_any _ a l c p _ _ H.out (by omega) (by omega) (by omega)).mono ?_
  rintro e w2 ⟨u, hu0, hu1, rfl, hr2, g2⟩
  have H2 := Lib.hid hr2; have G2 := Lib.hid g2; clear hr2 g2
  by_cases u0 : u = 0
  · subst u0
    go_wp2_with fail
    refine (l92Eight_any _ a l c (p + 1) _ H2.out (by omega)).mono ?_
    rintro e w3 ⟨n, p', hn0, hn1, rfl, hr3, hp', g3⟩
    have H3 := Lib.hid hr3; have G3 := Lib.hid (grown_trans G2.out g3); clear hr3 g3
    go_wp2_with fail
    go_ret
    exact ⟨n, p', by omega, by omega, rfl, H3.out, by omega, G3.out⟩
  · by_cases u1 : u = 1
    · subst u1
      go_wp2_with fail
      refine (l91Great_any _ a l c (p + 1) _ H2.out (by omega)).mono ?_
      rintro e w3 ⟨n, p', hn0, hn1, rfl, hr3, hp', g3⟩
      have H3 := Lib.hid hr3; have G3 := Lib.hid (grown_trans G2.out g3); clear hr3 g3
      go_wp2_with fail
      go_ret
      exact ⟨n, p', by omega, by omega, rfl, H3.out, by omega, G3.out⟩
    · have q0 : (u == 0) = false := by rw [beq_eq_false_iff_ne]; exact u0
      have q1 : (u == 1) = false := by rw [beq_eq_false_iff_ne]; exact u1
      go_wp2_with fail
      refine (l91Small_any _ a l c (p + 1) _ H2.out (by omega)).mono ?_
      rintro e w3 ⟨n, p', hn0, hn1, rfl, hr3, hp', g3⟩
      have H3 := Lib.hid hr3; have G3 := Lib.hid (grown_trans G2.out g3); clear hr3 g3
      go_wp2_with fail
      go_ret
      exact ⟨n, p', by omega, by omega, rfl, H3.out, by omega, G3.out⟩
theorem drawChangeOf_any (a : Option Addr) (len cap : Nat) (zs : List Int) (w : World) (h : IsRow .u8 w a len cap zs) :
    Calls Tryd.prog 16 #[.slice a len cap] w fun e w' => ∃ (k : ByteArray) (x : Int), k.size ≤ 30 ∧ -20000 ≤ x ∧ x ≤ 199999999 ∧ e = .returned (.tuple #[.string k, .int .i64 x]) ∧ Below w.heap.size w w' := by
  have H := Lib.hid h; clear h
  go_enter Tryd.func16, Tryd.ntmps16
  go_wp2_with fail
  refine (l6Open_any a len cap zs _ H.out).mono ?_
  rintro e w1 ⟨a', l, c, rfl, hr, g1⟩
  have H1 := Lib.hid hr; have G1 := Lib.hid g1; clear hr g1
  go_wp2_with fail
  refine (l92Kind_any _ a' l c 0 _ H1.out (by omega)).mono ?_
  rintro e w2 ⟨k, hk, rfl, hr2, g2⟩
  have H2 := Lib.hid hr2; have G2 := Lib.hid g2; clear hr2 g2
  go_wp2_with fail
  refine (l92Any_any _ a' l c _ _ H2.out (by omega)).mono ?_
  rintro e w3 ⟨n, p3, hn0, hn1, rfl, hr3, hp3, g3⟩
  have G3 := Lib.hid (bel_grown G1.out (grown_trans G2.out g3) G1.out.size (Nat.le_refl _)); clear hr3 g3
  go_wp2_with fail
  go_ret2
  exact ⟨k, n, hk, hn0, hn1, rfl, G3.out⟩
theorem drawChangeLength_any (a : Option Addr) (len cap : Nat) (zs : List Int) (w : World) (h : IsRow .u8 w a len cap zs) :
    Calls Tryd.prog 8 #[.slice a len cap] w fun e w' => ∃ (k : ByteArray) (x : Int), k.size ≤ 30 ∧ -20000 ≤ x ∧ x ≤ 199999999 ∧ e = .returned (.tuple #[.string k, .int .i64 x]) ∧ Below w.heap.size w w' := by
  have H := Lib.hid h; clear h
  go_enter Tryd.func8, Tryd.ntmps8
  go_wp2_with fail
  refine (drawChangeOf_any a len cap zs _ H.out).mono ?_
  rintro e w1 ⟨k, n, hk, hn0, hn1, rfl, g1⟩
  have G1 := Lib.hid g1; clear g1
  go_wp2_with fail
  go_ret2
  exact ⟨k, n, hk, hn0, hn1, rfl, G1.out⟩
theorem drawChangeShort_any (a : Option Addr) (len cap : Nat) (zs : List Int) (w : World) (h : IsRow .u8 w a len cap zs) :
    Calls Tryd.prog 12 #[.slice a len cap] w fun e w' => ∃ x : Int, -20000 ≤ x ∧ x ≤ 199999999 ∧ e = .returned (.int .i64 x) ∧ Below w.heap.size w w' := by
  have H := Lib.hid h; clear h
  go_enter Tryd.func12, Tryd.ntmps12
  go_wp2_with fail
  refine (l6Open_any a len cap zs _ H.out).mono ?_
  rintro e w1 ⟨a', l, c, rfl, hr, g1⟩
  have H1 := Lib.hid hr; have G1 := Lib.hid g1; clear hr g1
  go_wp2_with fail
  refine (l92Any_any _ a' l c 0 _ H1.out (by omega)).mono ?_
  rintro e w2 ⟨n, p2, hn0, hn1, rfl, hr2, hp2, g2⟩
  have G2 := Lib.hid (bel_grown G1.out g2 G1.out.size (Nat.le_refl _)); clear hr2 g2
  go_wp2_with fail
  go_ret
  exact ⟨n, hn0, hn1, rfl, G2.out⟩
end Go.Proofs.YtgdmmbibbdhlfaaDoor

/- Changes, plain: which kinds are shortest, which read a text. -/
namespace Go.Proofs.YtgdmmbibbdhlfaaDoor
set_option linter.unusedVariables false
set_option maxRecDepth 100000
theorem kb_inj : ∀ i : Fin 5, ∀ j : Fin 5, kb i.val = kb j.val → i = j := by decide
theorem kb_ne {i j : Nat} (hi : i < 5) (hj : j < 5) (h : kb i = kb j) : i = j := by
  have := kb_inj ⟨i, hi⟩ ⟨j, hj⟩ h
  exact congrArg Fin.val this
/-- what is known of the kinds with the least length -/
structure ShI (n : Int) (i : Nat) (O : List UInt8) (B : Nat) : Prop where
  none : O = [] → ∀ j, j < i → lnO [kb j] n = none
  first : O ≠ [] → ∃ j, j < i ∧ O.take 1 = [kb j] ∧ lnO [kb j] n = some B
  mem : ∀ c, c ∈ O → ∃ j, j < i ∧ c = kb j ∧ lnO [kb j] n = some B
  least : O ≠ [] → ∀ j, j < i → ∀ k, lnO [kb j] n = some k → B ≤ k ∧ (k = B → kb j ∈ O)
theorem shN_inv (n : Int) : ∀ i, i ≤ 5 → ShI n i (shN n i).1 (shN n i).2
  | 0, _ => ⟨(fun _ j h => by omega), (fun h => absurd rfl h), (fun c h => by cases h), (fun h => absurd rfl h)⟩
  | i + 1, hi => by
    have ih := shN_inv n i (by omega)
    cases hk : lnO [kb i] n with
    | none =>
      rw [shN_none n i hk]
      refine ⟨fun h j hj => ?_, fun h => ?_, fun c hc => ?_, fun h j hj k hjk => ?_⟩
      · by_cases e : j = i
        · subst e; exact hk
        · exact ih.none h j (by omega)
      · obtain ⟨j, h1, h2⟩ := ih.first h
        exact ⟨j, by omega, h2⟩
      · obtain ⟨j, h1, h2⟩ := ih.mem c hc
        exact ⟨j, by omega, h2⟩
      · by_cases e : j = i
        · subst e; rw [hk] at hjk; cases hjk
        · exact ih.least h j (by omega) k hjk
    | some k =>
      rw [shN_some n i k hk]
      generalize shN n i = s at *
      obtain ⟨O, B⟩ := s
      simp only at ih ⊢
      by_cases h1 : O = [] ∨ k < B
      · rw [if_pos h1]
        refine ⟨(fun h => by cases h), (fun _ => ⟨i, by omega, rfl, hk⟩), (fun c hc => ⟨i, by omega, by simpa using hc, hk⟩), fun _ j hj k' hjk => ?_⟩
        by_cases e : j = i
        · subst e
          rw [hk] at hjk
          obtain rfl := Option.some.inj hjk
          exact ⟨Nat.le_refl _, fun _ => by simp⟩
        · rcases h1 with h1 | h1
          · have := ih.none h1 j (by omega)
            rw [this] at hjk; cases hjk
          · by_cases hO : O = []
            · have := ih.none hO j (by omega)
              rw [this] at hjk; cases hjk
            · have := (ih.least hO j (by omega) k' hjk).1
              exact ⟨by show k ≤ k'; omega, fun e => by have e : k' = k := e; omega⟩
      · rw [if_neg h1]
        have hO : O ≠ [] := fun e => h1 (.inl e)
        by_cases h2 : k = B
        · rw [if_pos h2]
          subst h2
          refine ⟨fun h => ?_, fun _ => ?_, fun c hc => ?_, fun _ j hj k' hjk => ?_⟩
          · have : (O ++ [kb i]) = [] := h
            simp at this
          · obtain ⟨j, h1, h3, h4⟩ := ih.first hO
            refine ⟨j, by omega, ?_, h4⟩
            show (O ++ [kb i]).take 1 = _
            rw [List.take_append_of_le_length (List.length_pos_iff.2 hO)]
            exact h3
          · rcases List.mem_append.1 hc with hc | hc
            · obtain ⟨j, h1, h3⟩ := ih.mem c hc
              exact ⟨j, by omega, h3⟩
            · exact ⟨i, by omega, by simpa using hc, hk⟩
          · by_cases e : j = i
            · subst e
              rw [hk] at hjk
              obtain rfl := Option.some.inj hjk
              exact ⟨Nat.le_refl _, fun _ => by show kb j ∈ O ++ [kb j]; simp⟩
            · obtain ⟨q1, q2⟩ := ih.least hO j (by omega) k' hjk
              exact ⟨q1, fun e => List.mem_append_left _ (q2 e)⟩
        · rw [if_neg h2]
          refine ⟨fun h => absurd h hO, fun h => ?_, fun c hc => ?_, fun _ j hj k' hjk => ?_⟩
          · obtain ⟨j, h1, h3⟩ := ih.first h
            exact ⟨j, by omega, h3⟩
          · obtain ⟨j, h1, h3⟩ := ih.mem c hc
            exact ⟨j, by omega, h3⟩
          · by_cases e : j = i
            · subst e
              rw [hk] at hjk
              obtain rfl := Option.some.inj hjk
              have : ¬ k < B := fun e => h1 (.inr e)
              exact ⟨by show B ≤ k; omega, fun e => absurd e h2⟩
            · exact ih.least hO j (by omega) k' hjk
theorem shN_len (n : Int) : ∀ i, (shN n i).1.length ≤ i
  | 0 => Nat.le_refl _
  | i + 1 => by
    have ih := shN_len n i
    cases hk : lnO [kb i] n with
    | none => rw [shN_none n i hk]; omega
    | some k =>
      rw [shN_some n i k hk]
      split
      · show 1 ≤ _; omega
      · split
        · rw [List.length_append]; show _ + 1 ≤ _; omega
        · omega
theorem shN_bd (n : Int) : ∀ i, (shN n i).2 ≤ 59
  | 0 => Nat.zero_le _
  | i + 1 => by
    have ih := shN_bd n i
    cases hk : lnO [kb i] n with
    | none => rw [shN_none n i hk]; exact ih
    | some k =>
      have := (lnO_bd _ n k hk).2
      rw [shN_some n i k hk]
      split
      · exact this
      · split
        · exact this
        · exact ih
/-- is a kind among the shortest ones: what the law asks -/
theorem shN_law (n : Int) (i : Nat) (hi : i < 5) (hO : (shN n 5).1 ≠ []) : (∀ k, lnO [kb i] n = some k → (kb i ∈ (shN n 5).1 → k = (shN n 5).2) ∧ (kb i ∉ (shN n 5).1 → (shN n 5).2 < k)) ∧ (lnO [kb i] n = none → kb i ∉ (shN n 5).1) := by
  have h := shN_inv n 5 (Nat.le_refl _)
  generalize shN n 5 = s at *
  obtain ⟨O, B⟩ := s
  simp only at h hO ⊢
  refine ⟨fun k hk => ⟨fun hm => ?_, fun hm => ?_⟩, fun hk hm => ?_⟩
  · obtain ⟨j, hj, e, hb⟩ := h.mem _ hm
    obtain rfl := kb_ne hi hj e
    rw [hk] at hb
    exact Option.some.inj hb
  · obtain ⟨q1, q2⟩ := h.least hO i hi k hk
    rcases Nat.lt_or_ge B k with h' | h'
    · exact h'
    · exact absurd (q2 (by omega)) hm
  · obtain ⟨j, hj, e, hb⟩ := h.mem _ hm
    obtain rfl := kb_ne hi hj e
    rw [hk] at hb
    cases hb
end Go.Proofs.YtgdmmbibbdhlfaaDoor

/- The drawn laws of chapter 8: their walks (printed by genyk.py). -/
namespace Go.Proofs.YtgdmmbibbdhlfaaDoor
open Go.RowKit
set_option linter.unusedVariables false
set_option maxRecDepth 100000
set_option maxHeartbeats 4000000 in
theorem wFnLength (a : Option Addr) (len cap : Nat) (z : List Int) (u0 : World) (h0 : IsRow .u8 u0 a len cap z) (hTB : TB u0) : Calls Tryd.prog 3 #[.slice a len cap] u0 fun e w' => e = .returned (.bool true) ∧ Below u0.heap.size u0 w' := by
  have H0 := Lib.hid h0; have HR := Lib.hid hTB; clear h0 hTB
  by_cases big : 1048576 < len
  · go_enter Tryd.func3, Tryd.ntmps3
    go_wp2_with fail
    go_ret
    exact ⟨rfl, Below.refl _ _⟩
  go_enter Tryd.func3, Tryd.ntmps3
  go_wp2_with fail
  refine (drawChangeLength_any a len cap z _ H0.out).mono ?_
  rintro e u1 ⟨ks, n, hks, hn0, hn1, rfl, hb⟩
  have HR1 := Lib.hid (TB.step HR.out hb)
  have G1 := Lib.hid hb; clear hb H0 big HR
  obtain ⟨K, rfl, hKl⟩ := bytes_list8 ks
  have hK : K.length ≤ 1048576 := by omega
  clear hKl hks
  have C1 := Lib.hid (fun (w : World) (h : TB w) => iChangeLength_any K n w h ⟨by omega, by omega⟩ hK)
  have C2 := Lib.hid (fun (w : World) (_ : TB w) => sChangeLength_any K n w)
  obtain ⟨x, b, hx, h1, h2⟩ := oV_two (chO K n)
  cases b with
  | true =>
    have hv : iV (lnO K n) = .tuple #[.int .i64 x.length, .bool true] := by unfold lnO; rw [h1 rfl]; rfl
    obtain ⟨hl1, hl2⟩ := chO_len K n x (h1 rfl)
    have C3 := Lib.hid (fun (w : World) (h : TB w) => iChangeOf_any K n w h ⟨by omega, by omega⟩ hK)
    rw [hv] at C1 C2
    rw [hx] at C3
    have hz : (1 : Int) ≤ (x.length : Int) := by omega
    clear hx h1 h2 hv
    go_wp2_with fail
    refine (C1.out _ HR1.out).mono ?_
    rintro e u2 ⟨rfl, hb⟩
    have HR2 := Lib.hid (TB.step HR1.out hb)
    have G2 := Lib.hid (bel_chain G1.out hb); clear hb C1
    go_wp2_with fail
    refine (C2.out _ HR2.out).mono ?_
    rintro e u3 ⟨rfl, hb⟩
    have HR3 := Lib.hid (TB.step HR2.out hb)
    have G3 := Lib.hid (bel_chain G2.out hb); clear hb C2
    go_wp2_with fail
    refine (C3.out _ HR3.out).mono ?_
    rintro e u4 ⟨rfl, hb⟩
    have HR4 := Lib.hid (TB.step HR3.out hb)
    have G4 := Lib.hid (bel_chain G3.out hb); clear hb C3
    go_wp2_with fail
    go_ret
    exact ⟨rfl, G4.out⟩
  | false =>
    have hv : iV (lnO K n) = .tuple #[.int .i64 0, .bool false] := by unfold lnO; rw [(h2 rfl).1]; rfl
    rw [hv] at C1 C2
    clear hx h1 h2 hv
    go_wp2_with fail
    refine (C1.out _ HR1.out).mono ?_
    rintro e u2 ⟨rfl, hb⟩
    have HR2 := Lib.hid (TB.step HR1.out hb)
    have G2 := Lib.hid (bel_chain G1.out hb); clear hb C1
    go_wp2_with fail
    refine (C2.out _ HR2.out).mono ?_
    rintro e u3 ⟨rfl, hb⟩
    have HR3 := Lib.hid (TB.step HR2.out hb)
    have G3 := Lib.hid (bel_chain G2.out hb); clear hb C2
    go_wp2_with fail
    go_ret
    exact ⟨rfl, G3.out⟩
set_option maxHeartbeats 4000000 in
theorem wFnChangeShort (a : Option Addr) (len cap : Nat) (z : List Int) (u0 : World) (h0 : IsRow .u8 u0 a len cap z) (hTB : TB u0) : Calls Tryd.prog 4 #[.slice a len cap] u0 fun e w' => e = .returned (.bool true) ∧ Below u0.heap.size u0 w' := by
  have H0 := Lib.hid h0; have HR := Lib.hid hTB; clear h0 hTB
  by_cases big : 1048576 < len
  · go_enter Tryd.func4, Tryd.ntmps4
    go_wp2_with fail
    go_ret
    exact ⟨rfl, Below.refl _ _⟩
  go_enter Tryd.func4, Tryd.ntmps4
  go_wp2_with fail
  refine (drawChangeShort_any a len cap z _ H0.out).mono ?_
  rintro e u1 ⟨n, hn0, hn1, rfl, hb⟩
  have HR1 := Lib.hid (TB.step HR.out hb)
  have G1 := Lib.hid hb; clear hb H0 big HR
  have C1 := Lib.hid (fun (w : World) (h : TB w) => iChangeShort_any n w h ⟨by omega, by omega⟩)
  have C2 := Lib.hid (fun (w : World) (_ : TB w) => sChangeShort_any n w)
  rw [show shV n = .tuple #[.string ⟨(shN n 5).1.toArray⟩, .bool ((shN n 5).1 != [])] from rfl] at C1 C2
  have hi := shN_inv n 5 (Nat.le_refl _)
  have hOl := shN_len n 5
  have HL := Lib.hid (fun i hi hO => shN_law n i hi hO)
  have hB := shN_bd n 5
  have hn64 : I64Ok n := ⟨by omega, by omega⟩
  have HN := Lib.hid hn64; clear hn64
  generalize (shN n 5).1 = O at *
  generalize (shN n 5).2 = B at *
  by_cases hO : O = []
  · subst hO
    rw [show (([] : List UInt8) != []) = false from rfl] at C1 C2
    clear hi HL
    go_wp2_with fail
    refine (C1.out _ HR1.out).mono ?_
    rintro e u2 ⟨rfl, hb⟩
    have HR2 := Lib.hid (TB.step HR1.out hb)
    have G2 := Lib.hid (bel_chain G1.out hb); clear hb C1
    go_wp2_with fail
    refine (C2.out _ HR2.out).mono ?_
    rintro e u3 ⟨rfl, hb⟩
    have HR3 := Lib.hid (TB.step HR2.out hb)
    have G3 := Lib.hid (bel_chain G2.out hb); clear hb C2
    go_wp2_with fail
    go_ret
    exact ⟨rfl, G3.out⟩
  · obtain ⟨j0, hj0, ht, hl0⟩ := hi.first hO
    have HL := Lib.hid (fun i hi => HL.out i hi hO)
    have hne : (O != []) = true := by rw [bne_iff_ne]; exact hO
    have hpos : 1 ≤ O.length := List.length_pos_iff.2 hO
    rw [hne] at C1 C2
    have C3 : Hid (∀ w : World, TB w → Calls Tryd.prog 9 #[.string ((⟨O.toArray⟩ : ByteArray).extract 0 1), .int .i64 n] w fun e w' => e = .returned (.tuple #[.int .i64 B, .bool true]) ∧ Below w.heap.size w w') := Lib.hid fun w h => by
      have := iChangeLength_any [kb j0] n w h HN.out (by show 1 ≤ 1048576; decide)
      rw [hl0] at this
      rw [(ext_take O 1).1, ht]
      exact this
    have C4 := Lib.hid (fun (i : Nat) (hi : i < 5) (w : World) (h : TB w) => (show Calls Tryd.prog 9 #[.string ((⟨#[114, 97, 99, 107, 100]⟩ : ByteArray).extract i (i + 1)), .int .i64 n] w fun e w' => e = .returned (iV (lnO [kb i] n)) ∧ Below w.heap.size w w' from by rw [kcut i hi]; exact iChangeLength_any [kb i] n w h HN.out (by show 1 ≤ 1048576; decide)))
    clear hi hj0 ht hl0 hne hO
    go_wp2_with fail
    refine (C1.out _ HR1.out).mono ?_
    rintro e u2 ⟨rfl, hb⟩
    have HR2 := Lib.hid (TB.step HR1.out hb)
    have G2 := Lib.hid (bel_chain G1.out hb); clear hb C1
    go_wp2_with fail
    refine (C2.out _ HR2.out).mono ?_
    rintro e u3 ⟨rfl, hb⟩
    have HR3 := Lib.hid (TB.step HR2.out hb)
    have G3 := Lib.hid (bel_chain G2.out hb); clear hb C2
    go_wp2_with fail
    refine (C3.out _ HR3.out).mono ?_
    rintro e u4 ⟨rfl, hb⟩
    have HR4 := Lib.hid (TB.step HR3.out hb)
    have G4 := Lib.hid (bel_chain G3.out hb); clear hb C3
    go_wp2_with fail
    go_loopw [11] (fun i wr => ∃ k : Nat, k ≤ 5 ∧ i = .int .i64 k ∧ Hid (TB wr) ∧ Hid (Below u0.heap.size u0 wr)) (fun i _ => 5 - (intOf i).toNat)
    case atStart => exact ⟨0, by omega, rfl, HR4, G4⟩
    case round =>
      obtain ⟨k, hk, rfl, HT, HW⟩ := hrel
      by_cases hlt : k < 5
      · have i1 : (k : Int) < 5 := by omega
        have D := Lib.hid (fun w h => C4.out k hlt w h)
        obtain ⟨hs, hno⟩ := HL.out k hlt
        have hkb : ∀ h', ((((⟨#[114, 97, 99, 107, 100]⟩ : ByteArray)[k]'h').toNat : Int)) = ((kb k).toNat : Int) := fun h' => kbyte k hlt h'
        have hs2 : k < (⟨#[114, 97, 99, 107, 100]⟩ : ByteArray).size := hlt
        obtain ⟨q, b, hv, hq⟩ : ∃ (q : Nat) (b : Bool), iV (lnO [kb k] n) = .tuple #[.int .i64 q, .bool b] ∧ ((b = true ∧ (kb k ∈ O → q = B) ∧ (kb k ∉ O → B < q)) ∨ (b = false ∧ kb k ∉ O)) := by
          cases ho : lnO [kb k] n with
          | none => exact ⟨0, false, rfl, .inr ⟨rfl, hno ho⟩⟩
          | some q => exact ⟨q, true, rfl, .inl ⟨rfl, hs q ho⟩⟩
        rw [hv] at D
        have HQ := Lib.hid hq
        clear hs hno hv hq
        go_wp2_with fail
        refine (D.out _ HT.out).mono ?_
        rintro e u5 ⟨rfl, g2⟩
        have HT2 := Lib.hid (TB.step HT.out g2)
        have HW2 := Lib.hid (HW.out.trans (g2.mono HW.out.size)); clear g2
        go_wp2_with fail
        go_loopw [14, 15] (fun x j wz => ∃ m : Nat, m ≤ O.length ∧ j = .int .i64 m ∧ x = .bool ((O.take m).contains (kb k)) ∧ Hid (TB wz) ∧ Hid (Below u0.heap.size u0 wz)) (fun _ j _ => O.length - (intOf j).toNat)
        case atStart => exact ⟨0, by omega, rfl, rfl, HT2, HW2⟩
        case round =>
          obtain ⟨m, hm, rfl, rfl, HT3, HW3⟩ := hrel
          by_cases hml : m < O.length
          · have m1 : (m : Int) < (O.length : Int) := by omega
            have hsz : m < (⟨O.toArray⟩ : ByteArray).size := hml
            obtain ⟨c, hc⟩ : ∃ c, O[m] = c := ⟨_, rfl⟩
            have hb1 : ∀ h', ((((⟨O.toArray⟩ : ByteArray)[m]'h').toNat : Int)) = (c.toNat : Int) := fun h' => rbytes_at O m hml c hc h'
            have HC : Hid ((O.take (m + 1)).contains (kb k) = ((O.take m).contains (kb k) || (kb k == c))) := Lib.hid (by
              rw [List.take_succ_eq_append_getElem hml, hc, Bool.eq_iff_iff]
              simp)
            clear hc
            cases hcon : (O.take m).contains (kb k) with
            | true =>
              rw [hcon, Bool.true_or] at HC
              go_wp2_with fail
              go_quiet (fail)
              go_wp2_with fail
              go_roundw
              case rel => exact ⟨m + 1, by omega, by go_num, by rw [HC.out], Lib.hid (TB.step HT3.out (bel_drewN (Below.refl _ _) _)), Lib.hid (bel_drewN HW3.out _)⟩
              case measure => simp [intOf]; omega
            | false =>
              rw [hcon, Bool.false_or] at HC
              by_cases hcd : kb k = c
              · subst hcd
                rw [show (kb k == kb k) = true from beq_self_eq_true _] at HC
                go_wp2_with fail
                go_quiet (fail)
                go_wp2_with fail
                go_roundw
                case rel => exact ⟨m + 1, by omega, by go_num, by rw [HC.out], Lib.hid (TB.step HT3.out (bel_drewN (Below.refl _ _) _)), Lib.hid (bel_drewN HW3.out _)⟩
                case measure => simp [intOf]; omega
              · rw [show (kb k == c) = false by rw [beq_eq_false_iff_ne]; exact hcd] at HC
                have hcn : ((c.toNat : Int) == ((kb k).toNat : Int)) = false := by
                  rw [beq_eq_false_iff_ne]
                  intro e
                  exact hcd (UInt8.toNat_inj.1 (by omega))
                clear hcd
                go_wp2_with fail
                go_quiet (fail)
                go_wp2_with fail
                go_roundw
                case rel => exact ⟨m + 1, by omega, by go_num, by rw [HC.out], Lib.hid (TB.step HT3.out (bel_drewN (Below.refl _ _) _)), Lib.hid (bel_drewN HW3.out _)⟩
                case measure => simp [intOf]; omega
          · obtain rfl : m = O.length := by omega
            rw [List.take_length]
            have hmem : O.contains (kb k) = true ↔ kb k ∈ O := by simp
            rcases HQ.out with ⟨rfl, hq1, hq2⟩ | ⟨rfl, hq1⟩
            · by_cases hc : kb k ∈ O
              · rw [hmem.2 hc]
                obtain rfl := hq1 hc
                clear hq2 hmem
                go_wp2_with fail
                go_roundw
                case rel => exact ⟨k + 1, by omega, by go_num, HT3, HW3⟩
                case measure => simp [intOf]; omega
              · rw [show O.contains (kb k) = false by rw [Bool.eq_false_iff]; exact fun h => hc (hmem.1 h)]
                have hlt2 := hq2 hc
                have hz : ¬ (q : Int) ≤ (B : Int) := by omega
                clear hq1 hq2 hmem
                go_wp2_with fail
                go_roundw
                case rel => exact ⟨k + 1, by omega, by go_num, HT3, HW3⟩
                case measure => simp [intOf]; omega
            · rw [show O.contains (kb k) = false by rw [Bool.eq_false_iff]; exact fun h => hq1 (hmem.1 h)]
              clear hmem
              go_wp2_with fail
              go_roundw
              case rel => exact ⟨k + 1, by omega, by go_num, HT3, HW3⟩
              case measure => simp [intOf]; omega
      · obtain rfl : k = 5 := by omega
        go_wp2_with fail
        go_ret
        exact ⟨rfl, HW.out⟩
end Go.Proofs.YtgdmmbibbdhlfaaDoor
