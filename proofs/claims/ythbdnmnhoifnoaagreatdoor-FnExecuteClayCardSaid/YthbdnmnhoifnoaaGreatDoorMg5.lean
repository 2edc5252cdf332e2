/- Several texts of mine, one after another: ZJ, D, Dr, Ds, CD, CE, RSl, RIl, Wa, ZK, ZL, Fw, GS, Lv, YS, ZX, ZS, Laid, RSp, LM, LI, LL, Dt, ZR. -/
import Derived.Test.YthbdnmnhoifnoaaGreatDoorMg1
import Derived.Test.YthbdnmnhoifnoaaGreatDoorMg2
import Derived.Test.YthbdnmnhoifnoaaGreatDoorMg4
import Derived.Test.YthbdnmnhoifnoaaGreatDoorRows
import Derived.Test.YthbdnmnhoifnoaaGreatDoorMg3
import Derived.ProofKit
import Derived.OpenShut
import Derived.JoinedOf
import Derived.SizedLaws
import Derived.Handed
import Derived.Stop.Joined
import Derived.Conc.Holds
import Derived.SevenTiedAt
import GoSem.ClaimSeven
import Derived.LaidHandle
import Derived.LaidSub
import Derived.Lay
import Derived.Shelf.Vars
import Derived.LaidMore
import Derived.MakeChecks
import Derived.WalkSmall
import Derived.ChangeVars
import Derived.Below
import Derived.StillTailTactics
/- Commands: number, as; the reading of a kind's text. -/
namespace Go.Proofs.YthbdnmnhoifnoaaGreatDoor
open Go.RowKit
set_option linter.unusedVariables false
set_option linter.unusedSimpArgs false
set_option maxRecDepth 100000
theorem number_yes (l : List UInt8) (m D : Nat) (n : Int) (v : Value) (w : World) (hl : l.length ≤ 1048576) (h : nmO l = some m) (hd : Dsk w D n v) :
    Calls Tryz.prog 53 #[.pointer (some ⟨D, 0, none⟩), .string ⟨l.toArray⟩] w fun e w' => e = .returned (.string ⟨#[111, 107]⟩) ∧ w' = w.setCell ⟨D, 0, none⟩ (.int .i64 m) := by
  have C := Lib.hid (numberIn_any l w hl)
  rw [nmE_yes h] at C
  have B := Lib.hid (become_ok D n m v w hd (by have := nmO_le l m h; omega))
  clear h hd hl
  go_enter Tryz.func53, Tryz.ntmps53
  go_wp2_with fail
  refine C.out.mono ?_
  rintro e w1 ⟨rfl, rfl⟩
  go_wp2_with fail
  refine B.out.mono ?_
  rintro e w2 ⟨rfl, rfl⟩
  go_wp2_with fail
  go_ret
  exact ⟨rfl, rfl⟩
theorem number_no (l : List UInt8) (D : Nat) (w : World) (hl : l.length ≤ 1048576) (h : nmO l = none) :
    Calls Tryz.prog 53 #[.pointer (some ⟨D, 0, none⟩), .string ⟨l.toArray⟩] w fun e w' => e = noR ∧ w' = w := by
  have C := Lib.hid (numberIn_any l w hl)
  rw [nmE_no h] at C
  clear h hl
  go_enter Tryz.func53, Tryz.ntmps53
  go_wp2_with fail
  refine C.out.mono ?_
  rintro e w1 ⟨rfl, rfl⟩
  go_wp2_with fail
  exact ⟨rfl, rfl, rfl⟩
set_option maxHeartbeats 2000000 in
theorem as_yes (K s : List UInt8) (D : Nat) (n : Int) (v : Value) (w : World) (hK : K.length ≤ 1048576) (hT : TB w) (hd : Dsk w D n v) (hn : I64Ok n) (h : chO K n = some s) :
    Calls Tryz.prog 60 #[.pointer (some ⟨D, 0, none⟩), .string ⟨K.toArray⟩] w fun e w' => e = .returned (.string ⟨s.toArray⟩) ∧ Below w.heap.size w w' := by
  have C := Lib.hid (iChangeOf_any K n w hT hn hK)
  rw [h] at C
  have c0 := hd.cell0
  have hs := (chO_len K n s h).1
  have T := Lib.hid (fun W => textOutput_yes s W (by intro e; rw [e] at hs; simp at hs))
  rw [show oV (some s) = .tuple #[.string ⟨s.toArray⟩, .bool true] from rfl] at C
  clear h hd hs hT hn hK
  go_enter Tryz.func60, Tryz.ntmps60
  go_wp2_with fail
  refine C.out.mono ?_
  rintro e w1 ⟨rfl, g1⟩
  have G1 := Lib.hid g1; clear g1
  go_wp2_with fail
  refine (T.out _).mono ?_
  rintro e w2 ⟨rfl, rfl⟩
  go_wp2_with fail
  go_ret
  exact ⟨rfl, G1.out⟩
set_option maxHeartbeats 2000000 in
theorem as_no (K : List UInt8) (D : Nat) (n : Int) (v : Value) (w : World) (hK : K.length ≤ 1048576) (hT : TB w) (hd : Dsk w D n v) (hn : I64Ok n) (h : chO K n = none) :
    Calls Tryz.prog 60 #[.pointer (some ⟨D, 0, none⟩), .string ⟨K.toArray⟩] w fun e w' => e = noR ∧ Below w.heap.size w w' := by
  have C := Lib.hid (iChangeOf_any K n w hT hn hK)
  rw [h] at C
  have c0 := hd.cell0
  have T := Lib.hid (fun W => textOutput_no ⟨#[]⟩ W)
  rw [show oV none = .tuple #[.string ⟨#[]⟩, .bool false] from rfl] at C
  clear h hd hT hn hK
  go_enter Tryz.func60, Tryz.ntmps60
  go_wp2_with fail
  refine C.out.mono ?_
  rintro e w1 ⟨rfl, g1⟩
  have G1 := Lib.hid g1; clear g1
  go_wp2_with fail
  refine (T.out _).mono ?_
  rintro e w2 ⟨rfl, rfl⟩
  go_wp2_with fail
  exact ⟨rfl, rfl, G1.out⟩
set_option maxHeartbeats 2000000 in
theorem clayNumber_any (l : List UInt8) (w : World) (hl : l.length ≤ 1048576) (hm : MaxL w) : Calls Tryz.prog 290 #[.string ⟨l.toArray⟩] w fun e w' => e = .returned (placeReadR l) ∧ Below w.heap.size w w' := by
  have C := Lib.hid (iPlaceRead_any l w hl hm)
  obtain ⟨x, b, hx⟩ : ∃ x b, placeReadR l = .tuple #[.int .i64 x, .bool b] := by
    by_cases h : isC l = true
    · obtain ⟨h1, h2⟩ := isC_of l h; exact ⟨_, _, placeReadR_yes l _ h1 h2⟩
    · exact ⟨_, _, placeReadR_no l (by simpa using h)⟩
  rw [hx] at C ⊢
  clear hx hl hm
  go_enter Tryz.func290, Tryz.ntmps290
  go_wp2_with fail
  refine C.out.mono ?_
  rintro e w1 ⟨rfl, g1⟩
  have G1 := Lib.hid g1; clear g1
  go_wp2_with fail
  go_ret2
  exact ⟨rfl, G1.out⟩
theorem me_clay (s : ByteArray) (w : World) : (method 468 200 (.string s) "loop.example/peoplesnumerals/impl.number").run Tryz.prog w = .ok (290, .string s) w := by kernel_rfl
set_option maxHeartbeats 2000000 in
theorem changeReadC_any (l : List UInt8) (w : World) (hl : l.length ≤ 1048576) (hm : MaxL w) : Calls Tryz.prog 91 #[.string ⟨#[99]⟩, .string ⟨l.toArray⟩] w fun e w' => e = .returned (placeReadR l) ∧ Below w.heap.size w w' := by
  have C := Lib.hid (numeralAs_any [99] l w)
  have hv : nAs (kIx [99]) l = .tuple #[.iface 200 (.string ⟨l.toArray⟩), .bool true] := rfl
  rw [hv] at C
  have D := Lib.hid (fun W hM => clayNumber_any l W hl hM)
  obtain ⟨x, b, hx⟩ : ∃ x b, placeReadR l = .tuple #[.int .i64 x, .bool b] := by
    by_cases h : isC l = true
    · obtain ⟨h1, h2⟩ := isC_of l h; exact ⟨_, _, placeReadR_yes l _ h1 h2⟩
    · exact ⟨_, _, placeReadR_no l (by simpa using h)⟩
  rw [hx] at D ⊢
  have HM := Lib.hid hm
  clear hx hl hm hv
  go_enter Tryz.func91, Tryz.ntmps91
  go_wp2_with fail
  refine C.out.mono ?_
  rintro e w1 ⟨rfl, g1⟩
  have G1 := Lib.hid g1; have HM1 := Lib.hid (HM.out.below g1); clear g1
  go_wp2_with fail
  have hme := me_clay
  go_wp2_with fail
  refine (D.out _ HM1.out).mono ?_
  rintro e w2 ⟨rfl, g2⟩
  have G2 := Lib.hid (G1.out.trans (g2.mono G1.out.size)); clear g2
  go_wp2_with fail
  go_ret2
  exact ⟨rfl, G2.out⟩
set_option maxHeartbeats 2000000 in
theorem clay_yes (l : List UInt8) (m D : Nat) (n : Int) (v : Value) (w : World) (hl : l.length ≤ 1048576) (hm : MaxL w) (h : placeReadR l = .tuple #[.int .i64 m, .bool true]) (h9 : m ≤ 99999999) (hd : Dsk w D n v) :
    Calls Tryz.prog 56 #[.pointer (some ⟨D, 0, none⟩), .string ⟨l.toArray⟩] w fun e w' => e = .returned (.string ⟨#[111, 107]⟩) ∧ Dsk w' D m v ∧ But D w.heap.size w w' := by
  have C := Lib.hid (changeReadC_any l w hl hm)
  rw [h] at C
  have B := Lib.hid (fun W hd => become_ok D n m v W hd (by omega))
  have HD := Lib.hid hd
  clear h hd hl hm h9
  go_enter Tryz.func56, Tryz.ntmps56
  go_wp2_with fail
  refine C.out.mono ?_
  rintro e w1 ⟨rfl, g1⟩
  have G1 := Lib.hid g1; have HD1 := Lib.hid (HD.out.below g1 HD.out.lt); clear g1
  go_wp2_with fail
  refine (B.out _ HD1.out).mono ?_
  rintro e w2 ⟨rfl, rfl⟩
  go_wp2_with fail
  go_ret
  exact ⟨rfl, HD1.out.set0 _, (But.of G1.out).set _ _⟩
end Go.Proofs.YthbdnmnhoifnoaaGreatDoor

/- The reader of a drawn code (package spec): pick, l6Open. -/
namespace Go.Proofs.YthbdnmnhoifnoaaGreatDoor
open Go.RowKit
set_option linter.unusedVariables false
set_option maxRecDepth 100000
/-- a reader in block r: len bytes (all in blocks below r), its place p -/
structure Rd (w : World) (r : Nat) (a : Option Addr) (len cap : Nat) (p : Nat) : Prop where
  blk : w.heap[r]? = some (.cells #[.slice a len cap, .int .i64 (p : Nat)] 78 (0, 0))
  small : len ≤ 2000
  at' : ∀ i, i < len → ∃ b off y, a = some ⟨b, off, none⟩ ∧ b < r ∧ w.cell? ⟨b, off + i, none⟩ = some (.int .u8 y) ∧ 0 ≤ y ∧ y ≤ 255
/-- what a pick leaves: the reader's place is one further, nothing else has turned -/
theorem Rd.next {w : World} {r : Nat} {a : Option Addr} {len cap p : Nat} (h : Rd w r a len cap p) (q : Nat) :
    Rd ((w.setCell ⟨r, 1, none⟩ (.int .i64 ((p : Int) + 1))).drewN q) r a len cap (p + 1) ∧ w.grownBy ((w.setCell ⟨r, 1, none⟩ (.int .i64 ((p : Int) + 1))).drewN q) (some r) := by
  have hr : r < w.heap.size := lt_of_block' h.blk
  have hg : w.grownBy ((w.setCell ⟨r, 1, none⟩ (.int .i64 ((p : Int) + 1))).drewN q) (some r) :=
    ⟨rfl, rfl, rfl, by simp [World.setCell, World.drewN], fun k hk hne => by
      show (w.setCell ⟨r, 1, none⟩ (.int .i64 ((p : Int) + 1))).heap[k]? = _
      exact Below.heap_setCell _ _ _ _ (fun e => hne (by simp at e; rw [e]))⟩
  refine ⟨⟨?_, h.small, fun i hi => ?_⟩, hg⟩
  · show (w.heap.modify r _)[r]? = _
    have hb := h.blk
    rw [Array.getElem?_eq_getElem hr] at hb
    rw [Array.getElem?_eq_getElem (by simpa using hr), Array.getElem_modify_self, Option.some.inj hb]
    simp
  · obtain ⟨b, off, y, ha, hb, hc, h0, h1⟩ := h.at' i hi
    exact ⟨b, off, y, ha, hb, hg.cell hc (by simp; omega), h0, h1⟩
theorem xor_nonneg (x y : Int) (h0 : 0 ≤ x) (h1 : x ≤ 1000000000) (g0 : 0 ≤ y) (g1 : y ≤ 1000000000) : 0 ≤ bits BinOp.xor IntKind.i64 x y := by
  obtain ⟨a, rfl⟩ := Int.eq_ofNat_of_zero_le h0
  obtain ⟨b, rfl⟩ := Int.eq_ofNat_of_zero_le g0
  have ha : a < 2 ^ 62 := by omega
  have hb : b < 2 ^ 62 := by omega
  have hx : a ^^^ b < 2 ^ 62 := Nat.xor_lt_two_pow ha hb
  have ha' : a % 2 ^ 64 = a := Nat.mod_eq_of_lt (by omega)
  have hb' : b % 2 ^ 64 = b := Nat.mod_eq_of_lt (by omega)
  have e : bits BinOp.xor IntKind.i64 (a : Int) (b : Int) = IntKind.i64.wrap ((a ^^^ b : Nat) : Int) := by
    have e64 : IntKind.i64.bits = 64 := rfl
    simp only [bits, BitVec.ofInt_natCast, BitVec.toNat_xor, BitVec.toNat_ofNat, e64, ha', hb']
  rw [e, IntWalk.i64_in _ (by omega)]
  omega
theorem tmod_between (x n : Int) (h0 : 0 ≤ x) (hn : 1 ≤ n) : 0 ≤ x.tmod n ∧ x.tmod n < n := by
  rw [Int.tmod_eq_emod_of_nonneg h0]
  exact ⟨Int.emod_nonneg _ (by omega), Int.emod_lt_of_pos _ (by omega)⟩
theorem pick_any (r : Nat) (a : Option Addr) (len cap : Nat) (p : Nat) (n : Int) (w : World) (h : Rd w r a len cap p) (hn : 1 ≤ n) (hn2 : n ≤ 1000000) (hp : p ≤ 1000000) :
    Calls Tryz.prog 28 #[.pointer (some ⟨r, 0, none⟩), .int .i64 n] w fun e w' => ∃ x : Int, 0 ≤ x ∧ x < n ∧ e = .returned (.int .i64 x) ∧ Rd w' r a len cap (p + 1) ∧ w.grownBy w' (some r) := by
  have hc0 : w.cell? ⟨r, 0, none⟩ = some (.slice a len cap) := cell_at h.blk (j := 0) rfl
  have hc1 : w.cell? ⟨r, 1, none⟩ = some (.int .i64 (p : Nat)) := cell_at h.blk (j := 1) rfl
  have hf : w.frozen? ⟨r, 1, none⟩ = false := by simp [World.frozen?, h.blk]
  have hl := h.small
  have Hnext := Lib.hid (fun q => h.next q)
  by_cases h0 : len = 0
  · subst h0
    clear h
    go_enter Tryz.func28, Tryz.ntmps28
    go_wp2
    go_ret
    exact ⟨0, Int.le_refl _, by omega, rfl, Hnext.out 0⟩
  · by_cases hk : p < len
    · obtain ⟨b, off, y, rfl, hbr, hcb, hz0, hz1⟩ := h.at' p hk
      have hz : ((len : Int) == 0) = false := by rw [beq_eq_false_iff_ne]; omega
      clear h
      go_enter Tryz.func28, Tryz.ntmps28
      go_wp2
      go_ret
      exact ⟨y % n, Int.emod_nonneg _ (by omega), Int.emod_lt_of_pos _ (by omega), rfl, Hnext.out 0⟩
    · obtain ⟨b, off, y, rfl, hbr, hcb, hz0, hz1⟩ := h.at' (p % len) (Nat.mod_lt _ (by omega))
      obtain ⟨b', off', y', he, hbr', hcb', hz0', hz1'⟩ := h.at' ((p * 7 + 3) % len) (Nat.mod_lt _ (by omega))
      obtain ⟨rfl, rfl⟩ : b' = b ∧ off' = off := by simpa [eq_comm] using he
      have hz : ((len : Int) == 0) = false := by rw [beq_eq_false_iff_ne]; omega
      clear h he
      have hm1 : (p : Int) % (len : Int) < len := Int.emod_lt_of_pos _ (by omega)
      have hm2 : ((p : Int) * 7 + 3) % (len : Int) < len := Int.emod_lt_of_pos _ (by omega)
      have hm3 : 0 ≤ (p : Int) % (len : Int) := Int.emod_nonneg _ (by omega)
      have hm4 : 0 ≤ ((p : Int) * 7 + 3) % (len : Int) := Int.emod_nonneg _ (by omega)
      have hq0 : 0 ≤ (p : Int) / (len : Int) := Int.ediv_nonneg (by omega) (by omega)
      have hq1 : (p : Int) / (len : Int) ≤ 1000000 := by
        rw [← Int.natCast_ediv]
        have := Nat.div_le_self p len
        generalize p / len = z at this ⊢
        omega
      go_enter Tryz.func28, Tryz.ntmps28
      go_wp2
      go_quiet (fail)
      go_wp2
      go_ret
      have hx := xor_nonneg (y * 131 + y' * 1117 + (p : Int) * 29 + (p : Int) / (len : Int) * 53) ((y * 131 + y' * 1117 + (p : Int) * 29 + (p : Int) / (len : Int) * 53) / 64) (by omega) (by omega) (by omega) (by omega)
      exact ⟨_, (tmod_between _ n hx hn).1, (tmod_between _ n hx hn).2, rfl, Hnext.out nq⟩
theorem l6Open_any (a : Option Addr) (len cap : Nat) (zs : List Int) (w : World) (h : IsRow .u8 w a len cap zs) :
    Calls Tryz.prog 25 #[.slice a len cap] w fun e w' => ∃ (a' : Option Addr) (l c : Nat), e = .returned (.pointer (some ⟨w.heap.size, 0, none⟩)) ∧ Rd w' w.heap.size a' l c 0 ∧ Below w.heap.size w w' := by
  rcases h with ⟨rfl, rfl, rfl, rfl⟩ | ⟨x, rfl, hl, hm, hz, hcell, hwz⟩
  · go_enter Tryz.func25, Tryz.ntmps25
    go_wp2
    go_ret
    exact ⟨_, _, _, rfl, ⟨heap_alloc_new _ _, by omega, fun i hi => by omega⟩, (Below.refl _ _).alloc (Nat.le_refl _) _⟩
  · obtain ⟨b, off, spot⟩ := x
    unfold maxLen at hm
    by_cases h0 : len = 0
    · subst h0
      go_enter Tryz.func25, Tryz.ntmps25
      go_wp2
      go_ret
      exact ⟨_, _, _, rfl, ⟨heap_alloc_new _ _, by omega, fun i hi => by omega⟩, (Below.refl _ _).alloc (Nat.le_refl _) _⟩
    · have hc := hcell 0 (by omega)
      have hspot : spot = none := by simpa [Addr.add] using World.cell?_spot hc
      subst hspot
      have hat : ∀ l c, l ≤ len → ∀ i, i < l → ∃ b' off' y, some (⟨b, off, none⟩ : Addr) = some ⟨b', off', none⟩ ∧ b' < w.heap.size ∧ (w.alloc c).cell? ⟨b', off' + i, none⟩ = some (.int .u8 y) ∧ 0 ≤ y ∧ y ≤ 255 := by
        intro l c hlc i hi
        have hci := hcell i (by omega)
        have hci' : w.cell? ⟨b, off + i, none⟩ = some (.int .u8 (zs.getD i 0)) := by
          have e : (⟨b, off, none⟩ : Addr).add i = ⟨b, off + i, none⟩ := by unfold Addr.add; split <;> simp_all
          rw [← e]; exact hci
        have hlt := World.block_lt_of_cell? w _ hci'
        have hwf := hwz (zs.getD i 0) (by rw [List.getD_eq_getElem?_getD, List.getElem?_eq_getElem (by omega)]; exact List.getElem_mem _)
        simp only [Lit.wf, Bool.and_eq_true, decide_eq_true_eq] at hwf
        refine ⟨b, off, zs.getD i 0, rfl, hlt, ?_, hwf.1, hwf.2⟩
        rw [World.cell?_of_block (Below.heap_alloc w c b hlt)]
        exact hci'
      have Hat := Lib.hid hat
      clear hat hcell hwz hc
      by_cases h2 : 2000 < len
      · go_enter Tryz.func25, Tryz.ntmps25
        go_wp2
        go_ret
        exact ⟨_, _, _, rfl, ⟨heap_alloc_new _ _, by omega, Hat.out _ _ (by omega)⟩, (Below.refl _ _).alloc (Nat.le_refl _) _⟩
      · go_enter Tryz.func25, Tryz.ntmps25
        go_wp2
        go_ret
        exact ⟨_, _, _, rfl, ⟨heap_alloc_new _ _, by omega, Hat.out _ _ (by omega)⟩, (Below.refl _ _).alloc (Nat.le_refl _) _⟩
end Go.Proofs.YthbdnmnhoifnoaaGreatDoor

/- The draws of chapter 1 (package spec): a number. -/
namespace Go.Proofs.YthbdnmnhoifnoaaGreatDoor
open Go.RowKit
set_option linter.unusedVariables false
set_option maxRecDepth 100000
theorem grown_trans {w1 w2 w3 : World} {r : Nat} (h : w1.grownBy w2 (some r)) (k : w2.grownBy w3 (some r)) : w1.grownBy w3 (some r) :=
  ⟨k.os.trans h.os, k.tape.trans h.tape, k.output.trans h.output, Nat.le_trans h.size k.size, fun i hi hne => (k.block i (Nat.lt_of_lt_of_le hi h.size) hne).trans (h.block i hi hne)⟩
theorem bel_grown {B r : Nat} {w w1 w2 : World} (h : Below B w w1) (g : w1.grownBy w2 (some r)) (hB : B ≤ w1.heap.size) (hr : B ≤ r) : Below B w w2 := h.grown g hB (fun k hk => by simp at hk; omega)
theorem l91Small_any (r : Nat) (a : Option Addr) (len cap : Nat) (p : Nat) (w : World) (h : Rd w r a len cap p) (hp : p ≤ 900000) :
    Calls Tryz.prog 33 #[.pointer (some ⟨r, 0, none⟩)] w fun e w' => ∃ (x : Int) (p' : Nat), 0 ≤ x ∧ x ≤ 4000 ∧ e = .returned (.int .i64 x) ∧ Rd w' r a len cap p' ∧ p' ≤ p + 5 ∧ w.grownBy w' (some r) := by
  have H := Lib.hid h; clear h
  go_enter Tryz.func33, Tryz.ntmps33
  go_wp2_with fail
  refine (pick_any r a len cap p _ _ H.out (by omega) (by omega) (by omega)).mono ?_
  rintro e w1 ⟨x, hx0, hx1, rfl, hr1, g1⟩
  have H1 := Lib.hid hr1; have G1 := Lib.hid g1; clear hr1 g1
  by_cases h0 : x = 0
  · subst h0
    go_wp2_with fail
    go_ret
    exact ⟨0, p + 1, by omega, by omega, rfl, H1.out, by omega, G1.out⟩
  by_cases h1 : x = 1
  · subst h1
    go_wp2_with fail
    go_ret
    exact ⟨4000, p + 1, by omega, by omega, rfl, H1.out, by omega, G1.out⟩
  by_cases h2 : x = 2
  · subst h2
    go_wp2_with fail
    refine (pick_any r a len cap _ _ _ H1.out (by omega) (by omega) (by omega)).mono ?_
    rintro e w2 ⟨y, hy0, hy1, rfl, hr2, g2⟩
    have H2 := Lib.hid hr2; have G2 := Lib.hid g2; clear hr2 g2
    go_wp2_with fail
    go_ret
    exact ⟨1 + y, p + 2, by omega, by omega, rfl, H2.out, by omega, grown_trans G1.out G2.out⟩
  · go_wp2_with fail
    refine (pick_any r a len cap _ _ _ H1.out (by omega) (by omega) (by omega)).mono ?_
    rintro e w2 ⟨y, hy0, hy1, rfl, hr2, g2⟩
    have H2 := Lib.hid hr2; have G2 := Lib.hid g2; clear hr2 g2
    go_wp2_with fail
    refine (pick_any r a len cap _ _ _ H2.out (by omega) (by omega) (by omega)).mono ?_
    rintro e w3 ⟨z, hz0, hz1, rfl, hr3, g3⟩
    have H3 := Lib.hid hr3; have G3 := Lib.hid g3; clear hr3 g3
    go_wp2_with fail
    refine (pick_any r a len cap _ _ _ H3.out (by omega) (by omega) (by omega)).mono ?_
    rintro e w4 ⟨u, hu0, hu1, rfl, hr4, g4⟩
    have H4 := Lib.hid hr4; have G4 := Lib.hid g4; clear hr4 g4
    go_wp2_with fail
    refine (pick_any r a len cap _ _ _ H4.out (by omega) (by omega) (by omega)).mono ?_
    rintro e w5 ⟨v, hv0, hv1, rfl, hr5, g5⟩
    have H5 := Lib.hid hr5; have G5 := Lib.hid g5; clear hr5 g5
    go_wp2_with fail
    go_ret
    exact ⟨_, p + 5, by omega, by omega, rfl, H5.out, by omega, grown_trans G1.out (grown_trans G2.out (grown_trans G3.out (grown_trans G4.out G5.out)))⟩
theorem l91One_any (a : Option Addr) (len cap : Nat) (zs : List Int) (w : World) (h : IsRow .u8 w a len cap zs) :
    Calls Tryz.prog 13 #[.slice a len cap] w fun e w' => ∃ x : Int, 0 ≤ x ∧ x ≤ 4000 ∧ e = .returned (.int .i64 x) ∧ Below w.heap.size w w' := by
  have H := Lib.hid h; clear h
  go_enter Tryz.func13, Tryz.ntmps13
  go_wp2_with fail
  refine (l6Open_any a len cap zs _ H.out).mono ?_
  rintro e w1 ⟨a', l, c, rfl, hr, g1⟩
  have H1 := Lib.hid hr; clear hr
  go_wp2_with fail
  refine (l91Small_any _ a' l c 0 _ H1.out (by omega)).mono ?_
  rintro e w2 ⟨x, p', hx0, hx1, rfl, hr2, hp', g2⟩
  go_wp2_with fail
  go_ret
  exact ⟨x, hx0, hx1, rfl, bel_grown g1 g2 g1.size (Nat.le_refl _)⟩
end Go.Proofs.YthbdnmnhoifnoaaGreatDoor

/- The draws of chapter 1 (package spec): a text. -/
namespace Go.Proofs.YthbdnmnhoifnoaaGreatDoor
open Go.RowKit
set_option linter.unusedVariables false
set_option maxRecDepth 100000
theorem Rd.grownOther {w w' : World} {r : Nat} {a : Option Addr} {len cap p : Nat} (h : Rd w r a len cap p) (hg : w.grownBy w' none) : Rd w' r a len cap p :=
  ⟨by rw [hg.block r (lt_of_block' h.blk) (by simp)]; exact h.blk, h.small, fun i hi => by
    obtain ⟨b, off, y, ha, hb, hc, h0, h1⟩ := h.at' i hi
    exact ⟨b, off, y, ha, hb, hg.cell hc (by simp), h0, h1⟩⟩
theorem Rd.alloc {w : World} {r : Nat} {a : Option Addr} {len cap p : Nat} (h : Rd w r a len cap p) (o : Obj) : Rd (w.alloc o) r a len cap p := h.grownOther (World.grownBy_alloc w o none)
theorem Rd.below {w w' : World} {r : Nat} {a : Option Addr} {len cap p : Nat} (h : Rd w r a len cap p) (hg : Below w.heap.size w w') : Rd w' r a len cap p :=
  h.grownOther ⟨hg.os, hg.tape, hg.output, hg.size, fun k hk _ => hg.block k hk⟩
theorem grown_of_below {w w' : World} (r : Nat) (hg : Below w.heap.size w w') : w.grownBy w' (some r) := ⟨hg.os, hg.tape, hg.output, hg.size, fun k hk _ => hg.block k hk⟩
/-- n short strings in a row -/
def StrRow (w : World) (b n : Nat) : Prop := ∀ i, i < n → ∃ x : ByteArray, w.cell? ⟨b, i, none⟩ = some (.string x) ∧ x.size ≤ 30
theorem of_any (r : Nat) (a : Option Addr) (len cap : Nat) (p : Nat) (b n : Nat) (w : World) (h : Rd w r a len cap p) (hs : StrRow w b n) (hbr : b ≠ r) (hn : 1 ≤ n) (hn2 : n ≤ 1000) (hp : p ≤ 1000000) :
    Calls Tryz.prog 29 #[.pointer (some ⟨r, 0, none⟩), .slice (some ⟨b, 0, none⟩) n n] w fun e w' => ∃ x : ByteArray, x.size ≤ 30 ∧ e = .returned (.string x) ∧ Rd w' r a len cap (p + 1) ∧ w.grownBy w' (some r) := by
  have H := Lib.hid h; have HS := Lib.hid hs; clear h hs
  go_enter Tryz.func29, Tryz.ntmps29
  go_wp2_with fail
  refine (pick_any r a len cap p _ _ H.out (by omega) (by omega) (by omega)).mono ?_
  rintro e w1 ⟨x, hx0, hx1, rfl, hr1, g1⟩
  obtain ⟨k, rfl⟩ := Int.eq_ofNat_of_zero_le hx0
  obtain ⟨s, hc, hsz⟩ := HS.out k (by omega)
  have hc1 := g1.cell hc (by simp; omega)
  have H1 := Lib.hid hr1; have G1 := Lib.hid g1
  clear hr1 g1 hc
  go_wp2_with fail
  go_ret
  exact ⟨s, hsz, rfl, H1.out, G1.out⟩
theorem strRow_new (w : World) (l : List ByteArray) (T : TypeId) (h : ∀ x ∈ l, x.size ≤ 30) (fr : Nat × Nat) : StrRow (w.alloc (.cells (l.map Value.string).toArray T fr)) w.heap.size l.length := fun i hi => by
  refine ⟨l[i], ?_, h _ (List.getElem_mem _)⟩
  rw [cell_at (heap_alloc_new w _) (v := .string l[i])]
  simp [hi]
end Go.Proofs.YthbdnmnhoifnoaaGreatDoor

/- The draws of chapter 4 (package spec): numbers and texts. -/
namespace Go.Proofs.YthbdnmnhoifnoaaGreatDoor
open Go.RowKit
set_option linter.unusedVariables false
set_option maxRecDepth 100000
theorem l92Sixty_any (r : Nat) (a : Option Addr) (len cap : Nat) (p : Nat) (w : World) (h : Rd w r a len cap p) (hp : p ≤ 900000) :
    Calls Tryz.prog 27 #[.pointer (some ⟨r, 0, none⟩)] w fun e w' => ∃ (x : Int) (p' : Nat), -100 ≤ x ∧ x ≤ 26000000 ∧ e = .returned (.int .i64 x) ∧ Rd w' r a len cap p' ∧ p' ≤ p + 10 ∧ w.grownBy w' (some r) := by
  have H := Lib.hid h; clear h
  go_enter Tryz.func27, Tryz.ntmps27
  go_wp2_with fail
  refine (pick_any r a len cap p _ _ H.out (by omega) (by omega) (by omega)).mono ?_
  rintro e w1 ⟨x, hx0, hx1, rfl, hr1, g1⟩
  have H1 := Lib.hid hr1; have G1 := Lib.hid g1; clear hr1 g1
  go_wp2_with fail
  refine (pick_any r a len cap _ _ _ H1.out (by omega) (by omega) (by omega)).mono ?_
  rintro e w2 ⟨y, hy0, hy1, rfl, hr2, g2⟩
  have H2 := Lib.hid hr2; have G2 := Lib.hid (grown_trans G1.out g2); clear hr2 g2
  go_wp2_with fail
  go_loopw [3, 5] (fun m i wr => ∃ (k p' : Nat) (v : Int), m = .int .i64 v ∧ i = .int .i64 k ∧ (k : Int) ≤ y ∧ 0 ≤ v ∧ (k = 0 → v ≤ 59) ∧ (k = 1 → v ≤ 3599) ∧ (k = 2 → v ≤ 215999) ∧ (k = 3 → v ≤ 12959999) ∧ Rd wr r a len cap p' ∧ p' = p + 2 + k ∧ w.grownBy wr (some r)) (fun _ i _ => 4 - (intOf i).toNat)
  case atStart => exact ⟨0, p + 2, x, rfl, rfl, by omega, hx0, by omega, by omega, by omega, by omega, H2.out, rfl, G2.out⟩
  case round =>
    clear H2 G2
    obtain ⟨k, p', v, rfl, rfl, hk, hv0, b0, b1, b2, b3, hr, hp', g⟩ := hrel
    have HR := Lib.hid hr; have G := Lib.hid g; clear hr g
    have hvb : v ≤ 12959999 := by omega
    have hp2 : p' ≤ p + 6 := by omega
    by_cases hlt : (k : Int) < y
    · have Hb : Hid ((k = 0 → v ≤ 59) ∧ (k = 1 → v ≤ 3599) ∧ (k = 2 → v ≤ 215999)) := Lib.hid ⟨b0, b1, b2⟩
      have Hp' := Lib.hid hp'
      clear b0 b1 b2 b3 hp'
      go_wp2_with fail
      refine (pick_any r a len cap p' _ _ HR.out (by omega) (by omega) (by omega)).mono ?_
      rintro e w3 ⟨z, hz0, hz1, rfl, hr3, g3⟩
      have H3 := Lib.hid hr3; have G3 := Lib.hid (grown_trans G.out g3); clear hr3 g3
      go_wp2_with fail
      go_roundw
      case rel => exact ⟨k + 1, p' + 1, 60 * v + z, rfl, by go_num, by omega, by omega, by omega, by have := Hb.out; omega, by have := Hb.out; omega, by have := Hb.out; omega, H3.out, by have := Hp'.out; omega, G3.out⟩
      case measure => simp [intOf]; omega
    · clear b0 b1 b2 b3
      go_wp2_with fail
      refine (pick_any r a len cap p' _ _ HR.out (by omega) (by omega) (by omega)).mono ?_
      rintro e w3 ⟨z, hz0, hz1, rfl, hr3, g3⟩
      have H3 := Lib.hid hr3; have G3 := Lib.hid (grown_trans G.out g3); clear hr3 g3
      go_wp2_with fail
      refine (pick_any r a len cap _ _ _ H3.out (by omega) (by omega) (by omega)).mono ?_
      rintro e w4 ⟨u, hu0, hu1, rfl, hr4, g4⟩
      have H4 := Lib.hid hr4; have G4 := Lib.hid (grown_trans G3.out g4); clear hr4 g4
      go_wp2_with fail
      go_ret
      exact ⟨_, _, by omega, by omega, rfl, H4.out, by omega, G4.out⟩
end Go.Proofs.YthbdnmnhoifnoaaGreatDoor

/- The draws of chapter 4 (package spec): DrawPlaceRead, DrawPlaceReadings. -/
namespace Go.Proofs.YthbdnmnhoifnoaaGreatDoor
open Go.RowKit
set_option linter.unusedVariables false
set_option maxRecDepth 100000
theorem placeOfR_two (n : Int) : ∃ (x : ByteArray) (b : Bool), placeOfR n = .tuple #[.string x, .bool b] ∧ x.size ≤ 300 := by
  unfold placeOfR
  split
  · rename_i h
    refine ⟨_, _, rfl, ?_⟩
    have := (clay_short n.toNat (by omega)).2
    have e : (⟨(clay n.toNat).toArray⟩ : ByteArray).size = (clay n.toNat).length := by show (clay n.toNat).toArray.size = _; simp
    omega
  · exact ⟨_, _, rfl, by decide⟩
theorem drawPlaceRead_any (a : Option Addr) (len cap : Nat) (zs : List Int) (w : World) (h : IsRow .u8 w a len cap zs) :
    Calls Tryz.prog 10 #[.slice a len cap] w fun e w' => ∃ x : ByteArray, x.size ≤ 300 ∧ e = .returned (.string x) ∧ Below w.heap.size w w' := by
  have H := Lib.hid h; clear h
  go_enter Tryz.func10, Tryz.ntmps10
  go_wp2_with fail
  refine (l6Open_any a len cap zs _ H.out).mono ?_
  rintro e w1 ⟨a', l, c, rfl, hr, g1⟩
  have H1 := Lib.hid hr; clear hr
  go_wp2_with fail
  refine (l92Sixty_any _ a' l c 0 _ H1.out (by omega)).mono ?_
  rintro e w2 ⟨n, p', hn0, hn1, rfl, hr2, hp', g2⟩
  have H2 := Lib.hid hr2; have G2 := Lib.hid g2; clear hr2 g2
  obtain ⟨x, b, hx, hxs⟩ := placeOfR_two n
  have Hx := Lib.hid hx; clear hx
  go_wp2_with fail
  refine (sPlaceOf_any n _).mono ?_
  rw [Hx.out]
  rintro e w3 ⟨rfl, rfl⟩
  cases b with
  | false =>
    have hrow := strRow_new w2 [⟨#[]⟩, ⟨#[89, 60]⟩, ⟨#[89, 32, 32, 89]⟩, ⟨#[32, 89]⟩, ⟨#[46, 32, 89]⟩, ⟨#[89, 89, 89, 89, 89, 89, 89, 89, 89, 89]⟩, ⟨#[60, 60, 60, 60, 60, 60]⟩, ⟨#[89, 32]⟩, ⟨#[120]⟩] 9 (by decide) (0, 0)
    have HRow := Lib.hid hrow; clear hrow
    go_wp2_with fail
    refine (of_any _ a' l c p' w2.heap.size 9 _ (H2.out.alloc _) HRow.out (by have := lt_of_block' H2.out.blk; omega) (by omega) (by omega) (by omega)).mono ?_
    rintro e w4 ⟨z, hz, rfl, hr4, g4⟩
    have G4 := Lib.hid (grown_trans G2.out (grown_trans (World.grownBy_alloc w2 _ (some _)) g4)); clear hr4 g4
    go_wp2_with fail
    go_ret
    exact ⟨z, by omega, rfl, bel_grown g1 G4.out g1.size (Nat.le_refl _)⟩
  | true =>
    go_wp2_with fail
    refine (pick_any _ a' l c p' _ _ H2.out (by omega) (by omega) (by omega)).mono ?_
    rintro e w3 ⟨u, hu0, hu1, rfl, hr3, g3⟩
    have H3 := Lib.hid hr3; have G3 := Lib.hid (grown_trans G2.out g3); clear hr3 g3
    by_cases hu : u = 0
    · subst hu
      have hrow := strRow_new w3 [⟨#[]⟩, ⟨#[89, 60]⟩, ⟨#[89, 32, 32, 89]⟩, ⟨#[32, 89]⟩, ⟨#[46, 32, 89]⟩, ⟨#[89, 89, 89, 89, 89, 89, 89, 89, 89, 89]⟩, ⟨#[60, 60, 60, 60, 60, 60]⟩, ⟨#[89, 32]⟩, ⟨#[120]⟩] 9 (by decide) (0, 0)
      have HRow := Lib.hid hrow; clear hrow
      go_wp2_with fail
      refine (of_any _ a' l c (p' + 1) w3.heap.size 9 _ (H3.out.alloc _) HRow.out (by have := lt_of_block' H3.out.blk; omega) (by omega) (by omega) (by omega)).mono ?_
      rintro e w4 ⟨z, hz, rfl, hr4, g4⟩
      have G4 := Lib.hid (grown_trans G3.out (grown_trans (World.grownBy_alloc w3 _ (some _)) g4)); clear hr4 g4
      go_wp2_with fail
      go_ret
      exact ⟨z, by omega, rfl, bel_grown g1 G4.out g1.size (Nat.le_refl _)⟩
    · go_wp2_with fail
      go_ret
      exact ⟨x, hxs, rfl, bel_grown g1 G3.out g1.size (Nat.le_refl _)⟩
end Go.Proofs.YthbdnmnhoifnoaaGreatDoor

/- The model's RomanLongest. -/
namespace Go.Proofs.YthbdnmnhoifnoaaGreatDoor
open Go.RowKit
set_option linter.unusedVariables false
set_option maxRecDepth 100000
end Go.Proofs.YthbdnmnhoifnoaaGreatDoor

/- The program's RomanLongest. -/
namespace Go.Proofs.YthbdnmnhoifnoaaGreatDoor
open Go.RowKit
set_option linter.unusedVariables false
set_option maxRecDepth 100000
end Go.Proofs.YthbdnmnhoifnoaaGreatDoor

/- The laws FnExactRomanOf, FnExactRomanLongest: their walks. -/
namespace Go.Proofs.YthbdnmnhoifnoaaGreatDoor
open Go.RowKit
set_option linter.unusedVariables false
set_option maxRecDepth 100000
end Go.Proofs.YthbdnmnhoifnoaaGreatDoor

/- The law FnExecuteClay: its walk. -/
namespace Go.Proofs.YthbdnmnhoifnoaaGreatDoor
open Go.RowKit
set_option linter.unusedVariables false
set_option linter.unusedSimpArgs false
set_option maxRecDepth 100000
theorem zstr (s : ByteArray) : ∃ l : List UInt8, s = ⟨l.toArray⟩ ∧ s.size = l.length := ⟨s.data.toList, by simp, by simp⟩
theorem cdig_line (d : Nat) : (10 : UInt8) ∉ cdig d := fun h => by
  rcases cdig_mem d 10 h with ⟨_, h⟩ | ⟨_, h | h⟩ <;> exact absurd h (by decide)
theorem clay_line (n : Nat) : (10 : UInt8) ∉ clay n := by
  induction n using Nat.strongRecOn with
  | _ n ih =>
    by_cases h : n < 60
    · rw [clay, dif_pos h]; exact cdig_line n
    · rw [clay, dif_neg h, List.mem_append, List.mem_cons]
      rintro (h1 | h1 | h1)
      · exact ih (n / 60) (by omega) h1
      · exact absurd h1 (by decide)
      · exact cdig_line _ h1
/-- the script of one line -/
def clT (s : List UInt8) : List UInt8 := ([99, 108, 97, 121] ++ 32 :: s) ++ 10 :: []
theorem clT_pcs (s : List UInt8) (h : (10 : UInt8) ∉ s) : pcs 10 (clT s) = [[99, 108, 97, 121] ++ 32 :: s, []] := by
  unfold clT
  rw [pcs_hit [] (by intro h1; simp at h1; exact h h1)]
  rfl
theorem exec_clay (s : List UInt8) (n : Nat) (w : World) (hs : s.length ≤ 300) (h10 : (10 : UInt8) ∉ s) (h : placeReadR s = .tuple #[.int .i64 n, .bool true]) (hn : n ≤ 99999999) (hT : TB w) (hm : MaxI w) :
    Calls Tryz.prog 8 #[.string ⟨(clT s).toArray⟩] w fun e w' => e = .returned (.string ⟨([111, 107, 10] ++ endT n).toArray⟩) ∧ Below w.heap.size w w' := by
  have hp := clT_pcs s h10
  have E := exec_any (clT s) w (by unfold clT; simp; omega) hm hT.2.2 (fun k W => ∃ v, Dsk W (w.heap.size + 1) (if k = 0 then 1 else n : Nat) v) (fun _ => [111, 107]) n hn (fun _ => by decide)
    (fun W _ hd _ => ⟨_, hd⟩)
    (fun k q W hq hk ⟨v, hd⟩ hB => by
      rw [hp] at hq hk
      obtain rfl : k = 0 := by simp at hk; omega
      obtain rfl : [99, 108, 97, 121] ++ 32 :: s = q := Option.some.inj hq
      refine (ansR_ok 56 [99, 108, 97, 121] s (w.heap.size + 1) 1 n v v [111, 107] W (by decide) (by simp; omega) (hm.below hB) hd
        (fun W b hb => commandOfR_at W b ⟨#[99, 108, 97, 121]⟩ 56 (lkR_clay W b hb)) (fun _ _ => by kernel_rfl)
        (fun W' hB' hd' => clay_yes s n _ 1 v W' (by omega) (hm.below (bel_chain hB hB')) h hn hd')).mono ?_
      rintro e W' ⟨rfl, h1, h2⟩
      exact ⟨rfl, ⟨v, h1⟩, h2⟩)
    (fun k b W W' ⟨v, hd⟩ hb ho => ⟨v, hd.others ho (by
      rintro rfl
      obtain ⟨c, fz, hb⟩ := hb
      have := hd.symm.trans hb
      injection this with this
      injection this with _ h2 _
      exact absurd h2 (by decide))⟩)
    (fun W ⟨v, hd⟩ => ⟨v, by rw [hp] at hd; exact hd⟩)
  rw [hp] at E
  exact E
end Go.Proofs.YthbdnmnhoifnoaaGreatDoor

/- The law FnExecuteClay: its walk. -/
namespace Go.Proofs.YthbdnmnhoifnoaaGreatDoor
open Go.RowKit
set_option linter.unusedVariables false
set_option linter.unusedSimpArgs false
set_option maxRecDepth 100000
theorem zread_form (l : List UInt8) : ∃ (n : Nat) (b : Bool), placeReadR l = .tuple #[.int .i64 n, .bool b] ∧ (b = true → n ≤ 12959999 ∧ clay n = l) := by
  by_cases h : isC l = true
  · obtain ⟨h1, h2⟩ := isC_of l h
    exact ⟨cval l, true, placeReadR_yes l _ h1 h2, fun _ => ⟨h1, h2⟩⟩
  · rw [placeReadR_no l (by simpa using h)]
    exact ⟨0, false, rfl, fun h => by cases h⟩
theorem bcat3 (a b c : List UInt8) : (⟨a.toArray⟩ : ByteArray) ++ ⟨b.toArray⟩ ++ ⟨c.toArray⟩ = ⟨(a ++ b ++ c).toArray⟩ := by rw [xcat a b, xcat (a ++ b) c]
theorem clT_cat (l : List UInt8) : (⟨#[99, 108, 97, 121, 32]⟩ : ByteArray) ++ ⟨l.toArray⟩ ++ ⟨#[10]⟩ = ⟨(clT l).toArray⟩ := bcat3 [99, 108, 97, 121, 32] l [10]
theorem okT_cat (n : Nat) : (⟨([111, 107, 10] ++ endT n).toArray⟩ : ByteArray) = ⟨#[111, 107, 10, 110, 117, 109, 98, 101, 114, 32]⟩ ++ ⟨(dcm n).toArray⟩ ++ ⟨#[10]⟩ := (bcat3 [111, 107, 10, 110, 117, 109, 98, 101, 114, 32] (dcm n) [10]).symm
set_option maxHeartbeats 4000000 in
theorem wFnExecuteClay (a : Option Addr) (len cap : Nat) (z : List Int) (u0 : World) (h0 : IsRow .u8 u0 a len cap z) (hT : TB u0 ∧ MaxI u0) : Calls Tryz.prog 4 #[.slice a len cap] u0 fun e w' => e = .returned (.bool true) ∧ Below u0.heap.size u0 w' := by
  have HT := Lib.hid hT; clear hT
  have H0 := Lib.hid h0; clear h0
  by_cases big : 1048576 < len
  · go_enter Tryz.func4, Tryz.ntmps4
    go_wp2_with fail
    go_ret
    exact ⟨rfl, Below.refl _ _⟩
  go_enter Tryz.func4, Tryz.ntmps4
  go_wp2_with fail
  refine (drawPlaceRead_any a len cap z _ H0.out).mono ?_
  rintro e u1 ⟨s, hsz, rfl, hb⟩
  have G1 := Lib.hid hb; clear hb H0 big
  obtain ⟨l, rfl, hl⟩ := zstr s
  have hq : l.length ≤ 300 := by omega
  clear hl hsz
  obtain ⟨x, b, hx, hxb⟩ := zread_form l
  have C1 := Lib.hid (fun w : World => sPlaceRead_any l w (by omega))
  have C2 := Lib.hid (fun w : World => fun hm => iPlaceRead_any l w (by omega) hm)
  have HX := Lib.hid hx
  rw [hx] at C1 C2
  clear hx
  cases b with
  | true =>
    obtain ⟨h1, h2⟩ := hxb rfl
    have E := Lib.hid (fun W ht hm => exec_clay l x W hq (h2 ▸ clay_line x) HX.out (by omega) ht hm)
    have DG := Lib.hid (fun W => ldigits_any x W (by omega))
    have hdl := (dcm_short x (by omega)).2
    rw [← clT_cat] at E
    rw [okT_cat] at E
    have l0 : ¬ 9223372036854775807 < 5 + l.length := by omega
    have l1 : ¬ 9223372036854775807 < 5 + l.length + 1 := by omega
    have l2 : ¬ 9223372036854775807 < 10 + (dcm x).length := by omega
    have l3 : ¬ 9223372036854775807 < 10 + (dcm x).length + 1 := by omega
    clear hxb h2 hdl
    generalize dcm x = N at *
    go_wp2_with fail
    refine (C2.out _ (HT.out.2.below G1.out)).mono ?_
    rintro e u2 ⟨rfl, hb⟩
    have G2 := Lib.hid (bel_chain G1.out hb); clear hb
    go_wp2_with fail
    refine (C1.out _).mono ?_
    rintro e u3 ⟨rfl, rfl⟩
    go_wp2_with fail
    refine (E.out _ (HT.out.1.step G2.out) (HT.out.2.below G2.out)).mono ?_
    rintro e u4 ⟨rfl, hb⟩
    have G4 := Lib.hid (bel_chain G2.out hb); clear hb
    go_wp2_with fail
    refine (DG.out _).mono ?_
    rintro e u5 ⟨rfl, hb⟩
    have G5 := Lib.hid (bel_chain G4.out hb); clear hb
    go_wp2_with fail
    go_ret
    exact ⟨rfl, G5.out⟩
  | false =>
    clear hxb
    go_wp2_with fail
    refine (C2.out _ (HT.out.2.below G1.out)).mono ?_
    rintro e u2 ⟨rfl, hb⟩
    have G2 := Lib.hid (bel_chain G1.out hb); clear hb
    go_wp2_with fail
    refine (C1.out _).mono ?_
    rintro e u3 ⟨rfl, rfl⟩
    go_wp2_with fail
    go_ret
    exact ⟨rfl, G2.out⟩
end Go.Proofs.YthbdnmnhoifnoaaGreatDoor

/- Closed facts about the whole program that hang on the words of its head alone: the head's text is taken as a list of signs, so that nothing runs over its bytes. -/
namespace Go.Proofs.YthbdnmnhoifnoaaGreatDoor
theorem ws_space (r : List Char) : wordsSigns (Char.ofNat 32 :: r) = [] :: wordsSigns r := rfl
theorem ws_char (c : Char) (h : c ≠ Char.ofNat 32) (r : List Char) : wordsSigns (c :: r) = (match wordsSigns r with | w :: ws => (c :: w) :: ws | [] => [[c]]) := by
  rw [wordsSigns]
  · rfl
  · exact h
theorem ws_word : ∀ (w r : List Char), (w.all fun c => c != Char.ofNat 32) = true → wordsSigns (w ++ Char.ofNat 32 :: r) = w :: wordsSigns r
  | [], r, _ => ws_space r
  | c :: w, r, h => by
    simp only [List.all_cons, Bool.and_eq_true, bne_iff_ne] at h
    rw [List.cons_append, ws_char c h.1, ws_word w r h.2]
/-- does the head begin with a harness, its sum and a cut? -/
def headOk (L : List Char) : Bool :=
  L.take 8 == "harness".toList ++ [Char.ofNat 32] && ((L.drop 8).take 64).all (fun c => c != Char.ofNat 32) && isSumSigns ((L.drop 8).take 64) && (L.drop 72).take 5 == Char.ofNat 32 :: ("cut".toList ++ [Char.ofNat 32])
theorem words_of (s : String) (L : List Char) (h : s = String.ofList L) (hc : headOk L = true) : ∃ rest, behindMainWord (wordsSigns s.toList) = "cut".toList :: rest := by
  subst h
  rw [String.toList_ofList]
  simp only [headOk, Bool.and_eq_true, beq_iff_eq] at hc
  obtain ⟨⟨⟨h1, h2⟩, h3⟩, h4⟩ := hc
  have e : L = "harness".toList ++ Char.ofNat 32 :: ((L.drop 8).take 64 ++ Char.ofNat 32 :: ("cut".toList ++ Char.ofNat 32 :: L.drop 77)) := by
    have e1 := List.take_append_drop 8 L
    have e2 := List.take_append_drop 64 (L.drop 8)
    have e3 := List.take_append_drop 5 (L.drop 72)
    rw [List.drop_drop] at e2 e3
    rw [h1] at e1
    rw [h4] at e3
    conv => lhs; rw [← e1, ← e2, ← e3]
    simp
  generalize (L.drop 8).take 64 = S at *
  generalize L.drop 77 = r at *
  rw [e, ws_word _ _ (by decide), ws_word _ _ h2, ws_word _ _ (by decide)]
  refine ⟨wordsSigns r, ?_⟩
  unfold behindMainWord
  simp only [h3]
  rfl
theorem main_of (P : Program) (S L : List Char) (h : P.initOrder = String.ofList L) (hc : headOk L = true) (hS : (L.drop 8).take 64 = S) : P.mainIs = some (true, S) := by
  unfold Program.mainIs
  rw [h, String.toList_ofList]
  clear h
  subst hS
  simp only [headOk, Bool.and_eq_true, beq_iff_eq] at hc
  obtain ⟨⟨⟨h1, h2⟩, h3⟩, h4⟩ := hc
  have e : L = "harness".toList ++ Char.ofNat 32 :: ((L.drop 8).take 64 ++ Char.ofNat 32 :: ("cut".toList ++ Char.ofNat 32 :: L.drop 77)) := by
    have e1 := List.take_append_drop 8 L
    have e2 := List.take_append_drop 64 (L.drop 8)
    have e3 := List.take_append_drop 5 (L.drop 72)
    rw [List.drop_drop] at e2 e3
    rw [h1] at e1
    rw [h4] at e3
    conv => lhs; rw [← e1, ← e2, ← e3]
    simp
  generalize (L.drop 8).take 64 = S at *
  generalize L.drop 77 = r at *
  rw [e, ws_word _ _ (by decide), ws_word _ _ h2, ws_word _ _ (by decide)]
  simp only [h3]
  rfl
set_option maxRecDepth 100000 in
theorem fact_words : ∃ rest, behindMainWord (wordsSigns Tryz.prog.initOrder.toList) = "cut".toList :: rest := words_of _ _ rfl (by kernel_rfl)
theorem enter_of (P : Program) (rest : List (List Char)) (h : behindMainWord (wordsSigns P.initOrder.toList) = "cut".toList :: rest) (h1 : P.laysLater = false) (h2 : P.bearsReflect = false) (h3 : P.doorFits [] = true) : P.mayEnter = true := by
  have e1 : (stripLifts liftWords ("cut".toList :: rest)).1 = [] := by rfl
  have e2 : (stripLifts liftWords ("cut".toList :: rest)).2 = "cut".toList :: rest := by rfl
  unfold Program.mayEnter
  rw [h]
  simp only [e1, e2, h1, h2, h3]
  rfl
theorem lifts_of (P : Program) (rest : List (List Char)) (h : behindMainWord (wordsSigns P.initOrder.toList) = "cut".toList :: rest) : P.liftsFinal = false := by
  have e1 : (stripLifts liftWords ("cut".toList :: rest)).1 = [] := by rfl
  have e2 : (stripLifts liftWords ("cut".toList :: rest)).2 = "cut".toList :: rest := by rfl
  unfold Program.liftsFinal Program.headLifts
  rw [h]
  simp only [e1, e2]
  rfl
theorem make_of (P : Program) (rest : List (List Char)) (h : behindMainWord (wordsSigns P.initOrder.toList) = "cut".toList :: rest) : P.make = some .cut := by
  unfold Program.make
  rw [h]
  rfl
theorem fact_lays : Tryz.prog.laysLater = false := by kernel_rfl
theorem fact_bears : Tryz.prog.bearsReflect = false := by kernel_rfl
theorem fact_door : Tryz.prog.doorFits [] = true := by kernel_rfl
theorem fact_enter : Tryz.prog.mayEnter = true := fact_words.elim fun r h => enter_of _ r h fact_lays fact_bears fact_door
theorem fact_lifts : Tryz.prog.liftsFinal = false := fact_words.elim fun r h => lifts_of _ r h
theorem fact_make : Tryz.prog.make = some .cut := fact_words.elim fun r h => make_of _ r h
end Go.Proofs.YthbdnmnhoifnoaaGreatDoor

/- The wrap of a law whose row lists tables that the walk does not read, the world's shape kept: nothing of one program. -/
namespace Go.Proofs.YthbdnmnhoifnoaaGreatDoor
theorem handed_both {H : Type} {enc : TypeId × Value → H} {C : Checked} {os : Os} {f : FuncId} {fn : Func} {s : ChangeSpec} {laid : List (String × DataW Unit)}
    (own : ownKnob C.prog.godebug = none) (started : os.Started) (noInit : C.prog.inits.idxOf? f = none) (hfn : C.prog.funcs[f]? = some fn)
    (witness : ∃ (w : World) (tape : Tape) (i : Input), w.os = os ∧ (w.forCall tape i).Shaped C.prog ∧ i.vars = [] ∧ Input.okWide C.prog (w.forCall tape i) .any w.heap.size f i ∧
      ((s.pre enc C.prog fn [] false (w.forCall tape i).memory i.args ∧ laidMetH C.prog laid (w.forCall tape i).memory) ∧ sizedMet enc C.prog fn (OpenSpec.ofChange s) false (w.forCall tape i).memory i.args) ∧ Assume.holds {} C.prog (lone (Frame.enter C.prog f i.args .normal) [] (w.forCall tape i)))
    (contract : ∀ (W : World) (base : Nat) (args : Array Value) (ds gs : List (DataW H)) (before : List MemPlace),
      (∀ (j : Nat) t v, fn.params[j]? = some t → args[j]? = some v → Value.okWide C.prog W .any base t v) →
      DataW.Whole enc C.prog fn.params.toList s.vars false W args.toList ds gs before → laidMetH C.prog laid W → W.ShapedOpen C.prog →
      Calls C.prog f args W fun e W' => ∃ v, e = .returned v ∧ s.post enc C.prog fn false true false false W args v W') :
    ReturnsInHanded {} C os f .any (fun w args => (s.pre enc C.prog fn [] false w args ∧ laidMetH C.prog laid w) ∧ sizedMet enc C.prog fn (OpenSpec.ofChange s) false w args) (s.post enc C.prog fn false true false false) := by
  refine returnsInHanded_of_calls own started noInit witness ?_
  intro w tape i _ hsh _ hok hpre _
  obtain ⟨_, _, _, fn', hfn', _, _, _, _, hval⟩ := hok
  obtain rfl : fn' = fn := Option.some.inj (hfn'.symm.trans hfn)
  obtain ⟨⟨⟨ds, gs, before, hw, _⟩, hx⟩, _⟩ := hpre
  refine (contract (w.forCall tape i) w.heap.size i.args ds gs before hval (DataW.Whole.of_heap (w' := w.forCall tape i) (by rfl) hw) (hx.of_heap (by rfl)) hsh).mono fun e W' ⟨v, he, hp⟩ => ?_
  subst he
  exact ChangeSpec.post_blind hp
end Go.Proofs.YthbdnmnhoifnoaaGreatDoor

/- Rows that bear 'leaving' over a walk of one goroutine (a function value may lead to a go statement; the walk comes to none), and tied cards that bear 'goes'. Nothing of one program. -/
namespace Go.Proofs.YthbdnmnhoifnoaaGreatDoor
theorem leaving_of_handed {a : Assume} {C : Checked} {os : Os} {f : FuncId} {r : Reach} {Pre : World → Array Value → Prop} {Post : World → Array Value → Value → World → Prop} (h : ReturnsInHanded a C os f r Pre Post) :
    ReturnsInLeavingWide a C os f r Pre Post := fun enter =>
  ReturnsInOpen.mono (fun last _ _ x => ⟨x.2.1, ⟨fun g hg => ⟨0, by
    have h1 := x.1.1
    unfold Machine.othersDone at h1
    have := List.all_eq_true.1 h1 g hg
    show g.status = .finished
    simpa using this⟩, x.1.2⟩, x.2.2⟩) (fun _ x => x) (h enter)
theorem goesBy_true (c : OpenClaim) (P : Program) (f : FuncId) (hf : P.funcNamed c.func = some f) (hu : P.unfollowed f = true) (hg : P.funcs.any Func.goes = true) : true = c.goesBy P := by
  unfold OpenClaim.goesBy Program.goesAt Program.goesFrom
  rw [hf]
  have : P.goes f = true := by unfold Program.goes; rw [hu, hg]; simp
  simp [this]
theorem goesBy_false (c : OpenClaim) (P : Program) (f : FuncId) (hf : P.funcNamed c.func = some f) (hs : c.start = .entering) (hg : P.goes f = false) : false = c.goesBy P := by
  unfold OpenClaim.goesBy Program.goesAt Program.goesFrom
  rw [hf, hs]
  simp [hg]
/-- the tied card of a row that may start goroutines -/
theorem tied_goes (Lk : Looks) {p : Pinned} {s : OpenSpec} {c : OpenClaim} (kinds : List LaidKind) (tests : Bool) (har : Bool × String) (lk : Bool)
    (hc : c.holds p s) (hw : c.wfByText s = true) (htie : c.laidByTextAt Lk p kinds tests)
    (hst : c.start = .entering) (hnb : c.noBlocks = false ∧ c.again = false) (hm : p.checked.prog.mainIs = some (har.1, har.2.toList)) (hn : (!har.1 && har.2.isEmpty && !lk) = false)
    (hl : ∀ f fn, p.checked.prog.funcNamed c.func = some f → p.checked.prog.funcs[f]? = some fn → lk = p.checked.prog.looks [] ∧ ∀ (j : Nat) t, fn.params[j]? = some t → p.checked.prog.wantsStandIn t = false)
    (hg : true = c.goesBy p.checked.prog) :
    Claim7.holds p (.plain s) { stood := { row := c, standIns := [], harness := har, looks := lk }, kinds := [], alts := [], goes := true, laidByText := true, laidKinds := kinds, laidTests := tests, laidLooks := Lk } := by
  have h6 : Claim7.isSixth { stood := { row := c, standIns := [], harness := har, looks := lk }, kinds := [] } = false := by simpa [Claim7.isSixth] using hn
  exact ⟨Claim7.tied_new_at Lk kinds tests (Claim7.new_of_sixth hc har lk hst hnb hm h6 hl) hw, (fun _ h => by cases h), htie, (fun h => by cases h), hg⟩
end Go.Proofs.YthbdnmnhoifnoaaGreatDoor

/- What the rows' lists of variables give chapter 8's walks. -/
namespace Go.Proofs.YthbdnmnhoifnoaaGreatDoor
open Go.RowKit
set_option linter.unusedVariables false
set_option maxRecDepth 100000
theorem tb_at {W : World} (h : LaidItem Tryz.prog W "loop.example/peoplesnumerals/impl.alphaRankValues" Rows.laid_loop_example_peoplesnumerals_impl_alphaRankValues) : AT W := (tab_at h).1
theorem tb_rv {W : World} (h : LaidItem Tryz.prog W "loop.example/peoplesnumerals/impl.rankValues" Rows.laid_loop_example_peoplesnumerals_impl_rankValues) : RV W := (tab_rv h).1
theorem pw_data : (Rows.laid_internal_strconv_uint64pow10 : DataW Unit) = Lib.tabData .u64 Lib.pow10Tab := by rfl
theorem tb_pow {W : World} (h : LaidItem Tryz.prog W "internal/strconv.uint64pow10" Rows.laid_internal_strconv_uint64pow10) : PW W := tb_pw (by rw [← pw_data]; exact h)
end Go.Proofs.YthbdnmnhoifnoaaGreatDoor

/- Rows whose list holds tables of data, pinned tables and a type's handle: what a variable of data reads as, and a world that meets the list. -/
namespace Go.Proofs.YthbdnmnhoifnoaaGreatDoor
open Go.ChangeShapes Go.WideShapes Go.RowKit
set_option linter.unusedVariables false
set_option maxRecDepth 100000
set_option linter.unusedSimpArgs false
theorem laid_itemM {P : Program} {W : World} {L : List (String × DataW Unit)} {n : String} {d : DataW Unit} (h : laidMetH P L W) (hn : d.handleName? = none) (hm : (n, d) ∈ L) : LaidItem P W n d := by
  obtain ⟨⟨ps, h1, _⟩, _⟩ := laidMetH_iff.1 h
  exact laid_mem h1 (List.mem_filter.2 ⟨hm, by simp [hn]⟩)
/-- the settled world, the handle's cell laid -/
noncomputable def heldW (os : Os) : World :=
  let w0 := World.holding Tryz.prog os ⟨#[], #[], []⟩
  { w0 with heap := w0.heap.modify 7 fun
      | .cells _ t frozen => .cells #[.iface 272 (.agg #[typeHandle Tryz.prog 45])] t frozen
      | o => o }
/-- the list's data without the handles -/
def dataOf (L : List (String × DataW Unit)) : List (String × DataW Unit) := L.filter fun x => x.2.handleName?.isNone
/-- .. and the tables laid -/
noncomputable def mixW (os : Os) (L : List (String × DataW Unit)) : World := (heldW os).layVars Tryz.prog (dataOf L)
theorem mixW_os (os : Os) (L : List (String × DataW Unit)) : (mixW os L).os = os := (World.layVars_os _ _ _).trans rfl
theorem mix_met (os : Os) (L : List (String × DataW Unit)) (args : Array Value)
    (hf : (heldW os).layFits Tryz.prog (dataOf L) [] = true) (hi : (heldW os).layIfaces Tryz.prog (dataOf L) (mixW os L) = true)
    (hh : (L.filter fun x => x.2.handleName?.isSome).all (handleAtB Tryz.prog ((mixW os L).forCall (fun _ _ => 0) ⟨#[], args, []⟩).memory) = true) :
    laidMetH Tryz.prog L ((mixW os L).forCall (fun _ _ => 0) ⟨#[], args, []⟩).memory := by
  refine laidMetH_of_parts ?_ hh
  have e1 : ((dataOf L).filter fun x => ((dataOf L).map (·.1)).contains x.1) = dataOf L := List.filter_eq_self.2 fun x hx => List.contains_iff_mem.2 (List.mem_map.2 ⟨x, hx, rfl⟩)
  have e2 : ((dataOf L).filter fun x => !((dataOf L).map (·.1)).contains x.1) = [] := List.filter_eq_nil_iff.2 fun x hx => by rw [List.contains_iff_mem.2 (List.mem_map.2 ⟨x, hx, rfl⟩)]; simp
  have h : laidMet Tryz.prog (dataOf L) (mixW os L) := laidMet_layVars (w0 := heldW os) ((dataOf L).map (·.1)) [] (by rw [e1]; rfl) (by rw [e1]; exact hf) (by rw [e1]; exact hi) (by rw [e2]; exact LaidIn.none)
  exact h.of_heap (by simp [World.memory, World.forCall, Input.heap])
end Go.Proofs.YthbdnmnhoifnoaaGreatDoor

/- What the rows' lists of variables and the world's shape give chapter 9's walks. -/
namespace Go.Proofs.YthbdnmnhoifnoaaGreatDoor
open Go.RowKit
set_option linter.unusedVariables false
set_option maxRecDepth 100000
theorem maxI_of_shape {w : World} (h : w.ShapedOpen Tryz.prog) : MaxI w :=
  cell_of_shapedOpen_int (t := 3) (zero := #[.int .i64 0]) h (of_decide_eq_true (by kernel_rfl)) (by kernel_rfl) (by kernel_rfl) (by kernel_rfl) (by kernel_rfl) (by kernel_rfl)
theorem TB.ofz {W : World} (h1 : AT W) (h2 : RV W) (h3 : PW W) (hs : W.ShapedOpen Tryz.prog) : TB W ∧ MaxI W := ⟨⟨h1, h2, h3⟩, maxI_of_shape hs⟩
end Go.Proofs.YthbdnmnhoifnoaaGreatDoor

/- The package-level table letterValues: what the condition gives the walks, and that it reads again behind the call. -/
namespace Go.Proofs.YthbdnmnhoifnoaaGreatDoor
open Go.ChangeShapes Go.WideShapes Go.ChangeAt Go.WideMaps Go.WideElems Go.RowKit
set_option linter.unusedVariables false
set_option maxRecDepth 100000
/-- the values of the letters, in the order of their bytes; 0 behind them -/
def lv (j : Nat) : Int := [100, 500, 1, 50, 1000, 5, 10].getD j 0
/-- the table lies in its variable's block -/
def LV (w : World) : Prop := 6 < w.heap.size ∧ ∀ j, j < 7 → w.cell? ⟨6, j, none⟩ = some (.int .i64 (lv j))
def lvLaid : List (String × DataW Unit) := [("loop.example/peoplesnumerals/impl.letterValues", Rows.laid_loop_example_peoplesnumerals_impl_letterValues)]
def laidSteps : Nat := 400
theorem gLV : Tryz.prog.globalNamed "loop.example/peoplesnumerals/impl.letterValues" = some 6 := by kernel_rfl
theorem tLV : (Tryz.prog.globals[6]?).map (·.type) = some 238 := by kernel_rfl
theorem cLV : Tryz.prog.cellsOf 238 = 7 := by kernel_rfl
theorem cInt : Tryz.prog.cellsOf 3 = 1 := by kernel_rfl
def cells7 : Array Value := #[.int .i64 100, .int .i64 500, .int .i64 1, .int .i64 50, .int .i64 1000, .int .i64 5, .int .i64 10]
theorem door_met (os : Os) (args : Array Value) : laidMetH Tryz.prog lvLaid ((World.doorLaid Tryz.prog laidSteps os).forCall (fun _ _ => 0) ⟨#[], args, []⟩).memory :=
  laidMetH_of_parts3 (fuel := 8) (laidMet_of_run' 8 (by kernel_rfl) (by kernel_rfl)) (by kernel_rfl) (by kernel_rfl)
theorem int_of_trod {H : Type} {enc : TypeId × Value → H} {P : Program} {w : World} {base : Nat} {sp : Nat → Bool} {held : Bool} {fuel : Nat} {t : TypeId} {k : IntKind} {c : Value} {y : DataW H × List MemPlace}
    (ht : P.underlying t = some (.int k)) (h : DataW.trod enc P w base sp held fuel t [c] = some y) : ∃ n, c = .int k n ∧ y = (.lit (.int k n), []) := by
  cases fuel with
  | zero => simp [DataW.trod] at h
  | succ fuel =>
    cases c <;> simp [DataW.trod, ht] at h
    rename_i k' n
    obtain ⟨⟨rfl, _⟩, rfl⟩ := h
    exact ⟨n, rfl, rfl⟩
theorem cells_of_item {W : World} (h : LaidItem Tryz.prog W "loop.example/peoplesnumerals/impl.letterValues" Rows.laid_loop_example_peoplesnumerals_impl_letterValues) : W.var? Tryz.prog "loop.example/peoplesnumerals/impl.letterValues" = some cells7 := by
  obtain ⟨g, t, cs, fuel, p, hg, ht, hvar, hd⟩ := h
  obtain rfl := Option.some.inj (gLV.symm.trans hg)
  obtain rfl := Option.some.inj (tLV.symm.trans ht)
  rw [hvar]
  congr 1
  obtain ⟨l⟩ := cs
  cases fuel with
  | zero => simp [DataW.trod] at hd
  | succ fuel =>
    simp only [DataW.trod, Tryz.underlying238, cLV, cInt] at hd
    split at hd
    · rename_i hl
      obtain ⟨c0, c1, c2, c3, c4, c5, c6, rfl⟩ : ∃ c0 c1 c2 c3 c4 c5 c6, l = [c0, c1, c2, c3, c4, c5, c6] := by
        match l, hl with
        | [a, b, c, d, e, f, g], _ => exact ⟨a, b, c, d, e, f, g, rfl⟩
      have e : List.range 7 = [0, 1, 2, 3, 4, 5, 6] := rfl
      rw [e] at hd
      simp only [Option.map_eq_some_iff, List.mapM_cons, List.mapM_nil, Option.bind_eq_bind, Option.bind_eq_some_iff, Option.pure_def, Option.some.injEq] at hd
      obtain ⟨xs, ⟨y0, h0, _, ⟨y1, h1, _, ⟨y2, h2, _, ⟨y3, h3, _, ⟨y4, h4, _, ⟨y5, h5, _, ⟨y6, h6, _, rfl, rfl⟩, rfl⟩, rfl⟩, rfl⟩, rfl⟩, rfl⟩, rfl⟩, hx⟩ := hd
      obtain ⟨n0, rfl, rfl⟩ := int_of_trod Tryz.underlying3 h0
      obtain ⟨n1, rfl, rfl⟩ := int_of_trod Tryz.underlying3 h1
      obtain ⟨n2, rfl, rfl⟩ := int_of_trod Tryz.underlying3 h2
      obtain ⟨n3, rfl, rfl⟩ := int_of_trod Tryz.underlying3 h3
      obtain ⟨n4, rfl, rfl⟩ := int_of_trod Tryz.underlying3 h4
      obtain ⟨n5, rfl, rfl⟩ := int_of_trod Tryz.underlying3 h5
      obtain ⟨n6, rfl, rfl⟩ := int_of_trod Tryz.underlying3 h6
      simp [Rows.laid_loop_example_peoplesnumerals_impl_letterValues] at hx
      obtain ⟨⟨rfl, rfl, rfl, rfl, rfl, rfl, rfl⟩, _⟩ := hx
      rfl
    · cases hd
theorem cells_of_laid {W : World} (h : laidMetH Tryz.prog lvLaid W) : W.var? Tryz.prog "loop.example/peoplesnumerals/impl.letterValues" = some cells7 := by
  rw [MakeChecks.laidMetH_plain _ _ _ (by kernel_rfl)] at h
  obtain ⟨ps, ⟨g, t, cs, fuel, p, q, hg, ht, hvar, hd, _, _⟩, _⟩ := h
  exact cells_of_item ⟨g, t, cs, fuel, p, hg, ht, hvar, hd⟩
theorem lv_var {W : World} (hv : W.var? Tryz.prog "loop.example/peoplesnumerals/impl.letterValues" = some cells7) : LV W := by
  have hc : ∀ j, W.cell? ⟨6, j, none⟩ = cells7[j]? := fun j => World.var?_cell gLV hv j
  refine ⟨World.block_lt_of_cell? W ⟨6, 0, none⟩ (u := .int .i64 100) (hc 0), fun j hj => ?_⟩
  rw [hc j]
  rcases (show j = 0 ∨ j = 1 ∨ j = 2 ∨ j = 3 ∨ j = 4 ∨ j = 5 ∨ j = 6 by omega) with rfl | rfl | rfl | rfl | rfl | rfl | rfl <;> rfl
theorem lv_of_laid {W : World} (h : laidMetH Tryz.prog lvLaid W) : LV W := lv_var (cells_of_laid h)
abbrev tableH {H : Type} : DataW H := .agg [.lit (.int .i64 100), .lit (.int .i64 500), .lit (.int .i64 1), .lit (.int .i64 50), .lit (.int .i64 1000), .lit (.int .i64 5), .lit (.int .i64 10)]
theorem reads_table {H : Type} (enc : TypeId × Value → H) (W : World) (sp : Nat → Bool) : DataW.trod enc Tryz.prog W 0 sp true 3 238 cells7.toList = some (tableH, []) := by kernel_rfl
theorem tab_lv {W : World} (h : LaidItem Tryz.prog W "loop.example/peoplesnumerals/impl.letterValues" Rows.laid_loop_example_peoplesnumerals_impl_letterValues) : LV W ∧ TabAt Tryz.prog W "loop.example/peoplesnumerals/impl.letterValues" := by
  have hv := cells_of_item h
  have hf := lv_var hv
  exact ⟨hf, _, _, _, gLV, tLV, hv, hf.1, fun H enc => ⟨tableH, fun W' sp => reads_table enc W' sp⟩⟩
theorem laid_open {H : Type} {enc : TypeId × Value → H} {W : World} {gs : List (DataW H)} {q : List MemPlace} (hL : laidMetH Tryz.prog lvLaid W)
    (hV : DataW.TrodVars enc Tryz.prog W (fun _ => true) ["loop.example/peoplesnumerals/impl.letterValues"] gs q) :
    LV W ∧ ∃ d, gs = [d] ∧ ∃ pv, ∀ (sp : Nat → Bool) {W' : World}, Below W.heap.size W W' → DataW.TrodVars enc Tryz.prog W' sp ["loop.example/peoplesnumerals/impl.letterValues"] [d] pv := by
  have hlv := lv_of_laid hL
  obtain ⟨g, t, cs, fuel, d, p', rfl, hg, ht, hvar, hd, rfl⟩ := trodVars_one hV
  obtain rfl := Option.some.inj (gLV.symm.trans hg)
  obtain rfl := Option.some.inj (tLV.symm.trans ht)
  obtain rfl : cs = cells7 := Option.some.inj (hvar.symm.trans (cells_of_laid hL))
  obtain ⟨rfl, rfl⟩ := DataW.Trod.unique (v := .agg cells7) ⟨fuel, hd⟩ ⟨3, reads_table enc W _⟩
  refine ⟨hlv, _, rfl, MemPlace.row ⟨6, 0, none⟩ cells7.size ++ [] ++ [], fun sp W' bel => ?_⟩
  exact ⟨6, 238, cells7, 3, [], [], gLV, tLV, var?_below bel gLV hlv.1 hvar, reads_table enc W' sp, rfl, rfl⟩
theorem LV.below {B : Nat} {w w' : World} (h : LV w) (hb : Below B w w') (hB : 6 < B) : LV w' :=
  ⟨Nat.lt_of_lt_of_le h.1 hb.size, fun j hj => (hb.cell (p := ⟨6, j, none⟩) hB).trans (h.2 j hj)⟩
theorem LV.step {w w' : World} (h : LV w) (hb : Below w.heap.size w w') : LV w' := h.below hb h.1
theorem LV.alloc {w : World} (h : LV w) (o : Obj) : LV (w.alloc o) := h.step ((Below.refl _ _).alloc (Nat.le_refl _) o)
theorem LV.grown {w w' : World} {r : Nat} (h : LV w) (hg : w.grownBy w' (some r)) (hr : 6 < r) : LV w' :=
  ⟨Nat.lt_of_lt_of_le h.1 hg.size, fun j hj => hg.cell (h.2 j hj) (by simp; omega)⟩
end Go.Proofs.YthbdnmnhoifnoaaGreatDoor

/- The model's l1Value, RomanPiled. -/
namespace Go.Proofs.YthbdnmnhoifnoaaGreatDoor
open Go.RowKit
set_option linter.unusedVariables false
set_option maxRecDepth 100000
/-- the value of a letter -/
def rv (c : Int) : Int := if c = 73 then 1 else if c = 86 then 5 else if c = 88 then 10 else if c = 76 then 50 else if c = 67 then 100 else if c = 68 then 500 else if c = 77 then 1000 else 0
theorem take_len1 : ∀ (ps : List (List UInt8 × Nat)) (n : Nat), (∀ p ∈ ps, 1 ≤ p.2 ∧ p.1.length ≤ 1) → (take ps n).length ≤ n
  | [], n, _ => by simp [take]
  | p :: ps, n, h => by
    have hp := h p (by simp)
    have ih := take_len1 ps (n % p.2) (fun q hq => h q (by simp [hq]))
    have h1 : n / p.2 * p.1.length ≤ n / p.2 := by
      have := Nat.mul_le_mul_left (n / p.2) hp.2
      omega
    have h2 : p.2 * (n / p.2) + n % p.2 = n := Nat.div_add_mod n p.2
    have h3 : n / p.2 ≤ p.2 * (n / p.2) := Nat.le_mul_of_pos_left _ (by omega)
    simp only [take, List.length_append, many_length]
    omega
theorem piled_len (N : Nat) (txt : List UInt8) (k m : Nat) (ho : txt ++ take (addedP.drop k) m = piled N) : txt.length ≤ N := by
  have h := congrArg List.length ho
  have h2 : (piled N).length ≤ N := take_len1 addedP N (by decide)
  rw [List.length_append] at h
  omega
theorem piled_at (k : Nat) (h : k < 7) : ∃ (b : UInt8) (v : Nat), 1 ≤ v ∧ v ≤ 1000 ∧ (∀ hix, rv (((⟨#[77, 68, 67, 76, 88, 86, 73]⟩ : ByteArray)[k]'hix).toNat : Int) = (v : Int)) ∧
    (⟨#[77, 68, 67, 76, 88, 86, 73]⟩ : ByteArray).extract k (k + 1) = ⟨[b].toArray⟩ ∧ addedP.drop k = ([b], v) :: addedP.drop (k + 1) := by
  rcases (show k = 0 ∨ k = 1 ∨ k = 2 ∨ k = 3 ∨ k = 4 ∨ k = 5 ∨ k = 6 by omega) with rfl | rfl | rfl | rfl | rfl | rfl | rfl
  · exact ⟨77, 1000, by decide, by decide, fun _ => rfl, rfl, rfl⟩
  · exact ⟨68, 500, by decide, by decide, fun _ => rfl, rfl, rfl⟩
  · exact ⟨67, 100, by decide, by decide, fun _ => rfl, rfl, rfl⟩
  · exact ⟨76, 50, by decide, by decide, fun _ => rfl, rfl, rfl⟩
  · exact ⟨88, 10, by decide, by decide, fun _ => rfl, rfl, rfl⟩
  · exact ⟨86, 5, by decide, by decide, fun _ => rfl, rfl, rfl⟩
  · exact ⟨73, 1, by decide, by decide, fun _ => rfl, rfl, rfl⟩
end Go.Proofs.YthbdnmnhoifnoaaGreatDoor

/- Loose texts, plain: the letters by their numbers, values. -/
namespace Go.Proofs.YthbdnmnhoifnoaaGreatDoor
set_option linter.unusedVariables false
set_option maxRecDepth 100000
/-- the number of a letter, in the order of the bytes; 7 for another byte -/
def li (c : Int) : Nat := if c = 67 then 0 else if c = 68 then 1 else if c = 73 then 2 else if c = 76 then 3 else if c = 77 then 4 else if c = 86 then 5 else if c = 88 then 6 else 7
/-- the byte of a letter -/
def sg (l : Nat) : Int := [67, 68, 73, 76, 77, 86, 88].getD l 0
theorem li_le (c : Int) : li c ≤ 7 := by unfold li; repeat (first | omega | split)
theorem li_sg (l : Nat) (h : l < 7) : li (sg l) = l := by
  rcases (show l = 0 ∨ l = 1 ∨ l = 2 ∨ l = 3 ∨ l = 4 ∨ l = 5 ∨ l = 6 by omega) with rfl | rfl | rfl | rfl | rfl | rfl | rfl <;> rfl
theorem sg_li (c : Int) (h : li c < 7) : sg (li c) = c := by
  by_cases h1 : c = 67
  · subst h1; rfl
  by_cases h2 : c = 68
  · subst h2; rfl
  by_cases h3 : c = 73
  · subst h3; rfl
  by_cases h4 : c = 76
  · subst h4; rfl
  by_cases h5 : c = 77
  · subst h5; rfl
  by_cases h6 : c = 86
  · subst h6; rfl
  by_cases h7 : c = 88
  · subst h7; rfl
  simp [li, h1, h2, h3, h4, h5, h6, h7] at h
theorem li_none (c : Int) (h : ∀ j, j < 7 → sg j ≠ c) : li c = 7 := by
  have := li_le c
  rcases Nat.lt_or_ge (li c) 7 with h7 | h7
  · exact absurd (sg_li c h7) (h _ h7)
  · omega
theorem rv_li (c : Int) : rv c = lv (li c) := by
  unfold rv li
  by_cases h1 : c = 73
  · subst h1; rfl
  by_cases h2 : c = 86
  · subst h2; rfl
  by_cases h3 : c = 88
  · subst h3; rfl
  by_cases h4 : c = 76
  · subst h4; rfl
  by_cases h5 : c = 67
  · subst h5; rfl
  by_cases h6 : c = 68
  · subst h6; rfl
  by_cases h7 : c = 77
  · subst h7; rfl
  simp [h1, h2, h3, h4, h5, h6, h7, lv]
theorem lv_bd (l : Nat) : 0 ≤ lv l ∧ lv l ≤ 1000 := by
  unfold lv
  match l with
  | 0 | 1 | 2 | 3 | 4 | 5 | 6 => simp
  | _ + 7 => simp
theorem lv_pos (l : Nat) (h : l < 7) : 1 ≤ lv l := by
  rcases (show l = 0 ∨ l = 1 ∨ l = 2 ∨ l = 3 ∨ l = 4 ∨ l = 5 ∨ l = 6 by omega) with rfl | rfl | rfl | rfl | rfl | rfl | rfl <;> decide
/-- what a text becomes with letter l in front of one that begins with f and has the value v -/
def bef (l f : Nat) (v : Int) : Int := if lv l < lv f then v - lv l else v + lv l
/-- the first letter's number; I for the empty text -/
def fst1 : List UInt8 → Nat
  | [] => 2
  | c :: _ => li (c.toNat : Int)
/-- the value -/
def looseL : List UInt8 → Int
  | [] => 0
  | c :: r => bef (li (c.toNat : Int)) (fst1 r) (looseL r)
def okL (s : List UInt8) : Bool := s.all fun c => decide (li (c.toNat : Int) < 7)
theorem looseL_bd (s : List UInt8) : -(1000 * s.length : Int) ≤ looseL s ∧ looseL s ≤ 1000 * s.length := by
  induction s with
  | nil => simp [looseL]
  | cons c r ih =>
    have := lv_bd (li (c.toNat : Int))
    simp only [looseL, bef, List.length_cons]
    split <;> omega
theorem okL_cons (c : UInt8) (r : List UInt8) : okL (c :: r) = (decide (li (c.toNat : Int) < 7) && okL r) := rfl
/-- RomanLoose's answer -/
def looseR (s : List UInt8) : Value := if 1 ≤ s.length ∧ s.length ≤ 16 ∧ okL s = true then .tuple #[.int .i64 (looseL s), .bool true] else .tuple #[.int .i64 0, .bool false]
end Go.Proofs.YthbdnmnhoifnoaaGreatDoor

/- The program's letters: sign, value, isTakenOff, letterOf, before, noText. -/
namespace Go.Proofs.YthbdnmnhoifnoaaGreatDoor
open Go.RowKit
set_option linter.unusedVariables false
set_option maxRecDepth 100000
theorem ret_of {a b : Value} (h : a = b) : Ending.returned a = .returned b := by rw [h]
theorem value_any (l : Nat) (w : World) (hl : LV w) (h : l < 7) : Calls Tryz.prog 174 #[.int .i64 l] w fun e w' => e = .returned (.int .i64 (lv l)) ∧ w = w' := by
  have hc := hl.2 l h
  clear hl
  go_enter Tryz.func174, Tryz.ntmps174
  go_wp2
  go_ret
  exact ⟨rfl, rfl⟩
theorem sign_any (l : Nat) (w : World) (h : l < 7) : Calls Tryz.prog 140 #[.int .i64 l] w fun e w' => e = .returned (.int .u8 (sg l)) ∧ w = w' := by
  have he : ∀ hix, ((((⟨#[67, 68, 73, 76, 77, 86, 88]⟩ : ByteArray)[l]'hix).toNat : Int)) = sg l := by
    rcases (show l = 0 ∨ l = 1 ∨ l = 2 ∨ l = 3 ∨ l = 4 ∨ l = 5 ∨ l = 6 by omega) with rfl | rfl | rfl | rfl | rfl | rfl | rfl <;> (intro _; rfl)
  have He := Lib.hid he; clear he
  go_enter Tryz.func140, Tryz.ntmps140
  go_wp2
  go_ret
  exact ⟨ret_int (He.out _), rfl⟩
theorem takenOff_any (l b : Nat) (w : World) (hl : LV w) (h : l < 7) (hb : b < 7) : Calls Tryz.prog 173 #[.int .i64 l, .int .i64 b] w fun e w' => e = .returned (.bool (decide (lv l < lv b))) ∧ w = w' := by
  have H := Lib.hid hl; clear hl
  go_enter Tryz.func173, Tryz.ntmps173
  go_wp2_with fail
  refine (value_any l _ H.out h).mono ?_
  rintro e w1 ⟨rfl, rfl⟩
  go_wp2_with fail
  refine (value_any b _ H.out hb).mono ?_
  rintro e w1 ⟨rfl, rfl⟩
  go_wp2_with fail
  go_ret
  exact ⟨rfl, rfl⟩
theorem noText_any (w : World) : Calls Tryz.prog 128 #[] w fun e w' => e = .returned (.agg #[.int .i64 2, .int .i64 0]) ∧ Below w.heap.size w w' := by
  go_enter Tryz.func128, Tryz.ntmps128
  go_wp2
  exact bodyPost_ret (v := .agg #[.int .i64 2, .int .i64 0]) (by simp [results, Tryz.results128, go_sem]) rfl ⟨rfl, (Below.refl _ _).alloc (Nat.le_refl _) _⟩
theorem before_any (l f : Nat) (v : Int) (w : World) (hl : LV w) (h : l < 7) (hf : f < 7) (h0 : -1000000 ≤ v) (h1 : v ≤ 1000000) :
    Calls Tryz.prog 130 #[.int .i64 l, .agg #[.int .i64 f, .int .i64 v]] w fun e w' => e = .returned (.agg #[.int .i64 l, .int .i64 (bef l f v)]) ∧ Below w.heap.size w w' := by
  have hlb := lv_bd l
  unfold bef
  have H := Lib.hid hl; clear hl
  have hw1 : IntKind.i64.wrap (v - lv l) = v - lv l := IntWalk.i64_in _ (by omega)
  have hw2 : IntKind.i64.wrap (v + lv l) = v + lv l := IntWalk.i64_in _ (by omega)
  by_cases hc : lv l < lv f
  · rw [if_pos hc]
    clear hw2
    go_enter Tryz.func130, Tryz.ntmps130
    go_wp2_with fail
    refine (takenOff_any l f _ ((H.out.alloc _).alloc _) h hf).mono ?_
    rintro e w1 ⟨rfl, rfl⟩
    rw [decide_eq_true hc]
    go_wp2_with fail
    refine wp_region_still_tail 7 (by kernel_rfl) (by kernel_rfl) ?_
    simp only [List.take_succ_cons, List.take_zero, List.drop_succ_cons, List.drop_zero]
    change wpStill _ _ (World.drew _) _ _ _
    repeat still_step
    still_call ((value_any l _ (((H.out.alloc _).alloc _).step (Below.refl _ _).drew) h).mono fun _ _ q => ⟨q.1, q.2.symm⟩)
    repeat still_step
    refine wpStill_nil ?_
    change wpList _ _ _ _ _ (World.drew _)
    go_wp2
    exact bodyPost_ret (v := .agg #[.int .i64 l, .int .i64 (v - lv l)]) (by simp [results, Tryz.results130, go_sem]) rfl ⟨rfl, ((((Below.refl _ _).alloc (Nat.le_refl _) _).alloc (by simp) _).drew)⟩
  · rw [if_neg hc]
    clear hw1
    go_enter Tryz.func130, Tryz.ntmps130
    go_wp2_with fail
    refine (takenOff_any l f _ ((H.out.alloc _).alloc _) h hf).mono ?_
    rintro e w1 ⟨rfl, rfl⟩
    rw [show decide (lv l < lv f) = false from decide_eq_false (by omega)]
    go_wp2_with fail
    refine wp_region_still_tail 7 (by kernel_rfl) (by kernel_rfl) ?_
    simp only [List.take_succ_cons, List.take_zero, List.drop_succ_cons, List.drop_zero]
    change wpStill _ _ (World.drew _) _ _ _
    repeat still_step
    still_call ((value_any l _ (((H.out.alloc _).alloc _).step (Below.refl _ _).drew) h).mono fun _ _ q => ⟨q.1, q.2.symm⟩)
    repeat still_step
    refine wpStill_nil ?_
    change wpList _ _ _ _ _ (World.drew _)
    go_wp2
    exact bodyPost_ret (v := .agg #[.int .i64 l, .int .i64 (v + lv l)]) (by simp [results, Tryz.results130, go_sem]) rfl ⟨rfl, ((((Below.refl _ _).alloc (Nat.le_refl _) _).alloc (by simp) _).drew)⟩
/-- letterOf's answer -/
def letterOfR (c : Int) : Value := if li c < 7 then .tuple #[.int .i64 (li c : Nat), .bool true] else .tuple #[.int .i64 0, .bool false]
theorem letterOf_any (c : Int) (w : World) : Calls Tryz.prog 129 #[.int .u8 c] w fun e w' => e = .returned (letterOfR c) ∧ w = w' := by
  go_enter Tryz.func129, Tryz.ntmps129
  go_wp2_with fail
  go_loop [5] (fun i => ∃ k : Nat, i = .int .i64 k ∧ k ≤ 7 ∧ ∀ j, j < k → sg j ≠ c) (fun i => 7 - (intOf i).toNat)
  case atStart => exact ⟨0, rfl, by omega, fun j hj => by omega⟩
  case round =>
    obtain ⟨k, rfl, hk, hno⟩ := hrel
    have Hno := Lib.hid hno; clear hno
    by_cases hlt : k < 7
    · by_cases he : sg k = c
      · have ht : (sg k == c) = true := by rw [beq_iff_eq]; exact he
        have Hr : Hid (letterOfR c = .tuple #[.int .i64 (k : Nat), .bool true]) := by
          show _ = _
          unfold letterOfR
          rw [← he, li_sg k hlt, if_pos hlt]
        clear he
        go_wp2_with fail
        refine (sign_any k _ hlt).mono ?_
        rintro e w1 ⟨rfl, rfl⟩
        go_wp2_with fail
        go_ret2
        exact ⟨ret_of Hr.out.symm, rfl⟩
      · have ht : (sg k == c) = false := by rw [beq_eq_false_iff_ne]; exact he
        have Hst : Hid (∀ j, j < k + 1 → sg j ≠ c) := fun j hj => by
          by_cases e : j = k
          · subst e; exact he
          · exact Hno.out j (by omega)
        clear he
        go_wp2_with fail
        refine (sign_any k _ hlt).mono ?_
        rintro e w1 ⟨rfl, rfl⟩
        go_wp2_with fail
        go_round
        case rel => exact ⟨k + 1, by go_num, by omega, Hst.out⟩
        case measure => simp [intOf]; omega
    · obtain rfl : k = 7 := by omega
      have Hr : Hid (letterOfR c = .tuple #[.int .i64 0, .bool false]) := by
        show _ = _
        unfold letterOfR
        rw [li_none c Hno.out, if_neg (by omega)]
      go_wp2_with fail
      go_ret2
      exact ⟨ret_of Hr.out.symm, rfl⟩
end Go.Proofs.YthbdnmnhoifnoaaGreatDoor

/- The program's RomanLoose. -/
namespace Go.Proofs.YthbdnmnhoifnoaaGreatDoor
open Go.RowKit
set_option linter.unusedVariables false
set_option maxRecDepth 100000
/-- both cells of a block of two are stored -/
theorem set2 {w : World} {b : Nat} {x y x' y' : Value} {T : TypeId} (h : w.heap[b]? = some (.cells #[x, y] T (0, 0))) :
    ((w.setCell ⟨b, 0, none⟩ x').setCell ⟨b, 1, none⟩ y').heap[b]? = some (.cells #[x', y'] T (0, 0)) := by
  simpa using heap_setCell_same (w.setCell ⟨b, 0, none⟩ x') b 1 _ T y' (heap_setCell_same w b 0 _ T x' h)
theorem free2 {w : World} {b j : Nat} {C : Array Value} {T : TypeId} (h : w.heap[b]? = some (.cells C T (0, 0))) : w.frozen? ⟨b, j, none⟩ = false := by simp [World.frozen?, h]
theorem fst1_lt (s : List UInt8) (h : okL s = true) : fst1 s < 7 := by
  cases s with
  | nil => decide
  | cons c r =>
    rw [okL_cons, Bool.and_eq_true] at h
    exact of_decide_eq_true h.1
theorem drop_at (l : List UInt8) (j : Nat) (hj : j < l.length) : l.drop j = l[j] :: l.drop (j + 1) := List.drop_eq_getElem_cons hj
theorem okL_drop (l : List UInt8) (j : Nat) (h : okL l = true) : okL (l.drop j) = true := by
  unfold okL at *
  rw [List.all_eq_true] at *
  exact fun x hx => h x (List.mem_of_mem_drop hx)
theorem iRomanLoose_in (l : List UInt8) (w : World) (hl : LV w) (h1 : 1 ≤ l.length) (h2 : l.length ≤ 16) : Calls Tryz.prog 95 #[.string ⟨l.toArray⟩] w fun e w' => e = .returned (looseR l) ∧ Below w.heap.size w w' := by
  have H := Lib.hid hl; clear hl
  go_enter Tryz.func95, Tryz.ntmps95
  go_wp2_with fail
  refine (noText_any _).mono ?_
  rintro e w1 ⟨rfl, g1⟩
  have Hw1 := Lib.hid (H.out.step g1)
  go_wp2_with fail
  go_loopw [5] (fun i wr => ∃ v : Int, i = .int .i64 v ∧ -1 ≤ v ∧ v < l.length ∧ okL (l.drop (v + 1).toNat) = true ∧ wr.heap[w1.heap.size]? = some (.cells #[.int .i64 (fst1 (l.drop (v + 1).toNat) : Nat), .int .i64 (looseL (l.drop (v + 1).toNat))] 131 (0, 0)) ∧ Below w1.heap.size w1 wr) (fun i _ => (intOf i + 1).toNat)
  case atStart =>
    refine ⟨_, rfl, by omega, by omega, ?_, ?_, (Below.refl _ _).alloc (Nat.le_refl _) _⟩
    · rw [show ((l.length : Int) - 1 + 1).toNat = l.length by omega, List.drop_length]; rfl
    · rw [show ((l.length : Int) - 1 + 1).toNat = l.length by omega, List.drop_length]; exact heap_alloc_new _ _
  case round =>
    obtain ⟨v, rfl, hv0, hv1, hok, htb, hbel⟩ := hrel
    by_cases hge : 0 ≤ v
    · obtain ⟨j, rfl⟩ := Int.eq_ofNat_of_zero_le hge
      have hj : j < l.length := by omega
      rw [show ((j : Int) + 1).toNat = j + 1 by omega] at hok htb
      have Hdr := Lib.hid (drop_at l j hj)
      have hbd := looseL_bd (l.drop (j + 1))
      have hle : (l.drop (j + 1)).length ≤ 16 := by simp; omega
      have hfl := fst1_lt _ hok
      generalize hR : l.drop (j + 1) = R at *
      have HR := Lib.hid hR; clear hR
      generalize hf : fst1 R = f at *
      generalize hx : looseL R = x at *
      have Hf := Lib.hid hf; have Hx := Lib.hid hx; clear hf hx
      have hc0 := cell_at htb (j := 0) rfl
      have hc1 := cell_at htb (j := 1) rfl
      have hlr : LV wr := Hw1.out.step hbel
      have Hlr := Lib.hid hlr; clear hlr
      obtain ⟨z, hz⟩ : ∃ z, li (l[j].toNat : Int) = z := ⟨_, rfl⟩
      have Hz := Lib.hid hz; clear hz
      by_cases hli : z < 7
      · have Hans : Hid (∀ hix, letterOfR (((⟨l.toArray⟩ : ByteArray)[j]'hix).toNat : Int) = .tuple #[.int .i64 (z : Nat), .bool true]) := fun hix => by
          show letterOfR (l[j].toNat : Int) = _
          unfold letterOfR; rw [Hz.out, if_pos hli]
        have hokj : Hid (okL (l.drop j) = true) := by
          show _ = _
          rw [Hdr.out, okL_cons, Bool.and_eq_true, Hz.out]; exact ⟨decide_eq_true hli, hok⟩
        have Hval : Hid (looseL (l.drop j) = bef z f x) := by
          show _ = _
          rw [Hdr.out, looseL, Hf.out, Hx.out, Hz.out]
        have Hfst : Hid (fst1 (l.drop j) = z) := by show _ = _; rw [Hdr.out]; exact Hz.out
        go_wp2_with fail
        refine (letterOf_any _ _).mono ?_
        rw [Hans.out]
        rintro e w2 ⟨rfl, rfl⟩
        go_wp2_with fail
        refine (before_any z f x _ Hlr.out hli hfl (by omega) (by omega)).mono ?_
        rintro e w2 ⟨rfl, g2⟩
        have hsz : w1.heap.size < wr.heap.size := lt_of_block' htb
        have htb2 := (g2.block _ hsz).trans htb
        have hd0 := cell_at htb2 (j := 0) rfl
        have hd1 := cell_at htb2 (j := 1) rfl
        have hf0 : w2.frozen? ⟨w1.heap.size, 0, none⟩ = false := free2 htb2
        have hf1 : w2.frozen? ⟨w1.heap.size, 1, none⟩ = false := free2 htb2
        have R1 := set2 (x' := .int .i64 (z : Nat)) (y' := .int .i64 (bef z f x)) htb2
        have R2 : Below w1.heap.size w1 ((w2.setCell ⟨w1.heap.size, 0, none⟩ (.int .i64 (z : Nat))).setCell ⟨w1.heap.size, 1, none⟩ (.int .i64 (bef z f x))) :=
          (((bel_under hbel hbel.size g2).setCell (p := ⟨w1.heap.size, 0, none⟩) (Nat.le_refl _) _).setCell (p := ⟨w1.heap.size, 1, none⟩) (Nat.le_refl _) _)
        clear hc0 hc1 htb htb2 g2 hbel
        have HR1 := Lib.hid R1; have HR2 := Lib.hid R2; clear R1 R2
        go_wp2_with fail
        go_roundw
        case rel =>
          refine ⟨(j : Int) - 1, rfl, by omega, by omega, ?_, ?_, HR2.out⟩
          · rw [show ((j : Int) - 1 + 1).toNat = j by omega]; exact hokj.out
          · rw [show ((j : Int) - 1 + 1).toNat = j by omega, Hfst.out, Hval.out]; exact HR1.out
        case measure => simp [intOf]
      · have Hans : Hid (∀ hix, letterOfR (((⟨l.toArray⟩ : ByteArray)[j]'hix).toNat : Int) = .tuple #[.int .i64 0, .bool false]) := fun hix => by
          show letterOfR (l[j].toNat : Int) = _
          unfold letterOfR; rw [Hz.out, if_neg hli]
        have Hfin : Hid (looseR l = .tuple #[.int .i64 0, .bool false]) := by
          show _ = _
          unfold looseR
          rw [if_neg]
          rintro ⟨_, _, h3⟩
          have h4 := okL_drop l j h3
          rw [Hdr.out, okL_cons, Bool.and_eq_true, Hz.out] at h4
          exact hli (of_decide_eq_true h4.1)
        clear hli
        go_wp2_with fail
        refine (letterOf_any _ _).mono ?_
        rw [Hans.out]
        rintro e w2 ⟨rfl, rfl⟩
        go_wp2_with fail
        go_ret2
        exact ⟨ret_of Hfin.out.symm, bel_chain g1 hbel⟩
    · obtain rfl : v = -1 := by omega
      rw [show ((-1 : Int) + 1).toNat = 0 from rfl, List.drop_zero] at hok htb
      have Hfin : Hid (looseR l = .tuple #[.int .i64 (looseL l), .bool true]) := by
        show _ = _
        unfold looseR
        rw [if_pos ⟨h1, h2, hok⟩]
      have hc1 := cell_at htb (j := 1) rfl
      clear hok
      go_wp2_with fail
      go_ret2
      exact ⟨ret_of Hfin.out.symm, bel_chain g1 hbel⟩
theorem iRomanLoose_out (s : ByteArray) (w : World) (h : ¬ (1 ≤ s.size ∧ s.size ≤ 16)) : Calls Tryz.prog 95 #[.string s] w fun e w' => e = .returned (.tuple #[.int .i64 0, .bool false]) ∧ Below w.heap.size w w' := by
  by_cases h1 : s.size < 1
  · have h1' : s.size = 0 := by omega
    clear h
    go_enter Tryz.func95, Tryz.ntmps95
    go_wp2
    go_ret2
    exact ⟨rfl, Below.refl _ _⟩
  · have h2 : 16 < s.size := by omega
    clear h
    go_enter Tryz.func95, Tryz.ntmps95
    go_wp2
    go_ret2
    exact ⟨rfl, Below.refl _ _⟩
theorem looseR_out (l : List UInt8) (h : ¬ (1 ≤ l.length ∧ l.length ≤ 16)) : looseR l = .tuple #[.int .i64 0, .bool false] := by
  unfold looseR
  rw [if_neg]
  rintro ⟨h1, h2, _⟩
  exact h ⟨h1, h2⟩
theorem iRomanLoose_any (l : List UInt8) (w : World) (hl : LV w) : Calls Tryz.prog 95 #[.string ⟨l.toArray⟩] w fun e w' => e = .returned (looseR l) ∧ Below w.heap.size w w' := by
  by_cases h : 1 ≤ l.length ∧ l.length ≤ 16
  · exact iRomanLoose_in l w hl h.1 h.2
  · rw [looseR_out l h]
    refine iRomanLoose_out ⟨l.toArray⟩ w ?_
    have e : (⟨l.toArray⟩ : ByteArray).size = l.length := by show l.toArray.size = l.length; simp
    rw [e]
    exact h
theorem as_list (s : ByteArray) : ∃ l : List UInt8, s = ⟨l.toArray⟩ := ⟨s.data.toList, by cases s; simp⟩
/-- the strict value's answer: that of strictValue -/
def strictB (l : List UInt8) : Bool := decide (1 ≤ l.length ∧ l.length ≤ 16 ∧ okL l = true ∧ 1 ≤ looseL l ∧ looseL l ≤ 3999 ∧ strict (looseL l).toNat = l)
end Go.Proofs.YthbdnmnhoifnoaaGreatDoor

/- The draws of chapter 1 (package spec): what each law draws. -/
namespace Go.Proofs.YthbdnmnhoifnoaaGreatDoor
open Go.RowKit
set_option linter.unusedVariables false
set_option maxRecDepth 100000
theorem draw_of (a : Option Addr) (len cap : Nat) (zs : List Int) (w : World) (h : IsRow .u8 w a len cap zs) :
    Calls Tryz.prog 5 #[.slice a len cap] w fun e w' => ∃ x : Int, 0 ≤ x ∧ x ≤ 4000 ∧ e = .returned (.int .i64 x) ∧ Below w.heap.size w w' := by
  have H := Lib.hid h; clear h
  go_enter Tryz.func5, Tryz.ntmps5
  go_wp2_with fail
  refine (l91One_any a len cap zs _ H.out).mono ?_
  rintro e w1 ⟨x, hx0, hx1, rfl, g1⟩
  go_wp2_with fail
  go_ret
  exact ⟨x, hx0, hx1, rfl, g1⟩
end Go.Proofs.YthbdnmnhoifnoaaGreatDoor

/- The law FnExecuteRoman: its walk. -/
namespace Go.Proofs.YthbdnmnhoifnoaaGreatDoor
open Go.RowKit
set_option linter.unusedVariables false
set_option linter.unusedSimpArgs false
set_option maxRecDepth 100000
theorem dcm_line (n : Nat) : (10 : UInt8) ∉ dcm n := fun h => by
  have := List.all_eq_true.1 (dcm_back n).2 10 h
  exact absurd this (by decide)
/-- the script of two lines -/
def roT (n : Nat) : List UInt8 := ([110, 117, 109, 98, 101, 114] ++ 32 :: dcm n) ++ 10 :: (([97, 115] ++ 32 :: [114]) ++ 10 :: [])
theorem roT_pcs (n : Nat) : pcs 10 (roT n) = [[110, 117, 109, 98, 101, 114] ++ 32 :: dcm n, [97, 115] ++ 32 :: [114], []] := by
  unfold roT
  rw [pcs_hit _ (by intro h1; simp at h1; exact dcm_line n h1), pcs_hit [] (by decide)]
  rfl
theorem Dsk.ne {w : World} {D b : Nat} {n : Int} {v : Value} (hd : Dsk w D n v) (hb : ∃ c fz, w.heap[b]? = some (.cells c 43 fz)) : D ≠ b := by
  rintro rfl
  obtain ⟨c, fz, hb⟩ := hb
  have := hd.symm.trans hb
  injection this with this
  injection this with _ h2 _
  exact absurd h2 (by decide)
/-- what is told -/
def roO (n : Nat) : List UInt8 := [111, 107, 10] ++ strict n ++ [10] ++ endT n
theorem exec_roman (n : Nat) (w : World) (h1 : 1 ≤ n) (h2 : n ≤ 3999) (hT : TB w) (hm : MaxI w) :
    Calls Tryz.prog 8 #[.string ⟨(roT n).toArray⟩] w fun e w' => e = .returned (.string ⟨(roO n).toArray⟩) ∧ Below w.heap.size w w' := by
  have hp := roT_pcs n
  have hl := (dcm_short n (by omega)).2
  have hst := strict_len n (by omega)
  have hch : chO [114] (n : Int) = some (strict n) := by rw [chO_r, if_pos (by omega)]; simp
  have E := exec_any (roT n) w (by unfold roT; simp; omega) hm hT.2.2 (fun k W => ∃ v, Dsk W (w.heap.size + 1) (if k = 0 then 1 else n : Nat) v) (fun k => if k = 0 then [111, 107] else if k = 1 then strict n else []) n (by omega)
    (fun k => by
      by_cases k0 : k = 0
      · simp [k0]
      · by_cases k1 : k = 1
        · simp [k1]; omega
        · simp [k0, k1])
    (fun W _ hd _ => ⟨_, hd⟩)
    (fun k q W hq hk ⟨v, hd⟩ hB => by
      rw [hp] at hq hk
      rcases (show k = 0 ∨ k = 1 by simp at hk; omega) with rfl | rfl
      · obtain rfl : [110, 117, 109, 98, 101, 114] ++ 32 :: dcm n = q := Option.some.inj hq
        refine (ansR_ok 53 [110, 117, 109, 98, 101, 114] (dcm n) (w.heap.size + 1) 1 n v v [111, 107] W (by decide) (by simp; omega) (hm.below hB) hd
          (fun W b hb => commandOfR_at W b ⟨#[110, 117, 109, 98, 101, 114]⟩ 53 (lkR_number W b hb)) (fun _ _ => by kernel_rfl)
          (fun W' hB' hd' => (number_yes (dcm n) n _ 1 v W' (by omega) (nmO_dcm n (by omega)) hd').mono fun e W2 ⟨he, hw⟩ => ⟨he, hw ▸ hd'.set0 _, hw ▸ (But.refl _ _ _).set _ _⟩)).mono ?_
        rintro e W' ⟨rfl, h1, h2⟩
        exact ⟨rfl, ⟨v, h1⟩, h2⟩
      · obtain rfl : [97, 115] ++ 32 :: [114] = q := Option.some.inj hq
        refine (ansR_ok 60 [97, 115] [114] (w.heap.size + 1) n n v v (strict n) W (by decide) (by simp) (hm.below hB) hd
          (fun W b hb => commandOfR_at W b ⟨#[97, 115]⟩ 60 (lkR_as W b hb)) (fun _ _ => by kernel_rfl)
          (fun W' hB' hd' => (as_yes [114] (strict n) _ n v W' (by simp) (hT.step (bel_chain hB hB')) hd' (by constructor <;> omega) hch).mono fun e W2 ⟨he, hw⟩ => ⟨he, hd'.below hw hd'.lt, But.of hw⟩)).mono ?_
        rintro e W' ⟨rfl, h1, h2⟩
        exact ⟨rfl, ⟨v, h1⟩, h2⟩)
    (fun k b W W' ⟨v, hd⟩ hb ho => ⟨v, hd.others ho (hd.ne hb)⟩)
    (fun W ⟨v, hd⟩ => ⟨v, by rw [hp] at hd; exact hd⟩)
  rw [hp] at E
  have ho : roO n = outC (fun k => if k = 0 then [111, 107] else if k = 1 then strict n else []) 2 ++ endT n := by simp [roO, outC]
  rw [ho]
  exact E
theorem cat3 (a b c : List UInt8) : (⟨a.toArray⟩ : ByteArray) ++ ⟨b.toArray⟩ ++ ⟨c.toArray⟩ = ⟨(a ++ b ++ c).toArray⟩ := by rw [xcat a b, xcat (a ++ b) c]
theorem roT_cat (n : Nat) : (⟨#[110, 117, 109, 98, 101, 114, 32]⟩ : ByteArray) ++ ⟨(dcm n).toArray⟩ ++ ⟨#[10, 97, 115, 32, 114, 10]⟩ = ⟨(roT n).toArray⟩ := by
  rw [show roT n = [110, 117, 109, 98, 101, 114, 32] ++ dcm n ++ [10, 97, 115, 32, 114, 10] by simp [roT]]
  exact cat3 [110, 117, 109, 98, 101, 114, 32] (dcm n) [10, 97, 115, 32, 114, 10]
theorem roO_cat (n : Nat) : (⟨(roO n).toArray⟩ : ByteArray) = ⟨#[111, 107, 10]⟩ ++ ⟨(strict n).toArray⟩ ++ ⟨#[10, 110, 117, 109, 98, 101, 114, 32]⟩ ++ ⟨(dcm n).toArray⟩ ++ ⟨#[10]⟩ := by
  rw [show roO n = [111, 107, 10] ++ strict n ++ [10, 110, 117, 109, 98, 101, 114, 32] ++ dcm n ++ [10] by simp [roO, endT]]
  rw [show (⟨#[111, 107, 10]⟩ : ByteArray) ++ ⟨(strict n).toArray⟩ ++ ⟨#[10, 110, 117, 109, 98, 101, 114, 32]⟩ = ⟨([111, 107, 10] ++ strict n ++ [10, 110, 117, 109, 98, 101, 114, 32]).toArray⟩ from cat3 _ _ _]
  exact (cat3 _ _ _).symm
set_option maxHeartbeats 4000000 in
theorem wFnExecuteRoman (a : Option Addr) (len cap : Nat) (zs : List Int) (w : World) (h : IsRow .u8 w a len cap zs) (hT : TB w ∧ MaxI w) :
    Calls Tryz.prog 3 #[.slice a len cap] w fun e w' => e = .returned (.bool true) ∧ Below w.heap.size w w' := by
  have H := Lib.hid h; have HT := Lib.hid hT; clear h hT
  by_cases hbig : 1048576 < len
  · go_enter Tryz.func3, Tryz.ntmps3
    go_wp2_with fail
    go_ret
    exact ⟨rfl, Below.refl _ _⟩
  · go_enter Tryz.func3, Tryz.ntmps3
    go_wp2_with fail
    refine (draw_of a len cap zs _ H.out).mono ?_
    rintro e w1 ⟨n, hn0, hn1, rfl, g1⟩
    have G1 := Lib.hid g1; clear g1
    have c1 := sRomanOf_any n
    have c2 := iRomanOf_any n
    unfold romanOfR at c1 c2
    by_cases hn : 1 ≤ n ∧ n ≤ 3999
    · rw [if_pos hn] at c1 c2
      obtain ⟨N, rfl⟩ := Int.eq_ofNat_of_zero_le hn0
      rw [Int.toNat_natCast] at c1 c2
      have hS := strict_len N (by omega)
      have E := Lib.hid (fun W ht hm => exec_roman N W (by omega) (by omega) ht hm)
      rw [← roT_cat, roO_cat] at E
      have DG := Lib.hid (fun W => ldigits_any N W (by omega))
      have hdl := (dcm_short N (by omega)).2
      have l0 : ¬ 9223372036854775807 < 7 + (dcm N).length := by omega
      have l1 : ¬ 9223372036854775807 < 7 + (dcm N).length + 6 := by omega
      have l2 : ¬ 9223372036854775807 < 3 + (strict N).length := by omega
      have l3 : ¬ 9223372036854775807 < 3 + (strict N).length + 8 := by omega
      have l4 : ¬ 9223372036854775807 < 3 + (strict N).length + 8 + (dcm N).length := by omega
      have l5 : ¬ 9223372036854775807 < 3 + (strict N).length + 8 + (dcm N).length + 1 := by omega
      clear hdl hS
      generalize strict N = S at *
      generalize dcm N = T at *
      have C1 := Lib.hid c1; have C2 := Lib.hid c2; clear c1 c2
      go_wp2_with fail
      refine (C2.out _).mono ?_
      rintro e w2 ⟨rfl, g2⟩
      have G2 := Lib.hid (bel_chain G1.out g2); clear g2
      go_wp2_with fail
      refine (C1.out _).mono ?_
      rintro e w3 ⟨rfl, g3⟩
      have G3 := Lib.hid (bel_chain G2.out g3); clear g3
      go_wp2_with fail
      refine (DG.out _).mono ?_
      rintro e w4 ⟨rfl, g4⟩
      have G4 := Lib.hid (bel_chain G3.out g4); clear g4
      go_wp2_with fail
      refine (E.out _ (HT.out.1.step G4.out) (HT.out.2.below G4.out)).mono ?_
      rintro e w5 ⟨rfl, g5⟩
      have G5 := Lib.hid (bel_chain G4.out g5); clear g5
      go_wp2_with fail
      refine (DG.out _).mono ?_
      rintro e w6 ⟨rfl, g6⟩
      have G6 := Lib.hid (bel_chain G5.out g6); clear g6
      go_wp2_with fail
      go_ret
      exact ⟨rfl, G6.out⟩
    · rw [if_neg hn] at c1 c2
      have C1 := Lib.hid c1; have C2 := Lib.hid c2; clear c1 c2 hn
      go_wp2_with fail
      refine (C2.out _).mono ?_
      rintro e w2 ⟨rfl, g2⟩
      have G2 := Lib.hid (bel_chain G1.out g2); clear g2
      go_wp2_with fail
      refine (C1.out _).mono ?_
      rintro e w3 ⟨rfl, g3⟩
      have G3 := Lib.hid (bel_chain G2.out g3); clear g3
      go_wp2_with fail
      go_ret
      exact ⟨rfl, G3.out⟩
end Go.Proofs.YthbdnmnhoifnoaaGreatDoor
