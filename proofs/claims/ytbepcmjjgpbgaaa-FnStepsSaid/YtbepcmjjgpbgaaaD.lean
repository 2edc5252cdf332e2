/- The reader of a drawn code (package spec): pick, l6Open. -/
import Derived.Test.YtbepcmjjgpbgaaaRows
import Derived.Test.YtbepcmjjgpbgaaaK2
namespace Go.Proofs.Ytbepcmjjgpbgaaa
open Go.RowKit
set_option linter.unusedVariables false
set_option maxRecDepth 100000
/-- a reader in block r: len bytes (all in blocks below r), its place p -/
structure Rd (w : World) (r : Nat) (a : Option Addr) (len cap : Nat) (p : Nat) : Prop where
  blk : w.heap[r]? = some (.cells #[.slice a len cap, .int .i64 (p : Nat)] 69 (0, 0))
  small : len ≤ 2000
  at' : ∀ i, i < len → ∃ b off y, a = some ⟨b, off, none⟩ ∧ b < r ∧ w.cell? ⟨b, off + i, none⟩ = some (.int .u8 y) ∧ 0 ≤ y ∧ y ≤ 255
/-- what a pick leaves: the reader's place is one further, nothing else has turned -/
theorem Rd.next {w : World} {r : Nat} {a : Option Addr} {len cap p : Nat} (h : Rd w r a len cap p) (q : Nat) :
    Rd ((w.setCell ⟨r, 1, none⟩ (.int .i64 ((p : Int) + 1))).drewN q) r a len cap (p + 1) ∧ w.grownBy ((w.setCell ⟨r, 1, none⟩ (.int .i64 ((p : Int) + 1))).drewN q) (some r) := by
  have hr : r < w.heap.size := lt_of_block' h.blk
  have hg : w.grownBy ((w.setCell ⟨r, 1, none⟩ (.int .i64 ((p : Int) + 1))).drewN q) (some r) :=
    ⟨rfl, rfl, rfl, by simp [World.setCell, World.drewN], fun k hk hne => by
      show (w.setCell ⟨r, 1, none⟩ (.int .i64 ((p : Int) + 1))).heap[k]? = _
      exact Below.heap_setCell _ _ _ _ (fun e => hne (by simp at e; rw [e]))⟩
  refine ⟨⟨?_, h.small, fun i hi => ?_⟩, hg⟩
  · show (w.heap.modify r _)[r]? = _
    have hb := h.blk
    rw [Array.getElem?_eq_getElem hr] at hb
    rw [Array.getElem?_eq_getElem (by simpa using hr), Array.getElem_modify_self, Option.some.inj hb]
    simp
  · obtain ⟨b, off, y, ha, hb, hc, h0, h1⟩ := h.at' i hi
    exact ⟨b, off, y, ha, hb, hg.cell hc (by simp; omega), h0, h1⟩
theorem xor_nonneg (x y : Int) (h0 : 0 ≤ x) (h1 : x ≤ 1000000000) (g0 : 0 ≤ y) (g1 : y ≤ 1000000000) : 0 ≤ bits BinOp.xor IntKind.i64 x y := by
  obtain ⟨a, rfl⟩ := Int.eq_ofNat_of_zero_le h0
  obtain ⟨b, rfl⟩ := Int.eq_ofNat_of_zero_le g0
  have ha : a < 2 ^ 62 := by omega
  have hb : b < 2 ^ 62 := by omega
  have hx : a ^^^ b < 2 ^ 62 := Nat.xor_lt_two_pow ha hb
  have ha' : a % 2 ^ 64 = a := Nat.mod_eq_of_lt (by omega)
  have hb' : b % 2 ^ 64 = b := Nat.mod_eq_of_lt (by omega)
  have e : bits BinOp.xor IntKind.i64 (a : Int) (b : Int) = IntKind.i64.wrap ((a ^^^ b : Nat) : Int) := by
    have e64 : IntKind.i64.bits = 64 := rfl
    simp only [bits, BitVec.ofInt_natCast, BitVec.toNat_xor, BitVec.toNat_ofNat, e64, ha', hb']
  rw [e, IntWalk.i64_in _ (by omega)]
  omega
theorem tmod_between (x n : Int) (h0 : 0 ≤ x) (hn : 1 ≤ n) : 0 ≤ x.tmod n ∧ x.tmod n < n := by
  rw [Int.tmod_eq_emod_of_nonneg h0]
  exact ⟨Int.emod_nonneg _ (by omega), Int.emod_lt_of_pos _ (by omega)⟩
theorem pick_any (r : Nat) (a : Option Addr) (len cap : Nat) (p : Nat) (n : Int) (w : World) (h : Rd w r a len cap p) (hn : 1 ≤ n) (hn2 : n ≤ 1000000) (hp : p ≤ 1000000) :
    Calls Try.prog 66 #[.pointer (some ⟨r, 0, none⟩), .int .i64 n] w fun e w' => ∃ x : Int, 0 ≤ x ∧ x < n ∧ e = .returned (.int .i64 x) ∧ Rd w' r a len cap (p + 1) ∧ w.grownBy w' (some r) := by
  have hc0 : w.cell? ⟨r, 0, none⟩ = some (.slice a len cap) := cell_at h.blk (j := 0) rfl
  have hc1 : w.cell? ⟨r, 1, none⟩ = some (.int .i64 (p : Nat)) := cell_at h.blk (j := 1) rfl
  have hf : w.frozen? ⟨r, 1, none⟩ = false := by simp [World.frozen?, h.blk]
  have hl := h.small
  have Hnext := Lib.hid (fun q => h.next q)
  by_cases h0 : len = 0
  · subst h0
    clear h
    go_enter Try.func66, Try.ntmps66
    go_wp2
    go_ret
    exact ⟨0, Int.le_refl _, by omega, rfl, Hnext.out 0⟩
  · by_cases hk : p < len
    · obtain ⟨b, off, y, rfl, hbr, hcb, hz0, hz1⟩ := h.at' p hk
      have hz : ((len : Int) == 0) = false := by rw [beq_eq_false_iff_ne]; omega
      clear h
      go_enter Try.func66, Try.ntmps66
      go_wp2
      go_ret
      exact ⟨y % n, Int.emod_nonneg _ (by omega), Int.emod_lt_of_pos _ (by omega), rfl, Hnext.out 0⟩
    · obtain ⟨b, off, y, rfl, hbr, hcb, hz0, hz1⟩ := h.at' (p % len) (Nat.mod_lt _ (by omega))
      obtain ⟨b', off', y', he, hbr', hcb', hz0', hz1'⟩ := h.at' ((p * 7 + 3) % len) (Nat.mod_lt _ (by omega))
      obtain ⟨rfl, rfl⟩ : b' = b ∧ off' = off := by simpa [eq_comm] using he
      have hz : ((len : Int) == 0) = false := by rw [beq_eq_false_iff_ne]; omega
      clear h he
      have hm1 : (p : Int) % (len : Int) < len := Int.emod_lt_of_pos _ (by omega)
      have hm2 : ((p : Int) * 7 + 3) % (len : Int) < len := Int.emod_lt_of_pos _ (by omega)
      have hm3 : 0 ≤ (p : Int) % (len : Int) := Int.emod_nonneg _ (by omega)
      have hm4 : 0 ≤ ((p : Int) * 7 + 3) % (len : Int) := Int.emod_nonneg _ (by omega)
      have hq0 : 0 ≤ (p : Int) / (len : Int) := Int.ediv_nonneg (by omega) (by omega)
      have hq1 : (p : Int) / (len : Int) ≤ 1000000 := by
        rw [← Int.natCast_ediv]
        have := Nat.div_le_self p len
        generalize p / len = z at this ⊢
        omega
      go_enter Try.func66, Try.ntmps66
      go_wp2
      go_quiet (fail)
      go_wp2
      go_ret
      have hx := xor_nonneg (y * 131 + y' * 1117 + (p : Int) * 29 + (p : Int) / (len : Int) * 53) ((y * 131 + y' * 1117 + (p : Int) * 29 + (p : Int) / (len : Int) * 53) / 64) (by omega) (by omega) (by omega) (by omega)
      exact ⟨_, (tmod_between _ n hx hn).1, (tmod_between _ n hx hn).2, rfl, Hnext.out nq⟩
theorem l6Open_any (a : Option Addr) (len cap : Nat) (zs : List Int) (w : World) (h : IsRow .u8 w a len cap zs) :
    Calls Try.prog 49 #[.slice a len cap] w fun e w' => ∃ (a' : Option Addr) (l c : Nat), e = .returned (.pointer (some ⟨w.heap.size, 0, none⟩)) ∧ Rd w' w.heap.size a' l c 0 ∧ Below w.heap.size w w' := by
  rcases h with ⟨rfl, rfl, rfl, rfl⟩ | ⟨x, rfl, hl, hm, hz, hcell, hwz⟩
  · go_enter Try.func49, Try.ntmps49
    go_wp2
    go_ret
    exact ⟨_, _, _, rfl, ⟨heap_alloc_new _ _, by omega, fun i hi => by omega⟩, (Below.refl _ _).alloc (Nat.le_refl _) _⟩
  · obtain ⟨b, off, spot⟩ := x
    unfold maxLen at hm
    by_cases h0 : len = 0
    · subst h0
      go_enter Try.func49, Try.ntmps49
      go_wp2
      go_ret
      exact ⟨_, _, _, rfl, ⟨heap_alloc_new _ _, by omega, fun i hi => by omega⟩, (Below.refl _ _).alloc (Nat.le_refl _) _⟩
    · have hc := hcell 0 (by omega)
      have hspot : spot = none := by simpa [Addr.add] using World.cell?_spot hc
      subst hspot
      have hat : ∀ l c, l ≤ len → ∀ i, i < l → ∃ b' off' y, some (⟨b, off, none⟩ : Addr) = some ⟨b', off', none⟩ ∧ b' < w.heap.size ∧ (w.alloc c).cell? ⟨b', off' + i, none⟩ = some (.int .u8 y) ∧ 0 ≤ y ∧ y ≤ 255 := by
        intro l c hlc i hi
        have hci := hcell i (by omega)
        have hci' : w.cell? ⟨b, off + i, none⟩ = some (.int .u8 (zs.getD i 0)) := by
          have e : (⟨b, off, none⟩ : Addr).add i = ⟨b, off + i, none⟩ := by unfold Addr.add; split <;> simp_all
          rw [← e]; exact hci
        have hlt := World.block_lt_of_cell? w _ hci'
        have hwf := hwz (zs.getD i 0) (by rw [List.getD_eq_getElem?_getD, List.getElem?_eq_getElem (by omega)]; exact List.getElem_mem _)
        simp only [Lit.wf, Bool.and_eq_true, decide_eq_true_eq] at hwf
        refine ⟨b, off, zs.getD i 0, rfl, hlt, ?_, hwf.1, hwf.2⟩
        rw [World.cell?_of_block (Below.heap_alloc w c b hlt)]
        exact hci'
      have Hat := Lib.hid hat
      clear hat hcell hwz hc
      by_cases h2 : 2000 < len
      · go_enter Try.func49, Try.ntmps49
        go_wp2
        go_ret
        exact ⟨_, _, _, rfl, ⟨heap_alloc_new _ _, by omega, Hat.out _ _ (by omega)⟩, (Below.refl _ _).alloc (Nat.le_refl _) _⟩
      · go_enter Try.func49, Try.ntmps49
        go_wp2
        go_ret
        exact ⟨_, _, _, rfl, ⟨heap_alloc_new _ _, by omega, Hat.out _ _ (by omega)⟩, (Below.refl _ _).alloc (Nat.le_refl _) _⟩
end Go.Proofs.Ytbepcmjjgpbgaaa
