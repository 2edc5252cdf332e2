/- The draws of chapter 1 (package spec): a text. -/
import Derived.Test.YthgagidpnnaajaaDoorDr
import Derived.Test.YthgagidpnnaajaaDoorRSo
namespace Go.Proofs.YthgagidpnnaajaaDoor
open Go.RowKit
set_option linter.unusedVariables false
set_option maxRecDepth 100000
theorem Rd.grownOther {w w' : World} {r : Nat} {a : Option Addr} {len cap p : Nat} (h : Rd w r a len cap p) (hg : w.grownBy w' none) : Rd w' r a len cap p :=
  ⟨by rw [hg.block r (lt_of_block' h.blk) (by simp)]; exact h.blk, h.small, fun i hi => by
    obtain ⟨b, off, y, ha, hb, hc, h0, h1⟩ := h.at' i hi
    exact ⟨b, off, y, ha, hb, hg.cell hc (by simp), h0, h1⟩⟩
theorem Rd.alloc {w : World} {r : Nat} {a : Option Addr} {len cap p : Nat} (h : Rd w r a len cap p) (o : Obj) : Rd (w.alloc o) r a len cap p := h.grownOther (World.grownBy_alloc w o none)
theorem Rd.below {w w' : World} {r : Nat} {a : Option Addr} {len cap p : Nat} (h : Rd w r a len cap p) (hg : Below w.heap.size w w') : Rd w' r a len cap p :=
  h.grownOther ⟨hg.os, hg.tape, hg.output, hg.size, fun k hk _ => hg.block k hk⟩
theorem grown_of_below {w w' : World} (r : Nat) (hg : Below w.heap.size w w') : w.grownBy w' (some r) := ⟨hg.os, hg.tape, hg.output, hg.size, fun k hk _ => hg.block k hk⟩
/-- n short strings in a row -/
def StrRow (w : World) (b n : Nat) : Prop := ∀ i, i < n → ∃ x : ByteArray, w.cell? ⟨b, i, none⟩ = some (.string x) ∧ x.size ≤ 30
theorem of_any (r : Nat) (a : Option Addr) (len cap : Nat) (p : Nat) (b n : Nat) (w : World) (h : Rd w r a len cap p) (hs : StrRow w b n) (hbr : b ≠ r) (hn : 1 ≤ n) (hn2 : n ≤ 1000) (hp : p ≤ 1000000) :
    Calls Tryd.prog 65 #[.pointer (some ⟨r, 0, none⟩), .slice (some ⟨b, 0, none⟩) n n] w fun e w' => ∃ x : ByteArray, x.size ≤ 30 ∧ e = .returned (.string x) ∧ Rd w' r a len cap (p + 1) ∧ w.grownBy w' (some r) := by
  have H := Lib.hid h; have HS := Lib.hid hs; clear h hs
  go_enter Tryd.func65, Tryd.ntmps65
  go_wp2_with fail
  refine (pick_any r a len cap p _ _ H.out (by omega) (by omega) (by omega)).mono ?_
  rintro e w1 ⟨x, hx0, hx1, rfl, hr1, g1⟩
  obtain ⟨k, rfl⟩ := Int.eq_ofNat_of_zero_le hx0
  obtain ⟨s, hc, hsz⟩ := HS.out k (by omega)
  have hc1 := g1.cell hc (by simp; omega)
  have H1 := Lib.hid hr1; have G1 := Lib.hid g1
  clear hr1 g1 hc
  go_wp2_with fail
  go_ret
  exact ⟨s, hsz, rfl, H1.out, G1.out⟩
theorem strRow_new (w : World) (l : List ByteArray) (T : TypeId) (h : ∀ x ∈ l, x.size ≤ 30) (fr : Nat × Nat) : StrRow (w.alloc (.cells (l.map Value.string).toArray T fr)) w.heap.size l.length := fun i hi => by
  refine ⟨l[i], ?_, h _ (List.getElem_mem _)⟩
  rw [cell_at (heap_alloc_new w _) (v := .string l[i])]
  simp [hi]
theorem l91Loose_any (r : Nat) (a : Option Addr) (len cap : Nat) (p : Nat) (w : World) (h : Rd w r a len cap p) (hp : p ≤ 900000) :
    Calls Tryd.prog 46 #[.pointer (some ⟨r, 0, none⟩)] w fun e w' => ∃ (x : ByteArray) (p' : Nat), x.size ≤ 300 ∧ e = .returned (.string x) ∧ Rd w' r a len cap p' ∧ p' ≤ p + 20 ∧ w.grownBy w' (some r) := by
  have hrw : r < w.heap.size := lt_of_block' h.blk
  have H := Lib.hid h; clear h
  go_enter Tryd.func46, Tryd.ntmps46
  go_wp2_with fail
  refine (pick_any r a len cap p _ _ H.out (by omega) (by omega) (by omega)).mono ?_
  rintro e w1 ⟨x, hx0, hx1, rfl, hr1, g1⟩
  have H1 := Lib.hid hr1; have G1 := Lib.hid g1; clear hr1 g1
  go_wp2_with fail
  go_loopw [3, 5] (fun s i wr => ∃ (k : Nat) (y : ByteArray) (p' : Nat), i = .int .i64 k ∧ (k : Int) ≤ 1 + x ∧ s = .string y ∧ y.size ≤ 30 * k ∧ Rd wr r a len cap p' ∧ p' = p + 1 + k ∧ w.grownBy wr (some r)) (fun _ i _ => (1 + x).toNat - (intOf i).toNat)
  case atStart => exact ⟨0, ⟨#[]⟩, p + 1, rfl, by omega, rfl, by decide, H1.out, rfl, G1.out⟩
  case round =>
    obtain ⟨k, y, p', rfl, hk, rfl, hy, hr, hp', g⟩ := hrel
    have hrw' := Nat.lt_of_lt_of_le hrw g.size
    have Hp' := Lib.hid hp'
    have hp2 : p' ≤ p + 10 := by omega
    clear hp'
    have HR := Lib.hid hr; have G := Lib.hid g; clear hr g
    by_cases hlt : (k : Int) < 1 + x
    · have hrow := strRow_new wr [⟨#[73]⟩, ⟨#[86]⟩, ⟨#[88]⟩, ⟨#[76]⟩, ⟨#[67]⟩, ⟨#[68]⟩, ⟨#[77]⟩] 9 (by decide) (0, 0)
      have HRow := Lib.hid hrow; clear hrow
      go_wp2_with fail
      refine (of_any r a len cap p' wr.heap.size 7 _ (HR.out.alloc _) HRow.out (by omega) (by omega) (by omega) (by omega)).mono ?_
      rintro e w3 ⟨z, hz, rfl, hr3, g3⟩
      have H3 := Lib.hid hr3; have G3 := Lib.hid (grown_trans G.out (grown_trans (World.grownBy_alloc wr _ (some r)) g3)); clear hr3 g3
      have hyz : y.size + z.size ≤ 9223372036854775807 := by omega
      have hyz2 : Hid ((y ++ z).size ≤ 30 * (k + 1)) := by show _ ≤ _; rw [ByteArray.size_append]; omega
      go_wp2_with fail
      go_roundw
      case rel => exact ⟨k + 1, y ++ z, p' + 1, by go_num, by omega, rfl, hyz2.out, H3.out, by have := Hp'.out; omega, G3.out⟩
      case measure => simp [intOf]; omega
    · go_wp2_with fail
      refine (pick_any r a len cap p' _ _ HR.out (by omega) (by omega) (by omega)).mono ?_
      rintro e w3 ⟨u, hu0, hu1, rfl, hr3, g3⟩
      have hrw3 := Nat.lt_of_lt_of_le hrw' g3.size
      have H3 := Lib.hid hr3; have G3 := Lib.hid (grown_trans G.out g3); clear hr3 g3
      by_cases hu : u = 0
      · subst hu
        have hrow := strRow_new w3 [⟨#[105]⟩, ⟨#[32]⟩, ⟨#[77, 77, 77, 77, 77, 77, 77, 77, 77, 77, 77, 77, 77, 77, 77, 77]⟩] 9 (by decide) (0, 0)
        have HRow := Lib.hid hrow; clear hrow
        go_wp2_with fail
        refine (of_any r a len cap (p' + 1) w3.heap.size 3 _ (H3.out.alloc _) HRow.out (by omega) (by omega) (by omega) (by omega)).mono ?_
        rintro e w4 ⟨z, hz, rfl, hr4, g4⟩
        have H4 := Lib.hid hr4; have G4 := Lib.hid (grown_trans G3.out (grown_trans (World.grownBy_alloc w3 _ (some r)) g4)); clear hr4 g4
        have hyz : y.size + z.size ≤ 9223372036854775807 := by omega
        have hyz2 : Hid ((y ++ z).size ≤ 300) := by show _ ≤ _; rw [ByteArray.size_append]; omega
        go_wp2_with fail
        go_ret
        exact ⟨y ++ z, p' + 2, hyz2.out, rfl, H4.out, by omega, G4.out⟩
      · go_wp2_with fail
        go_ret
        exact ⟨y, p' + 1, by omega, rfl, H3.out, by omega, G3.out⟩
end Go.Proofs.YthgagidpnnaajaaDoor
