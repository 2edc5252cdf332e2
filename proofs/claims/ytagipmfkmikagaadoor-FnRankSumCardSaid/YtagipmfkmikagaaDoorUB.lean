/- The model's chapter 6 (package spec): l6Dec of a digit, l6rFour. -/
import Derived.Test.YtagipmfkmikagaaDoorUA
import Derived.Test.YtagipmfkmikagaaDoorRS
import Derived.Test.YtagipmfkmikagaaDoorBS
import Derived.Laws.BytesArg
import Derived.Deep.RegionLaw
import Derived.IntWalk
namespace Go.Proofs.YtagipmfkmikagaaDoor
open Go.RowKit
set_option linter.unusedVariables false
set_option maxRecDepth 100000
theorem byte_text {w : World} {b : Nat} {d : Nat} (hd : d < 10) (h : w.heap[b]? = some (.cells #[.int .u8 (48 + (d : Int))] 5 (0, 0))) :
    Sem.run Tryd.prog (convert 31 9 (.slice (some ⟨b, 0, none⟩) 1 1)) w = .ok (.string ⟨#[dch d]⟩) w := by
  have := run_convert_bytes_arg (P := Tryd.prog) w 31 5 Tryd.underlying31 Tryd.underlying5 b 0 1 1 [48 + (d : Int)] rfl (fun i hi => by
    obtain rfl : i = 0 := by omega
    exact cell_at h rfl) 9 Tryd.underlying9
  rw [this]
  have e : strOfNums [48 + (d : Int)] = ⟨#[dch d]⟩ := by
    unfold strOfNums dch
    rw [List.map_singleton, show (48 + (d : Int)).toNat = 48 + d by omega]
  rw [e]
set_option maxRecDepth 100000 in
theorem sl6Dec_any (d : Nat) (w : World) (hd : d < 10) : Calls Tryd.prog 59 #[.int .i64 d] w fun e w' => e = .returned (.string ⟨#[dch d]⟩) ∧ Below w.heap.size w w' := by
  have hcv := byte_text (w := w.alloc (.cells #[.int .u8 (48 + (d : Int))] 5)) hd (heap_alloc_new w _)
  have t0 : decide ((d : Int) < -9223372036854775807) = false := decide_eq_false (by omega)
  have h10 : (d : Int) < 10 := by omega
  go_enter Tryd.func59, Tryd.ntmps59
  go_wp2_with fail
  go_ret
  exact ⟨rfl, (Below.refl _ _).alloc (Nat.le_refl _) _⟩
/-- the steps of the ranks -/
def rkT (i : Nat) : Nat := if i = 0 then 1000 else if i = 1 then 100 else if i = 2 then 10 else 1
theorem rkT_dgt (n i : Nat) (h : i < 4) : n / rkT i % 10 = dgt n i ∧ 1 ≤ rkT i ∧ rkT i ≤ 1000 := by
  rcases (show i = 0 ∨ i = 1 ∨ i = 2 ∨ i = 3 by omega) with rfl | rfl | rfl | rfl <;> simp [rkT, dgt]
theorem rkS_len (n : Nat) : ∀ k, (rkS n k).1.length ≤ 3 * k
  | 0 => by simp [rkS]
  | k + 1 => by
    have := rkS_len n k
    unfold rkS
    split
    · show (rkS n k).1.length ≤ _; omega
    · simp only [List.length_append, List.length_cons, List.length_nil]
      have : (rsg k).length ≤ 1 := by unfold rsg; split <;> (try split) <;> (try split) <;> simp
      split <;> simp <;> omega
/-- the world behind both tables -/
def rkW (w : World) : World := (w.alloc (.cells #[.string ⟨#[113]⟩, .string ⟨#[98]⟩, .string ⟨#[115]⟩, .string ⟨#[]⟩] 9)).alloc (.cells #[.int .i64 1000, .int .i64 100, .int .i64 10, .int .i64 1] 3)
theorem rkW_at (w : World) (k : Nat) (h : k < 4) : (rkW w).cell? ⟨w.heap.size, k, none⟩ = some (.string ⟨(rsg k).toArray⟩) ∧ (rkW w).cell? ⟨w.heap.size + 1, k, none⟩ = some (.int .i64 (rkT k : Nat)) := by
  have h1 : (rkW w).heap[w.heap.size]? = some (.cells #[.string ⟨#[113]⟩, .string ⟨#[98]⟩, .string ⟨#[115]⟩, .string ⟨#[]⟩] 9 (0, 0)) := (Below.heap_alloc _ _ _ (by simp)).trans (heap_alloc_new w _)
  have h2 : (rkW w).heap[w.heap.size + 1]? = some (.cells #[.int .i64 1000, .int .i64 100, .int .i64 10, .int .i64 1] 3 (0, 0)) := by
    have := heap_alloc_new (w.alloc (.cells #[.string ⟨#[113]⟩, .string ⟨#[98]⟩, .string ⟨#[115]⟩, .string ⟨#[]⟩] 9)) (.cells #[.int .i64 1000, .int .i64 100, .int .i64 10, .int .i64 1] 3)
    rwa [World.size_alloc] at this
  rcases (show k = 0 ∨ k = 1 ∨ k = 2 ∨ k = 3 by omega) with rfl | rfl | rfl | rfl <;> exact ⟨cell_at h1 rfl, cell_at h2 rfl⟩
theorem cat_bytes (a b : List UInt8) : (⟨a.toArray⟩ : ByteArray) ++ ⟨b.toArray⟩ = ⟨(a ++ b).toArray⟩ := by
  apply ByteArray.ext
  rw [ByteArray.data_append]
  simp
set_option maxRecDepth 100000 in
set_option maxHeartbeats 1000000 in
theorem sl6rFour_any (n : Nat) (w : World) (hn : n ≤ 9999) : Calls Tryd.prog 45 #[.int .i64 n] w fun e w' => e = .returned (.string ⟨(rk4 n).toArray⟩) ∧ Below w.heap.size w w' := by
  have HW : Hid (Below w.heap.size w (rkW w) ∧ (rkW w).heap.size = w.heap.size + 2) := Lib.hid ⟨((Below.refl _ _).alloc (Nat.le_refl _) _).alloc (by simp) _, by simp [rkW]⟩
  have HC := Lib.hid (rkW_at w)
  have HR : Hid (rk4 n = (rkS n 4).1) := Lib.hid rfl
  go_enter Tryd.func45, Tryd.ntmps45
  go_wp2_with fail
  go_loopw [5, 6, 7] (fun o g i wr => ∃ k : Nat, k ≤ 4 ∧ i = .int .i64 k ∧ o = .string ⟨(rkS n k).1.toArray⟩ ∧ g = .bool (rkS n k).2 ∧ Below (w.heap.size + 2) (rkW w) wr) (fun _ _ i _ => 4 - (intOf i).toNat)
  case atStart => exact ⟨0, by omega, rfl, rfl, rfl, Below.refl _ _⟩
  case round =>
    obtain ⟨k, hk, rfl, rfl, rfl, hbel⟩ := hrel
    have HB := Lib.hid hbel; clear hbel
    have hlen := rkS_len n k
    by_cases hlt : k < 4
    · obtain ⟨c1, c2⟩ := HC.out k hlt
      have hc1 : wr.cell? ⟨w.heap.size, k, none⟩ = some (.string ⟨(rsg k).toArray⟩) := (HB.out.cell (p := ⟨w.heap.size, k, none⟩) (by show w.heap.size < _; omega)).trans c1
      have hc2 : wr.cell? ⟨w.heap.size + 1, k, none⟩ = some (.int .i64 (rkT k : Nat)) := (HB.out.cell (p := ⟨w.heap.size + 1, k, none⟩) (by show w.heap.size + 1 < _; omega)).trans c2
      obtain ⟨d1, d2, d3⟩ := rkT_dgt n k hlt
      have hd := dgt_lt n k
      have HS : Hid (rkS n (k + 1) = if dgt n k = 0 then ((rkS n k).1, (rkS n k).1 != []) else ((rkS n k).1 ++ (if (rkS n k).2 = true then [111] else []) ++ [dch (dgt n k)] ++ rsg k, false)) := Lib.hid rfl
      have hdd : (n : Int) / (rkT k : Nat) % 10 = (dgt n k : Nat) := by rw [← d1]; omega
      have hsg : (rsg k).length ≤ 1 := by unfold rsg; split <;> (try split) <;> (try split) <;> simp
      have D := Lib.hid (fun w => sl6Dec_any (dgt n k) w hd)
      clear c1 c2 d1
      generalize (rkS n k).1 = L at *
      generalize (rkS n k).2 = G at *
      generalize rsg k = sg at *
      generalize rkT k = s at *
      generalize dgt n k = d at *
      have hq0 : (0:Int) ≤ (n : Int) / (s : Nat) := Int.ediv_nonneg (by omega) (by omega)
      have hq1 : (n : Int) / (s : Nat) ≤ n := Int.ediv_le_self _ (by omega)
      have hwr64 : wrap64 ((n : Int) / (s : Nat)) = (n : Int) / (s : Nat) := by unfold wrap64; omega
      have htm : ((n : Int) / (s : Nat)).tmod 10 = d := by rw [Int.tmod_eq_emod_of_nonneg hq0, hdd]
      by_cases h0 : d = 0
      · subst h0
        go_wp2_with fail
        go_roundw
        case rel => exact ⟨k + 1, by omega, by go_num, by rw [HS.out, if_pos rfl], by rw [HS.out, if_pos rfl]; cases L <;> rfl, HB.out⟩
        case measure => simp [intOf]; omega
      · rw [if_neg h0] at HS
        have l1 : ¬ 9223372036854775807 < L.length + 1 := by omega
        have l2 : ¬ 9223372036854775807 < L.length + 1 + 1 := by omega
        have l3 : ¬ 9223372036854775807 < L.length + 1 + sg.length := by omega
        have l4 : ¬ 9223372036854775807 < L.length + 1 + 1 + sg.length := by omega
        go_wp2_with fail
        all_goals
          go_region_law (
            go_simp
            go_at_call 59
            refine (D.out wr.drew).mono ?_
            rintro e w5 ⟨rfl, hb5⟩
            have hc5 : w5.cell? ⟨w.heap.size, k, none⟩ = some (.string ⟨sg.toArray⟩) := (hb5.cell (p := ⟨w.heap.size, k, none⟩) (by have := HB.out.size; have := HW.out.2; show w.heap.size < _; simp; omega)).trans hc1
            have H5 : Hid (Below (w.heap.size + 2) (rkW w) w5) := Lib.hid (HB.out.trans (((Below.refl _ wr).drew).trans (hb5.mono (by have := HB.out.size; have := HW.out.2; simp; omega)))))
          all_goals
            go_wp2_with fail
            go_roundw
            case rel => exact ⟨k + 1, by omega, by go_num, by rw [HS.out]; clear HS HC HB H5; simp [cat_bytes]; simp [*], by rw [HS.out], H5.out⟩
            case measure => simp [intOf]; omega
    · obtain rfl : k = 4 := by omega
      go_wp2_with fail
      go_ret
      exact ⟨by rw [HR.out]; rfl, HW.out.1.trans (HB.out.mono (by omega))⟩
end Go.Proofs.YtagipmfkmikagaaDoor
