/- The program's signed piles: list, value. -/
import Derived.Test.YtgcalmenlcpjpaaDoorED
namespace Go.Proofs.YtgcalmenlcpjpaaDoor
open Go.RowKit
set_option linter.unusedVariables false
set_option maxRecDepth 100000
/-- the numbers of a signed pile with their signs -/
def nmb (p : Nat → Int) (t : Nat → Bool) (j : Nat) : Int := if t j then -p j else p j
def ListR (w : World) (n : Nat) (f : Nat → Int) (e : Ending) (w' : World) : Prop := ∃ b, e = .returned (.slice (some ⟨b, 0, none⟩) n n) ∧ w.heap.size ≤ b ∧ b < w'.heap.size ∧ Own w' b n f ∧ Below w.heap.size w w'
set_option maxHeartbeats 1000000 in
theorem slist_any (p : Nat → Int) (t : Nat → Bool) (f : Nat → Int) (n : Nat) (w : World) (hn : n ≤ 6) (hp : ∀ j, j < n → -10000000 ≤ p j ∧ p j ≤ 10000000) :
    Calls Tryd.prog 44 #[.agg (sgA p t), .agg (arr7 f n)] w (ListR w n (nmb p t)) := by
  obtain ⟨w1, hw1, hb1, hb2, hbel, hsz⟩ := boxes w (sgA p t) (arr7 f n) 50 41
  have HS1 : Hid (Sg w1 w.heap.size p t) := Lib.hid hb1
  have HY1 : Hid (Blk 41 w1 (w.heap.size + 1) 7 (sysF f n)) := Lib.hid hb2
  have HB := Lib.hid hbel
  have Hsz := Lib.hid hsz
  have C := Lib.hid (fun w => list_any p f n w hn)
  have Hp := Lib.hid hp
  have HC : Hid (arr7 f n = (intCells (sysF f n) 7).toArray) := Lib.hid rfl
  clear hb1 hb2 hbel hsz hp
  generalize arr7 f n = Y at *
  generalize sgA p t = A at *
  have Hw1 := Lib.hid hw1
  clear hw1
  go_enter Tryd.func44, Tryd.ntmps44
  go_wp2_with (first
    | ((with_reducible refine here ⟨some 8, _, _, _, _, _⟩ ?_)
       rw [← Hw1.out]
       refine wpList_load_vals rfl 47 (.tmp 7) rfl 50 w.heap.size 12 0 6 _ _ rfl HS1.out (by omega) Tryd.underlying47 rfl szPile ?_
       rw [sg_num6])
    | ((with_reducible refine here ⟨some 9, _, _, _, _, _⟩ ?_)
       refine wpList_load_blk rfl 41 (.tmp 3) rfl 41 (w.heap.size + 1) 7 _ _ rfl HY1.out Tryd.underlying41 rfl szSys ?_
       rw [← HC.out]))
  refine (C.out _).mono ?_
  rintro e w2 ⟨b, rfl, hb, hb', hown, hbl⟩
  have HO := Lib.hid hown; have HL := Lib.hid hbl
  have HS2 := Lib.hid (VRow.below HS1.out hbl)
  rw [Hsz.out] at hb
  clear hown hbl
  go_wp2_with fail
  go_loopw [13] (fun i wr => ∃ k : Nat, i = .int .i64 k ∧ k ≤ n ∧ Own wr b n (fun j => if j < k then nmb p t j else p j) ∧ Mid b (b + 1) w2 wr) (fun i _ => n - (intOf i).toNat)
  case atStart => exact ⟨0, rfl, by omega, HO.out.congr fun j hj => by simp, Mid.refl _ _ _⟩
  case round =>
    obtain ⟨k, rfl, hk, hown, hmid⟩ := hrel
    have Ho := Lib.hid hown; have Hm := Lib.hid hmid
    clear hown hmid
    by_cases hlt : k < n
    · have hc : wr.cell? ⟨w.heap.size, 6 + k, none⟩ = some (.bool (t k)) := by
        rw [← sgV_mark p t k]; exact VRow.cell (VRow.mid HS2.out Hm.out (by omega)) (6 + k) (by omega)
      have hk6 : k < 6 := by omega
      have hc2 : wr.cell? ⟨b, k, none⟩ = some (.int .i64 (p k)) := by
        have h := Ho.out.cell k hlt
        rw [if_neg (Nat.lt_irrefl k)] at h; exact h
      have hf2 := Ho.out.frozen k
      obtain ⟨p1, p2⟩ := Hp.out k hlt
      by_cases ht : t k = true
      · have HX : Hid (Own (wr.setCell ⟨b, k, none⟩ (.int .i64 (-p k))) b n (fun j => if j < k + 1 then nmb p t j else p j)) := Lib.hid ((Ho.out.set_ k (-p k)).congr fun j hj => by
          by_cases e : j = k
          · subst e; rw [if_pos rfl, if_pos (by omega)]; unfold nmb; rw [if_pos ht]
          · rw [if_neg e]
            by_cases e2 : j < k
            · rw [if_pos e2, if_pos (by omega)]
            · rw [if_neg e2, if_neg (by omega)])
        have HM := Lib.hid (Hm.out.setCell (Nat.le_refl _) (by omega) k (.int .i64 (-p k)))
        have hwn : IntKind.i64.wrap (-p k) = -p k := IntWalk.i64_in _ (by omega)
        rw [ht] at hc
        generalize p k = x at *
        clear ht
        go_wp2_with fail
        go_roundw
        case rel => exact ⟨k + 1, by go_num, by omega, HX.out, HM.out⟩
        case measure => simp [intOf]; omega
      · have HX : Hid (Own wr b n (fun j => if j < k + 1 then nmb p t j else p j)) := Lib.hid (Ho.out.congr fun j hj => by
          by_cases e : j = k
          · subst e; rw [if_neg (by omega), if_pos (by omega)]; unfold nmb; rw [if_neg ht]
          · by_cases e2 : j < k
            · rw [if_pos e2, if_pos (by omega)]
            · rw [if_neg e2, if_neg (by omega)])
        rw [show t k = false by simpa using ht] at hc
        generalize p k = x at *
        clear ht
        go_wp2_with fail
        go_roundw
        case rel => exact ⟨k + 1, by go_num, by omega, HX.out, Hm.out⟩
        case measure => simp [intOf]; omega
    · obtain rfl : k = n := by omega
      have HR : Hid (ListR w k (nmb p t) (.returned (.slice (some ⟨b, 0, none⟩) k k)) wr) := Lib.hid
        ⟨b, rfl, by omega, by rw [Hm.out.size]; exact hb', Ho.out.congr fun j hj => by rw [if_pos hj], Hm.out.bel (HB.out.trans (HL.out.mono (by rw [Hsz.out]; omega))) (by omega)⟩
      go_wp2_with fail
      go_ret
      exact HR.out
end Go.Proofs.YtgcalmenlcpjpaaDoor
