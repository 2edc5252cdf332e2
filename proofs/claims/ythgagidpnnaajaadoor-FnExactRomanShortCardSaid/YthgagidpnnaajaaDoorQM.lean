/- The program's findFewest. -/
import Derived.Test.YthgagidpnnaajaaDoorQE
import Derived.Test.YthgagidpnnaajaaDoorQP
import Derived.Test.YthgagidpnnaajaaDoorQN
namespace Go.Proofs.YthgagidpnnaajaaDoor
open Go.RowKit
set_option linter.unusedVariables false
set_option maxRecDepth 100000
theorem wpList_make_cells {P : Program} (w : World) {ops : Array Oper} {rest : List Oper} {o : Oper} {a : Act} {Q : Exit → Act → World → Prop}
    (hg : o.guard = none) (l c : Operand) (t : TypeId) (hop : o.op = Op.makeSlice t l c)
    (e : TypeId) (i : TypeInfo) (z : Value) (size : Nat) (h1 : P.underlying t = some (.slice e)) (h2 : P.info? e = some i) (h3 : i.zero = some z) (h4 : i.size = size)
    (kl kc : IntKind) (L C : Int) (n : Nat) (hl : a.eval l = .int kl L) (hc : a.eval c = .int kc C) (hL : L = (n : Int)) (hC : C = (n : Int)) (b2 : i.bytes * n ≤ 281474976710656) (b3 : n ≤ 9223372036854775807)
    (hK : wpList P ops Q rest (a.put o.dst (.slice (some ⟨w.heap.size, 0, none⟩) n n)) (w.alloc (.cells (madeCells z.cells (n * size)) e))) :
    wpList P ops Q (o :: rest) a w := by
  refine wpList_plain hg fun K hK' => ?_
  have hb' : (i.bytes : Int) * (n : Int) ≤ 281474976710656 := by
    have h : ((i.bytes * n : Nat) : Int) ≤ 281474976710656 := by omega
    rwa [Int.natCast_mul] at h
  have hrun := run_make (P := P) w t e i z h1 h2 h3 kl kc n n (by omega) (Int.le_refl _) hb' (by omega)
  simp only [Int.toNat_natCast, h4] at hrun
  subst hL
  subst hC
  unfold Oper.wp
  simp [execOp, hop, hl, hc, hrun, Result.andThen]
  exact hK' _ _ hK
theorem info_i8row : (Tryd.prog.info? 84).map (fun i => (i.zero, i.size, i.bytes)) = some (some (.agg (Array.replicate 7 (.int .i8 0))), 7, 7) := by kernel_rfl
theorem made_zero (N : Nat) : madeCells (Array.replicate 7 (Value.int .i8 0)) (N * 7) = fArr N (fun _ _ => 0) := by
  apply Array.ext
  · simp [madeCells, fArr]
  · intro i h1 h2
    have h3 : i < N * 7 := by simpa [madeCells] using h1
    have h4 : i % 7 < 7 := by omega
    simp [madeCells, fArr]
    rcases (show i % 7 = 0 ∨ i % 7 = 1 ∨ i % 7 = 2 ∨ i % 7 = 3 ∨ i % 7 = 4 ∨ i % 7 = 5 ∨ i % 7 = 6 by omega) with e | e | e | e | e | e | e <;> simp [e]
/-- up to the least length there is always a state -/
theorem lvl_has (n : Int) (L : Nat) (hL1 : 1 ≤ L) (hh : hasK n L = true) (hno : ∀ j, 1 ≤ j → j < L → hasK n j = false) : ∀ d k, k + d = L → ∃ c v, c < 7 ∧ ((k = 0 ∧ c = 2 ∧ v = 0) ∨ (1 ≤ k ∧ fnd (n + 666) k c v = k))
  | 0, k, e => by
    obtain rfl : k = L := by omega
    obtain ⟨c, hc, h⟩ := fnd_row' n k hL1 hh
    refine ⟨c, n, hc, .inr ⟨hL1, ?_⟩⟩
    have h1 := fnd_le (n + 666) k c n
    have h2 := fnd_ex (n + 666) k c n h
    by_cases h3 : fnd (n + 666) k c n = k
    · exact h3
    · have h4 := hno _ (by omega) (by omega : fnd (n + 666) k c n < k)
      rw [(hasK_iff _ _).2 ⟨c, hc, exT_ex _ _ _ _ h2⟩] at h4
      cases h4
  | d + 1, k, e => by
    obtain ⟨c, v, hc, h⟩ := lvl_has n L hL1 hh hno d (k + 1) (by omega)
    rcases h with ⟨h, _⟩ | ⟨_, h⟩
    · omega
    · obtain ⟨f, hf, hb⟩ := fnd_back _ k c v h
      rcases hb with ⟨a, b, c'⟩ | ⟨a, b⟩
      · exact ⟨f, _, hf, .inl ⟨a, b, c'⟩⟩
      · exact ⟨f, _, hf, .inr ⟨a, b⟩⟩
theorem own_states {w : World} {base : Nat} {T : TypeId} {v : Value} {ss : List St} (h : w.ownsRow base T 2 v ss.length (stCells ss)) (hne : ss ≠ []) :
    ∃ g cap, v = .slice (some ⟨g, 0, none⟩) ss.length cap ∧ base ≤ g ∧ ∀ i (h : i < ss.length), w.cell? ⟨g, i * 2, none⟩ = some (.int .i64 (ss[i].1 : Nat)) ∧ w.cell? ⟨g, i * 2 + 1, none⟩ = some (.int .i64 ss[i].2) := by
  rcases h.2 with ⟨_, h0⟩ | ⟨g, cap, cur, rfl, hb, hg, _, _, hcs, htk⟩
  · exact absurd (List.eq_nil_of_length_eq_zero h0) hne
  · refine ⟨g, cap, rfl, hb, fun i hi => ?_⟩
    have hat := stCells_at ss i hi
    rw [← htk, List.getElem?_take, List.getElem?_take, if_pos (by omega), if_pos (by omega), Array.getElem?_toList, Array.getElem?_toList] at hat
    exact ⟨cell_at hg hat.1, cell_at hg hat.2⟩
def StAt (w : World) (sb : Nat) (ss : List St) : Prop := ∀ i (h : i < ss.length), w.cell? ⟨sb, i * 2, none⟩ = some (.int .i64 (ss[i].1 : Nat)) ∧ w.cell? ⟨sb, i * 2 + 1, none⟩ = some (.int .i64 ss[i].2)
theorem bd7 (k : Nat) (hk : k ≤ 14) : 7 ^ k ≤ 678223072849 := Nat.le_trans (Nat.pow_le_pow_right (by omega) hk) (by decide)
set_option maxRecDepth 100000 in
set_option maxHeartbeats 2000000 in
theorem findFewest_any (n L : Nat) (w : World) (hl : LV w) (hn1 : 1 ≤ n) (hn2 : n ≤ 3999) (hL1 : 1 ≤ L) (hL2 : L ≤ 15) (hh : hasK n L = true) (hno : ∀ j, 1 ≤ j → j < L → hasK n j = false) :
    Calls Tryd.prog 50 #[.int .i64 n] w fun e w' => e = .returned (.tuple #[.slice (some ⟨w.heap.size, 0, none⟩) (n + 667) (n + 667), .int .i64 L]) ∧ Found w' w.heap.size (n + 667) (lvl (n + 667) L).1 ∧ Below w.heap.size w w' := by
  obtain ⟨i0, hi, hz0, hz1, hz2⟩ := info_parts info_i8row
  have Hl := Lib.hid hl; have Hno := Lib.hid hno; have Hh := Lib.hid hh
  have hLv : ∀ k, Lvl ((n : Int) + 666) (n + 667) k (lvl (n + 667) k) := Lvl.any _ _ (by omega) (by omega)
  have HLv := Lib.hid hLv
  have hw1 : IntKind.i64.wrap ((n : Int) + 666) = n + 666 := IntWalk.i64_in _ (by omega)
  have hw2 : IntKind.i64.wrap ((n : Int) + 666 + 1) = n + 666 + 1 := IntWalk.i64_in _ (by omega)
  clear hl hno hh hLv
  go_enter Tryd.func50, Tryd.ntmps50
  go_wp2_with (at_make; refine wpList_make_cells _ rfl _ _ 57 rfl 84 i0 (.agg (Array.replicate 7 (.int .i8 0))) 7 (by kernel_rfl) hi hz0 hz1 .i64 .i64 _ _ (n + 667) rfl rfl (by omega) (by omega) (by rw [hz2]; omega) (by omega) ?_)
  have hmc : madeCells (Array.replicate 7 (Value.int .i8 0)) ((n + 667) * 7) = fArr (n + 667) (fun _ _ => 0) := by
    exact made_zero _
  have HF1 : Hid (Found (w.alloc (.cells (madeCells (Array.replicate 7 (Value.int .i8 0)) ((n + 667) * 7)) 84)) w.heap.size (n + 667) (lvl (n + 667) 0).1) := by
    show _ = _; rw [heap_alloc_new, hmc]; rfl
  have Hg1 : Hid (Below w.heap.size w (w.alloc (.cells (madeCells (Array.replicate 7 (Value.int .i8 0)) ((n + 667) * 7)) 84))) := (Below.refl _ _).alloc (Nat.le_refl _) _
  clear hmc hi hz0 hz1 hz2 i0
  generalize w.alloc (.cells (madeCells (Array.replicate 7 (Value.int .i8 0)) ((n + 667) * 7)) 84) = w1 at *
  go_wp2_with fail
  refine (noText_any _).mono ?_
  rintro e w2 ⟨rfl, g2⟩
  have HF2 : Hid (Found w2 w.heap.size (n + 667) (lvl (n + 667) 0).1) := (g2.block _ (lt_of_block' HF1.out)).trans HF1.out
  have Hg2 : Hid (Below w.heap.size w w2) := Hg1.out.trans (g2.mono Hg1.out.size)
  have hb2 := lt_of_block' HF2.out
  clear g2 HF1 Hg1
  have hal2 := (Below.refl w2.heap.size w2).alloc (Nat.le_refl _) (.cells #[.int .i64 2, .int .i64 0] 47)
  have HF3 : Hid (Found (w2.alloc (.cells #[.int .i64 2, .int .i64 0] 47)) w.heap.size (n + 667) (lvl (n + 667) 0).1) := (hal2.block _ hb2).trans HF2.out
  have Hg3 : Hid (Below w.heap.size w (w2.alloc (.cells #[.int .i64 2, .int .i64 0] 47))) := Hg2.out.alloc (Nat.le_of_lt hb2) _
  have HS3 : Hid (StAt (w2.alloc (.cells #[.int .i64 2, .int .i64 0] 47)) w2.heap.size (lvl (n + 667) 0).2) := fun i h => by
    have h0 : i = 0 := by simp [lvl] at h; omega
    subst h0
    exact ⟨cell_at (heap_alloc_new _ _) rfl, cell_at (heap_alloc_new _ _) rfl⟩
  clear hal2 HF2 Hg2
  go_wp2_with fail
  go_loopw [5, 6] (fun u i wr => ∃ (k sb c2 : Nat), i = .int .i64 k ∧ k ≤ L ∧ u = .slice (some ⟨sb, 0, none⟩) (lvl (n + 667) k).2.length c2 ∧ sb ≠ w.heap.size ∧ StAt wr sb (lvl (n + 667) k).2 ∧ Found wr w.heap.size (n + 667) (lvl (n + 667) k).1 ∧ Below w.heap.size w wr) (fun _ i _ => L - (intOf i).toNat)
  case atStart => exact ⟨0, w2.heap.size, 1, rfl, Nat.zero_le _, rfl, by omega, HS3.out, HF3.out, Hg3.out⟩
  case round =>
    clear HF3 Hg3 HS3
    obtain ⟨k, sb, c2, rfl, hk, rfl, hsb, hst, hfd, hbel⟩ := hrel
    have hLk := HLv.out k
    have Hst := Lib.hid hst; have Hfd := Lib.hid hfd; have Hbel := Lib.hid hbel; have HLk := Lib.hid hLk
    have hrow : ∀ c, c < 7 → wr.cell? ⟨w.heap.size, n * 7 + c, none⟩ = some (.int .i8 (fnd ((n : Int) + 666) k c n : Nat)) := fun c hc => by
      rw [← hLk.tab c n hc (by omega)]; exact cell_at hfd (fArr_at _ _ n c (by omega) hc)
    have Hrow := Lib.hid hrow
    clear hst hfd hbel hLk hrow
    by_cases hlt : k < L
    · have hz : ∀ c, c < 7 → wr.cell? ⟨w.heap.size, n * 7 + c, none⟩ = some (.int .i8 0) := fun c hc => by
        rw [Hrow.out c hc, fnd_row n k (fun j h1 h2 => Hno.out j h1 (by omega)) c hc]; rfl
      have q0 : wr.cell? ⟨w.heap.size, n * 7, none⟩ = some (.int .i8 0) := hz 0 (by omega); have q1 := hz 1 (by omega); have q2 := hz 2 (by omega); have q3 := hz 3 (by omega); have q4 := hz 4 (by omega); have q5 := hz 5 (by omega); have q6 := hz 6 (by omega)
      clear hz Hrow
      have hlen : (lvl (n + 667) k).2.length ≤ 678223072849 := Nat.le_trans HLk.out.len (bd7 k (by omega))
      have HC : Hid (Calls Tryd.prog 66 #[.slice (some ⟨w.heap.size, 0, none⟩) (n + 667) (n + 667), .slice (some ⟨sb, 0, none⟩) (lvl (n + 667) k).2.length c2, .int .i64 ((k : Int) + 1)] wr fun e w' =>
          ∃ v', e = .returned v' ∧ w'.ownsRow wr.heap.size 47 2 v' (lvl (n + 667) (k + 1)).2.length (stCells (lvl (n + 667) (k + 1)).2) ∧ Found w' w.heap.size (n + 667) (lvl (n + 667) (k + 1)).1 ∧ wr.grownBy w' (some w.heap.size)) := by
        have h := lengthen_any w.heap.size (n + 667) (n + 667) (k + 1) sb c2 (lvl (n + 667) k).1 (lvl (n + 667) k).2 wr (Hl.out.step Hbel.out) Hl.out.1 Hfd.out (by omega) (by omega) (fun c v => Nat.le_trans (HLk.out.bd c v) (by omega)) hlen Hst.out hsb
          (fun s hs => by
            obtain ⟨h1, h2, h3, h4, _⟩ := HLk.out.st s hs
            exact ⟨h1, by omega, by omega, fun l hl => HLk.out.pos s hs l hl⟩)
        rwa [show ((k + 1 : Nat) : Int) = (k : Int) + 1 from rfl] at h
      have Hne : Hid ((lvl (n + 667) (k + 1)).2 ≠ []) := by
        obtain ⟨c, v, hc, h⟩ := lvl_has n L hL1 Hh.out Hno.out (L - (k + 1)) (k + 1) (by omega)
        exact List.ne_nil_of_mem ((HLv.out (k + 1)).all c v hc h)
      have hwb := lt_of_block' Hfd.out
      have hkw : IntKind.i64.wrap ((k : Int) + 1) = k + 1 := IntWalk.i64_in _ (by omega)
      have heq := eq7_yes
      clear hlen
      go_wp2_with fail
      refine HC.out.mono ?_
      rintro e w3 ⟨v', rfl, hown, hfd', hgr⟩
      obtain ⟨g, cap, rfl, hg, hst'⟩ := own_states hown Hne.out
      have Hst' := Lib.hid hst'; have Hfd' := Lib.hid hfd'
      have Hbel' : Hid (Below w.heap.size w w3) := Hbel.out.grown hgr Hbel.out.size (fun k e => by simp at e; omega)
      clear hown hfd' hgr hst'
      go_wp2_with fail
      go_roundw
      case rel => exact ⟨k + 1, g, cap, by go_num, by omega, rfl, by omega, Hst'.out, Hfd'.out, Hbel'.out⟩
      case measure => simp [intOf]; omega
    · obtain rfl : k = L := by omega
      obtain ⟨c, hc, hcx⟩ := fnd_row' n k hL1 Hh.out
      have q0 : wr.cell? ⟨w.heap.size, n * 7, none⟩ = some (.int .i8 (fnd ((n : Int) + 666) k 0 n : Nat)) := Hrow.out 0 (by omega)
      have q1 := Hrow.out 1 (by omega); have q2 := Hrow.out 2 (by omega); have q3 := Hrow.out 3 (by omega); have q4 := Hrow.out 4 (by omega); have q5 := Hrow.out 5 (by omega); have q6 := Hrow.out 6 (by omega)
      have hne : ¬ (fnd ((n : Int) + 666) k 0 n = 0 ∧ fnd ((n : Int) + 666) k 1 n = 0 ∧ fnd ((n : Int) + 666) k 2 n = 0 ∧ fnd ((n : Int) + 666) k 3 n = 0 ∧ fnd ((n : Int) + 666) k 4 n = 0 ∧ fnd ((n : Int) + 666) k 5 n = 0 ∧ fnd ((n : Int) + 666) k 6 n = 0) := by
        rintro ⟨a0, a1, a2, a3, a4, a5, a6⟩
        rcases (show c = 0 ∨ c = 1 ∨ c = 2 ∨ c = 3 ∨ c = 4 ∨ c = 5 ∨ c = 6 by omega) with rfl | rfl | rfl | rfl | rfl | rfl | rfl <;> exact hcx (by assumption)
      clear Hrow hcx hc
      generalize fnd ((n : Int) + 666) k 0 n = x0 at *
      generalize fnd ((n : Int) + 666) k 1 n = x1 at *
      generalize fnd ((n : Int) + 666) k 2 n = x2 at *
      generalize fnd ((n : Int) + 666) k 3 n = x3 at *
      generalize fnd ((n : Int) + 666) k 4 n = x4 at *
      generalize fnd ((n : Int) + 666) k 5 n = x5 at *
      generalize fnd ((n : Int) + 666) k 6 n = x6 at *
      have heq := eq7_no x0 x1 x2 x3 x4 x5 x6 hne
      go_wp2_with fail
      go_ret2
      exact ⟨rfl, Hfd.out, Hbel.out⟩
end Go.Proofs.YthgagidpnnaajaaDoor
