/- The program's RomanShort: its walk. -/
import Derived.Test.YthgagidpnnaajaaDoorQR
namespace Go.Proofs.YthgagidpnnaajaaDoor
open Go.RowKit
set_option linter.unusedVariables false
set_option maxRecDepth 100000
theorem iRomanShort_no (n : Int) (w : World) (h : ¬ (1 ≤ n ∧ n ≤ 3999)) : Calls Tryd.prog 25 #[.int .i64 n] w fun e w' => e = .returned (.tuple #[.string ⟨#[]⟩, .bool false]) ∧ Below w.heap.size w w' := by
  have H := Lib.hid h; clear h
  go_enter Tryd.func25, Tryd.ntmps25
  go_wp2_with fail
  refine (hasRoman_any _ _).mono ?_
  rintro e w1 ⟨rfl, rfl⟩
  rw [show (decide (1 ≤ n ∧ n ≤ 3999)) = false from decide_eq_false H.out]
  go_wp2_with fail
  go_ret2
  exact ⟨rfl, (Below.refl _ _).alloc (Nat.le_refl _) _⟩
set_option maxRecDepth 100000 in
set_option maxHeartbeats 2000000 in
theorem iRomanShort_yes (n : Nat) (w : World) (hl : LV w) (h1 : 1 ≤ n) (h2 : n ≤ 3999) : Calls Tryd.prog 25 #[.int .i64 n] w fun e w' => e = .returned (.tuple #[.string ⟨(shortT n).toArray⟩, .bool true]) ∧ Below w.heap.size w w' := by
  obtain ⟨i0, hi, hz0, hz1, hz2⟩ := info_parts info_u8
  have hmf : ∀ (fn : Fn) (first cap : Array Value) (w : World), (Instr.makeFunc fn first cap).run Tryd.prog w = .ok (.func fn first cap) w := fun _ _ _ _ => rfl
  obtain ⟨s1, s2, s3, s4⟩ := shortLen_spec n h1 h2
  have hL : shortLen n ≤ 15 := Nat.le_trans s3 (strict_len n h2)
  have hst : shortT n = [] ++ (txt (shortLen n) (fun _ => (n : Int))).map lb := rfl
  have Hst := Lib.hid hst; have Hex := Lib.hid ((hasK_iff _ _).1 s1); have Hs1 := Lib.hid s1; have Hno := Lib.hid s4; have Hroad := Lib.hid (road_start n (shortLen n))
  have Hl := Lib.hid hl
  clear s1 s3 s4 hst hl
  generalize shortLen n = L at *
  go_enter Tryd.func25, Tryd.ntmps25
  have hn0 : (w.alloc (.cells #[.int .i64 (n : Nat)] 3)).heap[w.heap.size]? = some (.cells #[.int .i64 (n : Nat)] 3 (0, 0)) := heap_alloc_new _ _
  have hnc := cell_at hn0 (j := 0) rfl
  have Hn0 := Lib.hid hn0; clear hn0
  have Hb0 : Hid (Below w.heap.size w (w.alloc (.cells #[.int .i64 (n : Nat)] 3))) := (Below.refl _ _).alloc (Nat.le_refl _) _
  go_wp2_with fail
  refine (hasRoman_any _ _).mono ?_
  rintro e w1 ⟨rfl, rfl⟩
  rw [show (decide (1 ≤ (n : Int) ∧ (n : Int) ≤ 3999)) = true from decide_eq_true (by omega)]
  go_wp2_with fail
  refine (findFewest_any n L _ (Hl.out.step Hb0.out) h1 h2 s2 hL Hs1.out Hno.out).mono ?_
  rintro e w2 ⟨rfl, hfd, g2⟩
  have Hfd : Hid (Found w2 (w.heap.size + 1) (n + 667) (lvl (n + 667) L).1) := by
    have e : (w.alloc (.cells #[.int .i64 (n : Nat)] 3)).heap.size = w.heap.size + 1 := by simp
    rw [e] at hfd; exact hfd
  have Hb2 : Hid (Below w.heap.size w w2) := Hb0.out.trans (g2.mono Hb0.out.size)
  have Hn2 : Hid (w2.heap[w.heap.size]? = some (.cells #[.int .i64 (n : Nat)] 3 (0, 0))) := (g2.block _ (by simp)).trans Hn0.out
  clear hfd g2 hnc Hn0 Hb0
  go_wp2_with fail
  go_loopw [6, 7, 8] (fun fv tv i wr => ∃ (r : Nat) (done : List UInt8) (W : Nat → Int), i = .int .i64 r ∧ Sh w n L r fv tv done W wr) (fun _ _ i _ => (intOf i).toNat)
  case atStart => exact ⟨L, [], _, rfl, Nat.le_refl _, World.ownsRow_nil _ _ _ _, by simp, Hroad.out, Hst.out, Hex.out, fun _ _ => by omega, .inl ⟨rfl, rfl⟩, Hb2.out, Hn2.out, Hfd.out⟩
  case round =>
    clear Hfd Hb2 Hn2 Hst Hex Hroad
    obtain ⟨r, done, W, rfl, hsh⟩ := hrel
    have Hsh := Lib.hid hsh; clear hsh
    by_cases hr : 0 < r
    · obtain ⟨r, rfl⟩ : ∃ q, r = q + 1 := ⟨r - 1, by omega⟩
      have HC := Lib.hid (firstOf_any (w.heap.size + 1) n L (r + 1) (n + 667) w.heap.size _ W _ (Hl.out.step Hsh.out.below) h2 hL Hno.out Hsh.out.found (cell_at Hsh.out.num rfl) Hsh.out.wanted Hsh.out.road (by omega))
      generalize hf : first7 (fun f => ex (r + 1) f (W f)) = f at *
      have hf7 : f < 7 := by rw [← hf]; exact first7_lt _
      have hrL := Hsh.out.rL
      have hlen := Hsh.out.len
      have Hf := Lib.hid hf; clear hf
      go_wp2_with fail
      refine HC.out.mono ?_
      rintro e w3 ⟨rfl, g3⟩
      have Hg3 := Lib.hid g3; clear g3
      go_wp2_with fail
      refine (lsign_any f _ hf7).mono ?_
      rintro e w4 ⟨rfl, rfl⟩
      have Hg5 : Hid (Below _ _ ((w3.alloc (.cells #[.int .i64 (f : Nat), .int .i64 (W f)] 47)).alloc (.cells #[.int .u8 (sg f)] 5))) := (Hg3.out.alloc Hg3.out.size _).alloc (by simp; have := Hg3.out.size; omega) _
      have Hown5 : Hid (World.ownsRow ((w3.alloc (.cells #[.int .i64 (f : Nat), .int .i64 (W f)] 47)).alloc (.cells #[.int .u8 (sg f)] 5)) w.heap.size 5 1 _ done.length (Lib.strCells ⟨done.toArray⟩)) :=
        Hsh.out.own.kept (row := none) ⟨Hg5.out.os, Hg5.out.tape, Hg5.out.output, Hg5.out.size, fun k hk _ => Hg5.out.block k hk⟩ (by cases hv : Value.ownBlock _ <;> simp)
      have hw3 : w.heap.size ≤ w3.heap.size := Nat.le_trans Hsh.out.below.size Hg3.out.size
      have hp5 : ((w3.alloc (.cells #[.int .i64 (f : Nat), .int .i64 (W f)] 47)).alloc (.cells #[.int .u8 (sg f)] 5)).heap[w3.heap.size]? = some (.cells #[.int .i64 (f : Nat), .int .i64 (W f)] 47 (0, 0)) := by
        rw [Below.heap_alloc _ _ _ (by simp)]; exact heap_alloc_new _ _
      have Hp5 := Lib.hid hp5; clear hp5
      go_wp2_with (at_builtin; refine wpList_append_own _ rfl _ _ 22 rfl w.heap.size 5 i0 (.int .u8 0) 1 1 Tryd.underlying22 hi hz0 hz1 hz2 rfl (by decide) _ _ _ rfl Hown5.out ⟨w3.heap.size + 1, 0, none⟩ 1 1 [.int .u8 (sg f)] rfl rfl ?c1 ?c2 ?c3 ?c4 ?c5 ?_)
      case c1 =>
        intro j u h
        have e : (w3.alloc (.cells #[.int .i64 (f : Nat), .int .i64 (W f)] 47)).heap.size = w3.heap.size + 1 := by simp
        rw [← e]
        match j, h with
        | 0, h => simp at h; subst h; exact cell_at (heap_alloc_new _ _) (by rfl)
        | j + 1, h => simp at h
      case c2 => intro u hu; simp at hu; subst hu; rfl
      case c3 => unfold maxLen; omega
      case c4 => omega
      case c5 => simp; omega
      intro v' w6 ho g6 _
      have Hst := Lib.hid (Hsh.out.step hL Hg5.out f Hf.out.symm ho g6)
      have hp6 := grown_block g6 Hown5.out Hp5.out (by decide)
      have hs0 := cell_at hp6 (j := 0) rfl
      have hs1 := cell_at hp6 (j := 1) rfl
      clear ho g6 hp6
      go_wp2_with fail
      go_roundw
      case rel => exact ⟨r, done ++ [lb f], _, by go_num, Hst.out⟩
      case measure => simp [intOf]
    · obtain rfl : r = 0 := by omega
      have hown := Hsh.out.own
      have hcv := conv_own (P := Tryd.prog) _ 22 9 5 Tryd.underlying22 Tryd.underlying5 Tryd.underlying9 _ _ _ _ hown
      have Hd : Hid (done = shortT n) := by
        show _ = _
        rw [Hsh.out.txt, txt, List.map_nil, List.append_nil]
      clear hown
      go_wp2_with fail
      go_ret2
      exact ⟨by rw [Hd.out]; rfl, Hsh.out.below⟩
theorem iRomanShort_any (n : Int) (w : World) (hl : LV w) : Calls Tryd.prog 25 #[.int .i64 n] w fun e w' => e = .returned (romanShortR n) ∧ Below w.heap.size w w' := by
  unfold romanShortR
  by_cases h : 1 ≤ n ∧ n ≤ 3999
  · rw [if_pos h]
    obtain ⟨m, rfl⟩ := Int.eq_ofNat_of_zero_le (show 0 ≤ n by omega)
    exact iRomanShort_yes m w hl (by omega) (by omega)
  · rw [if_neg h]; exact iRomanShort_no n w h
end Go.Proofs.YthgagidpnnaajaaDoor
