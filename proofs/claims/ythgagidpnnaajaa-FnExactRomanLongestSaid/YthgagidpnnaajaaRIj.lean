/- The program's joinPieces. -/
import Derived.Test.YthgagidpnnaajaaRIp
namespace Go.Proofs.Ythgagidpnnaajaa
open Go.RowKit
set_option linter.unusedVariables false
set_option maxRecDepth 100000
theorem info_u8 : (Try.prog.info? 5).map (fun i => (i.zero, i.size, i.bytes)) = some (some (.int .u8 0), 1, 1) := by kernel_rfl
theorem many_take_step (v : Nat) (b : List UInt8) (m : Nat) (h : v ≤ m) (hv : 1 ≤ v) : many b (m / v) = b ++ many b ((m - v) / v) := by
  rw [Nat.div_eq_sub_div (by omega) h, many_succ]
set_option maxHeartbeats 400000 in
theorem joinPieces_any (ps : List (List UInt8 × Nat)) (b : Nat) (n : Nat) (w : World) (hn : n ≤ 100000) (hp : Pieces w b ps) (hl : ps.length ≤ 100) (hv : ∀ p ∈ ps, 1 ≤ p.2 ∧ p.2 ≤ 10000 ∧ p.1.length ≤ 2) :
    Calls Try.prog 17 #[.int .i64 n, .slice (some ⟨b, 0, none⟩) ps.length ps.length] w fun e w' => e = .returned (.string ⟨(take ps n).toArray⟩) ∧ Below w.heap.size w w' := by
  obtain ⟨i0, hi, hz0, hz1, hz2⟩ := info_parts info_u8
  have hblt : b < w.heap.size := by
    obtain ⟨T, h⟩ := hp
    rcases Nat.lt_or_ge b w.heap.size with h' | h'
    · exact h'
    · simp [Array.getElem?_eq_none h'] at h
  go_enter Try.func17, Try.ntmps17
  go_wp2
  go_loopw [0, 5, 10] (fun n' v i wr => ∃ (m k : Nat) (txt : List UInt8), n' = .int .i64 m ∧ i = .int .i64 k ∧ k ≤ ps.length ∧ wr.ownsRow w.heap.size 5 1 v txt.length (Lib.strCells ⟨txt.toArray⟩) ∧ Below w.heap.size w wr ∧ txt ++ take (ps.drop k) m = take ps n ∧ txt.length + 2 * m ≤ 2 * n)
    (fun _ _ i _ => ps.length - (intOf i).toNat)
  case atStart => exact ⟨n, 0, [], rfl, rfl, Nat.zero_le _, World.ownsRow_nil _ _ _ _, Below.refl _ _, rfl, by simp⟩
  case round =>
    obtain ⟨m, k, txt, rfl, rfl, hk, hown, hbel, htxt, hlen⟩ := hrel
    have Htxt := Lib.hid htxt; clear htxt
    by_cases hlt : k < ps.length
    · have hcs : wr.cell? ⟨b, k * 2, none⟩ = some (.string ⟨(ps.getD k ([], 0)).1.toArray⟩) ∧ wr.cell? ⟨b, k * 2 + 1, none⟩ = some (.int .i64 ((ps.getD k ([], 0)).2 : Nat)) := by
        obtain ⟨T, h⟩ := hp
        have h' := (hbel.block b hblt).trans h
        have hc := pieceCells_at ps k hlt
        exact ⟨cell_at h' (by simpa using hc.1), cell_at h' (by simpa using hc.2)⟩
      have hvk := hv (ps.getD k ([], 0)) (by rw [List.getD_eq_getElem?_getD, List.getElem?_eq_getElem hlt]; exact List.getElem_mem hlt)
      have Hdrop : Hid (ps.drop k = ps.getD k ([], 0) :: ps.drop (k + 1)) := by
        show ps.drop k = _
        rw [List.getD_eq_getElem?_getD, List.getElem?_eq_getElem hlt]
        exact List.drop_eq_getElem_cons hlt
      generalize ps.getD k ([], 0) = pk at *
      obtain ⟨bk, vk⟩ := pk
      obtain ⟨hc1, hc2⟩ := hcs
      obtain ⟨v1, v2, v3⟩ := hvk
      simp only at hc1 hc2 v1 v2 v3
      have hfit : wr.heap.size < 0 + wr.heap.size + 1 := by omega
      have hp0 := heap_alloc_new wr (.cells #[Value.string ⟨bk.toArray⟩, Value.int .i64 (vk : Nat)] 41)
      have Hp0 := Lib.hid hp0; clear hp0
      obtain ⟨wo, rfl⟩ : ∃ wo : World, wo = wr := ⟨_, rfl⟩
      go_wp2_with fail
      go_loopw [0, 5] (fun n' v w2 => ∃ (m : Nat) (txt : List UInt8), n' = .int .i64 m ∧ w2.ownsRow w.heap.size 5 1 v txt.length (Lib.strCells ⟨txt.toArray⟩) ∧ Below w.heap.size w w2 ∧ w2.heap[wo.heap.size]? = some (.cells #[Value.string ⟨bk.toArray⟩, Value.int .i64 (vk : Nat)] 41 (0, 0)) ∧ txt ++ (many bk (m / vk) ++ take (ps.drop (k + 1)) (m % vk)) = take ps n ∧ txt.length + 2 * m ≤ 2 * n)
        (fun n' _ _ => (intOf n').toNat)
      case atStart => exact ⟨m, txt, rfl, hown.alloc _, hbel.alloc hbel.size _, Hp0.out, by have := Htxt.out; rw [Hdrop.out] at this; exact this, hlen⟩
      case round =>
        clear hown hc1 hc2 Htxt hlen
        obtain ⟨m, txt, rfl, hown, hbel, hpb, htxt, hlen⟩ := hrel
        have Htxt := Lib.hid htxt; clear htxt
        have hc1 := cell_at hpb (j := 0) rfl
        have hc2 := cell_at hpb (j := 1) rfl
        by_cases hge : vk ≤ m
        · have hsz : (⟨bk.toArray⟩ : ByteArray).size = bk.length := by show bk.toArray.size = bk.length; simp
          have Hsz := Lib.hid hsz; clear hsz
          go_wp2_with (at_builtin; refine Lib.wpList_append_own_string _ rfl _ _ 22 9 rfl w.heap.size 5 i0 Try.underlying22 Try.underlying9 hi hz0 hz1 hz2 _ _ _ rfl hown ⟨bk.toArray⟩ rfl ?_ ?_ ?_ ?_)
          · rw [Hsz.out]; unfold maxLen; omega
          · rw [Hsz.out]; omega
          · exact hbel.size
          · intro v' w' hown' hgrow _
            have R1 := hbel.grown hgrow hbel.size (fun k hk => (hown.lt k hk).1)
            have R2 := grown_block hgrow hown hpb (by decide)
            have R3 : w'.ownsRow w.heap.size 5 1 v' (txt ++ bk).length (Lib.strCells ⟨(txt ++ bk).toArray⟩) := by
              rw [strCells_append, List.length_append]; exact hown'
            have Hst : Hid (txt ++ bk ++ (many bk ((m - vk) / vk) ++ take (ps.drop (k + 1)) ((m - vk) % vk)) = take ps n) := by
              show _ = _
              rw [← Htxt.out, many_take_step vk bk m hge v1, Nat.mod_eq_sub_mod hge]
              simp
            have hc1' := cell_at R2 (j := 0) rfl
            have hc2' := cell_at R2 (j := 1) rfl
            clear hown hown' hgrow hc1 hc2 Htxt hpb hbel
            go_wp2
            go_roundw
            case rel => exact ⟨m - vk, txt ++ bk, by go_num, R3, R1, R2, Hst.out, by simp; omega⟩
            case measure => simp [intOf]; omega
        · have hm0 : m / vk = 0 := Nat.div_eq_of_lt (by omega)
          have hm1 : m % vk = m := Nat.mod_eq_of_lt (by omega)
          have Hst : Hid (txt ++ take (ps.drop (k + 1)) m = take ps n) := by
            show _ = _
            have := Htxt.out
            rw [hm0, hm1, many_zero, List.nil_append] at this
            exact this
          clear hm0 hm1 Htxt
          go_wp2
          go_roundw
          case rel => exact ⟨m, k + 1, txt, rfl, by go_num, by omega, hown, hbel, Hst.out, hlen⟩
          case measure => simp [intOf]; omega
    · have hke : k = ps.length := by omega
      subst hke
      have hcv := conv_own (P := Try.prog) wr 22 9 5 Try.underlying22 Try.underlying5 Try.underlying9 _ _ _ _ hown
      have Hst : Hid (txt = take ps n) := by
        show _ = _
        have := Htxt.out
        rw [List.drop_length, take, List.append_nil] at this
        exact this
      clear Htxt
      go_wp2
      go_ret
      exact ⟨ret_string Hst.out, hbel⟩
end Go.Proofs.Ythgagidpnnaajaa
