/- The model's AlphaLeast. -/
import Derived.Test.YtdognkjpiineiaaDoorAF
namespace Go.Proofs.YtdognkjpiineiaaDoor
open Go.RowKit
set_option linter.unusedVariables false
set_option maxRecDepth 100000
theorem all27_letter : ∀ k, k < 27 → all27.extract k (k + 1) = ⟨[lt (at27 k)].toArray⟩ := by
  have h : ∀ k, k < 27 → (all27.extract k (k + 1)).data = [lt (at27 k)].toArray := by decide +kernel
  exact fun k hk => ByteArray.ext (h k hk)
theorem mem_take27 (k : Nat) (i : Nat) (hk : k ≤ 27) (h : i ∈ L27.take k) : ∃ j, j < k ∧ i = at27 j := by
  obtain ⟨j, hj, e⟩ := List.getElem_of_mem h
  have hj' : j < k := by simp at hj; omega
  refine ⟨j, hj', ?_⟩
  rw [← e, List.getElem_take]
  unfold at27
  rw [List.getD_eq_getElem?_getD, List.getElem?_eq_getElem (by rw [len27]; omega)]; rfl
theorem find27 (p : Nat → Bool) (k : Nat) (hk : k < 27) (hno : ∀ j, j < k → p (at27 j) = false) (hp : p (at27 k) = true) : L27.find? p = some (at27 k) := by
  have e : L27 = L27.take k ++ at27 k :: L27.drop (k + 1) := by
    have h1 := List.take_append_drop (k + 1) L27
    rw [take27 k hk, List.append_assoc] at h1
    exact h1.symm
  rw [e, List.find?_append]
  have h0 : (L27.take k).find? p = none := by
    rw [List.find?_eq_none]
    intro x hx
    obtain ⟨j, hj, rfl⟩ := mem_take27 k x (by omega) hx
    rw [hno j hj]; simp
  rw [h0, Option.none_or, List.find?_cons, hp]
theorem find27_none (p : Nat → Bool) (hno : ∀ j, j < 27 → p (at27 j) = false) : L27.find? p = none := by
  rw [List.find?_eq_none]
  intro x hx
  obtain ⟨j, hj, rfl⟩ := mem_take27 27 x (by omega) (by rw [List.take_of_length_le (by rw [len27]; exact Nat.le_refl _)]; exact hx)
  rw [hno j hj]; simp
/-- AlphaLeast's answer -/
def leastR (n : Int) : Value := if 1 ≤ n ∧ n ≤ 2000 then .tuple #[.string ⟨(least n.toNat).toArray⟩, .bool true] else .tuple #[.string ⟨#[]⟩, .bool false]
theorem leastR_yes (n : Nat) (h1 : 1 ≤ n) (h2 : n ≤ 2000) : leastR n = .tuple #[.string ⟨(least n).toArray⟩, .bool true] := by
  unfold leastR
  rw [if_pos (by omega)]; rfl
theorem leastR_no (n : Int) (h : ¬ (1 ≤ n ∧ n ≤ 2000)) : leastR n = .tuple #[.string ⟨#[]⟩, .bool false] := by unfold leastR; rw [if_neg h]
set_option maxHeartbeats 1000000 in
theorem sAlphaLeast_in (n : Nat) (w : World) (h1 : 1 ≤ n) (h2 : n ≤ 2000) : Calls Tryd.prog 29 #[.int .i64 n] w fun e w' => e = .returned (leastR n) ∧ Below w.heap.size w w' := by
  have Hfin := Lib.hid (leastR_yes n h1 h2)
  have Hall := Lib.hid l3All_any
  have hasz := all27_size
  have Hval := Lib.hid all27_at
  have Hlet := Lib.hid all27_letter
  have hf5 := few_five n h2
  generalize all27 = A at *
  go_enter Tryd.func29, Tryd.ntmps29
  go_wp2_with fail
  refine (l6In_any _ _ _ _).mono ?_
  rintro e w1 ⟨rfl, rfl⟩
  rw [show (decide (1 ≤ (n : Int) ∧ (n : Int) ≤ 2000)) = true from decide_eq_true ⟨by omega, by omega⟩]
  go_wp2_with fail
  refine (l3Fewest_any n _ h2).mono ?_
  rintro e w1 ⟨g, cap, rfl, hown, hbel⟩
  obtain ⟨f1, f2, f3⟩ := own_formA hown
  have Hown := Lib.hid hown; have Hbel := Lib.hid hbel; clear hown hbel
  go_wp2_with fail
  refine (Hall.out _).mono ?_
  rintro e w2 ⟨rfl, rfl⟩
  go_wp2_with fail
  go_loopw [0, 6] (fun x t wr => ∃ (m : Nat) (pre : List Nat), x = .int .i64 m ∧ m ≤ n ∧ t = .string ⟨(wtext pre).toArray⟩ ∧ pre.length + few m = few n ∧ Hid (pre ++ gr (few m) m = gr (few n) n) ∧ wr.ownsRow w.heap.size 3 1 (.slice (some ⟨g, 0, none⟩) (n + 1) cap) (n + 1) (fewC n) ∧ Below w.heap.size w wr) (fun x _ _ => (intOf x).toNat)
  case atStart => exact ⟨n, [], rfl, Nat.le_refl _, rfl, by simp, Lib.hid rfl, Hown.out, Hbel.out⟩
  case round =>
    clear Hown Hbel
    obtain ⟨m, pre, rfl, hm, rfl, hlen, Hpre, hown, hbel⟩ := hrel
    have Hown := Lib.hid hown; have Hbel := Lib.hid hbel; clear hown hbel
    by_cases hz : m = 0
    · subst hz
      have Hend : Hid (wtext pre = least n) := by
        show _ = _
        have := Hpre.out
        rw [few_zero] at this
        unfold least
        rw [← this]
        simp [gr]
      go_wp2_with fail
      go_ret2
      exact ⟨ret_val (by rw [Hfin.out, ← Hend.out]; rfl), Hbel.out⟩
    · have hq0 : decide (0 < m) = true := decide_eq_true (by omega)
      have hwl : (wtext pre).length ≤ 5 := by unfold wtext; rw [List.length_map]; omega
      have hfm := few_pos m (by omega)
      have Hc2 : Hid (∀ j, j ≤ n → ∀ wr' : World, wr'.ownsRow w.heap.size 3 1 (.slice (some ⟨g, 0, none⟩) (n + 1) cap) (n + 1) (fewC n) → wr'.cell? ⟨g, j, none⟩ = some (.int .i64 (few j : Nat))) := fun j hj wr' ho => by
        rw [ho.cellAt _ (by omega)]
        exact intCells_at _ _ _ (by omega)
      obtain ⟨wo, rfl⟩ : ∃ wo : World, wo = wr := ⟨_, rfl⟩
      go_wp2_with fail
      go_loopw [0, 6, 7] (fun x t i wr => ∃ (k : Nat), k ≤ 27 ∧ i = .int .i64 k ∧ x = .int .i64 m ∧ t = .string ⟨(wtext pre).toArray⟩ ∧ Hid (∀ j, j < k → adm m (at27 j) = false) ∧ wr.ownsRow w.heap.size 3 1 (.slice (some ⟨g, 0, none⟩) (n + 1) cap) (n + 1) (fewC n) ∧ Below w.heap.size w wr) (fun _ _ i _ => 27 - (intOf i).toNat)
      case atStart => exact ⟨0, by omega, rfl, rfl, rfl, Lib.hid (fun j hj => by omega), Hown.out, Hbel.out⟩
      case round =>
        clear Hown Hbel
        obtain ⟨k, hk, rfl, rfl, rfl, Hno, hown, hbel⟩ := hrel
        have hcm := Hc2.out m hm _ hown
        have Hown := Lib.hid hown; have Hbel := Lib.hid hbel; clear hown hbel
        by_cases hk2 : k < 27
        · have hi27 := at27_lt k hk2
          have hvb := vn_bd (at27 k) hi27
          have Hadm := Lib.hid (adm_iff m (at27 k))
          have Hans : Hid (∀ hix, av ((A[k]'hix).toNat : Int) = (vn (at27 k) : Nat)) := fun hix => Hval.out k hix
          have Hl := Lib.hid (Hlet.out k hk2)
          generalize hi : at27 k = i at *
          have Hi := Lib.hid hi; clear hi
          generalize hv : vn i = v at *
          have Hv := Lib.hid hv; clear hv
          by_cases hvm : v ≤ m
          · have hcv := Hc2.out (m - v) (by omega) wr Hown.out
            have hq : decide ((v : Int) ≤ (m : Int)) = true := decide_eq_true (by omega)
            have hfv := few_le (m - v)
            have hfw := few_le m
            have Hfst := Lib.hid (few_step m i hi27)
            by_cases he : few (m - v) + 1 = few m
            · have ht : ((few (m - v) : Int) == (few m : Int) - 1) = true := by rw [beq_iff_eq]; omega
              have Hstep : Hid (gr (few m) m = i :: gr (few (m - v)) (m - v)) := by
                show _ = _
                obtain ⟨i', _, hf', _, _, e'⟩ := gr_step (few m - 1) m (by omega)
                rw [show few m = few m - 1 + 1 by omega, e']
                have hfi : L27.find? (adm m) = some i := by
                  have := find27 (adm m) k hk2 Hno.out (by rw [Hi.out]; exact Hadm.out.2 ⟨hvm, he⟩)
                  rwa [Hi.out] at this
                rw [hfi] at hf'
                cases hf'
                rw [Hv.out, show few m - 1 = few (m - v) by omega]
              generalize hfa : few (m - v) = fa at *
              generalize hfb : few m = fb at *
              have Hfa := Lib.hid hfa; have Hfb := Lib.hid hfb; have He := Lib.hid he; clear hfa hfb he
              go_wp2_with fail
              refine (l3Value_any _ _).mono ?_
              rw [Hans.out]
              rintro e w3 ⟨rfl, rfl⟩
              go_wp2_with fail
              go_quiet (fail)
              go_wp2
              refine ⟨⟨m - v, pre ++ [i], by go_num, by omega, ?_, ?_, ?_, Hown.out, bel_drewN Hbel.out _⟩, by simp [intOf]; omega⟩
              · rw [Hl.out]
                exact congrArg Value.string (by rw [bytes_append]; simp [wtext])
              · have := He.out
                rw [Hfa.out, List.length_append, List.length_singleton]; omega
              · show _ = _
                rw [← Hpre.out, Hfa.out, Hstep.out, List.append_assoc]; rfl
            · have ht : ((few (m - v) : Int) == (few m : Int) - 1) = false := by rw [beq_eq_false_iff_ne]; omega
              have Hno2 : Hid (∀ j, j < k + 1 → adm m (at27 j) = false) := fun j hj => by
                by_cases e : j = k
                · subst e
                  rw [Hi.out]
                  cases ha : adm m i with
                  | false => rfl
                  | true => exact absurd (Hadm.out.1 ha).2 he
                · exact Hno.out j (by omega)
              generalize hfa : few (m - v) = fa at *
              generalize hfb : few m = fb at *
              have Hfa := Lib.hid hfa; have Hfb := Lib.hid hfb; clear hfa hfb he
              go_wp2_with fail
              refine (l3Value_any _ _).mono ?_
              rw [Hans.out]
              rintro e w3 ⟨rfl, rfl⟩
              go_wp2_with fail
              go_quiet (fail)
              go_wp2
              go_roundw
              case rel => exact ⟨k + 1, by omega, by go_num, rfl, rfl, Hno2, Hown.out, bel_drewN Hbel.out _⟩
              case measure => simp [intOf]; omega
          · have hq : decide ((v : Int) ≤ (m : Int)) = false := decide_eq_false (by omega)
            have hq2 : decide (v ≤ m) = false := decide_eq_false hvm
            have Hno2 : Hid (∀ j, j < k + 1 → adm m (at27 j) = false) := fun j hj => by
              by_cases e : j = k
              · subst e
                rw [Hi.out]
                cases ha : adm m i with
                | false => rfl
                | true => exact absurd (Hadm.out.1 ha).1 hvm
              · exact Hno.out j (by omega)
            clear hvm
            go_wp2_with fail
            refine (l3Value_any _ _).mono ?_
            rw [Hans.out]
            rintro e w3 ⟨rfl, rfl⟩
            go_wp2_with fail
            go_quiet (fail)
            go_wp2
            go_roundw
            case rel => exact ⟨k + 1, by omega, by go_num, rfl, rfl, Hno2, Hown.out, bel_drewN Hbel.out _⟩
            case measure => simp [intOf]; omega
        · obtain rfl : k = 27 := by omega
          exfalso
          obtain ⟨c, hc⟩ : ∃ c, few m = c + 1 := ⟨few m - 1, by omega⟩
          obtain ⟨i', _, hf', _⟩ := gr_step c m hc
          rw [find27_none _ Hno.out] at hf'
          cases hf'
theorem sAlphaLeast_any (n : Int) (w : World) : Calls Tryd.prog 29 #[.int .i64 n] w fun e w' => e = .returned (leastR n) ∧ Below w.heap.size w w' := by
  by_cases h : 1 ≤ n ∧ n ≤ 2000
  · obtain ⟨k, rfl⟩ := Int.eq_ofNat_of_zero_le (show 0 ≤ n by omega)
    exact sAlphaLeast_in k w (by omega) (by omega)
  · rw [leastR_no n h]
    have H := Lib.hid h; clear h
    go_enter Tryd.func29, Tryd.ntmps29
    go_wp2_with fail
    refine (l6In_any _ _ _ _).mono ?_
    rintro e w1 ⟨rfl, rfl⟩
    rw [show (decide (1 ≤ n ∧ n ≤ 2000)) = false from decide_eq_false H.out]
    go_wp2_with fail
    go_ret2
    exact ⟨rfl, Below.refl _ _⟩
end Go.Proofs.YtdognkjpiineiaaDoor
