/- The model's chapter 4 (package spec): PlaceReadings. -/
import Derived.Test.YtejhiilkbckobaaDoorCV
import Derived.Test.YtejhiilkbckobaaDoorCT
import Derived.Deep.RegionLaw
import Derived.Deep.AppendLies
import Derived.Laws.OwnMore
import Derived.IntWalk
namespace Go.Proofs.YtejhiilkbckobaaDoor
open Go.RowKit
set_option linter.unusedVariables false
set_option maxRecDepth 100000
/-- is it a pressed text? -/
def prsB (l : List UInt8) : Bool := decide (1 ≤ l.length ∧ l.length ≤ 8) && l.all (fun c => c == 60 || c == 89)
def rdsF (l : List UInt8) (k : Nat) : Int := (ints (rds l)).getD k 0
/-- out while it is put in order -/
def Sorted (l : List UInt8) (i : Nat) (os : List Nat) : Prop := os.Pairwise (· < ·) ∧ (∀ x, x ∈ os ↔ x ∈ (prts 3 l 0).take i) ∧ os.length = i
theorem sorted_end (l : List UInt8) (hl : l ≠ []) (os : List Nat) (h : Sorted l (prts 3 l 0).length os) : os = rds l := by
  refine asc_unique _ _ h.1 (rds_asc l) fun x => ?_
  rw [h.2.1, List.take_length, mem_prts0 l hl]
theorem sorted_step (l : List UInt8) (i : Nat) (hi : i < (prts 3 l 0).length) (os : List Nat) (h : Sorted l i os) (k : Nat) (hk : k ≤ os.length)
    (h1 : k = 0 ∨ os.getD (k - 1) 0 ≤ (prts 3 l 0)[i]) (h2 : k = os.length ∨ (prts 3 l 0)[i] < os.getD k 0) : Sorted l (i + 1) (os.take k ++ (prts 3 l 0)[i] :: os.drop k) := by
  obtain ⟨s1, s2, s3⟩ := h
  have hnd := prts_nodup 3 l 0
  have hx : (prts 3 l 0)[i] ∉ os := by
    rw [s2]
    intro hm
    have hs : prts 3 l 0 = (prts 3 l 0).take i ++ (prts 3 l 0)[i] :: (prts 3 l 0).drop (i + 1) := by
      rw [← List.drop_eq_getElem_cons hi, List.take_append_drop]
    rw [hs, List.pairwise_append] at hnd
    exact hnd.2.2 _ hm _ List.mem_cons_self rfl
  refine ⟨asc_insert os _ k s1 hk hx ?_ ?_, fun z => ?_, ?_⟩
  · intro y hy
    rcases h1 with rfl | h1
    · simp at hy
    · obtain ⟨j, hj, rfl⟩ := List.getElem_of_mem hy
      rw [List.length_take] at hj
      rw [List.getElem_take]
      have hk1 : k - 1 < os.length := by omega
      rw [List.getD_eq_getElem?_getD, List.getElem?_eq_getElem hk1] at h1
      by_cases e : j = k - 1
      · subst e; exact h1
      · have := List.pairwise_iff_getElem.1 s1 j (k - 1) (by omega) hk1 (by omega)
        have h1' : os[k - 1] ≤ (prts 3 l 0)[i] := h1
        omega
  · intro y hy
    rcases h2 with rfl | h2
    · simp at hy
    · obtain ⟨j, hj, rfl⟩ := List.getElem_of_mem hy
      rw [List.length_drop] at hj
      rw [List.getElem_drop]
      have hk1 : k < os.length := by omega
      rw [List.getD_eq_getElem?_getD, List.getElem?_eq_getElem hk1] at h2
      have h2' : (prts 3 l 0)[i] < os[k] := h2
      by_cases e : j = 0
      · subst e; exact h2'
      · have := List.pairwise_iff_getElem.1 s1 k (k + j) hk1 (by omega) (by omega)
        omega
  · rw [mem_insert, s2, List.take_succ_eq_append_getElem hi, List.mem_append, List.mem_singleton]
    exact or_comm
  · simp only [List.length_append, List.length_cons, List.length_take, List.length_drop]
    omega
/-- numbers that are appended, where they lie, in every later world -/
def NewsAt (w : World) (ad : Addr) (D : List Nat) : Prop := ∀ W, Below w.heap.size w W → ∀ (j : Nat) u, ((ints D).map (Value.int .i64))[j]? = some u → W.cell? (ad.add j) = some u
theorem newsAt_of {w : World} {b off : Nat} {D : List Nat} (hb : b < w.heap.size) (h : ∀ j, j < D.length → w.cell? ⟨b, off + j, none⟩ = some (.int .i64 (D.getD j 0 : Nat))) : NewsAt w ⟨b, off, none⟩ D := by
  intro W hW j u hu
  have hj : j < D.length := by
    rcases Nat.lt_or_ge j D.length with h | h
    · exact h
    · rw [List.getElem?_eq_none (by simpa [ints] using h)] at hu; cases hu
  have e : (⟨b, off, none⟩ : Addr).add j = ⟨b, off + j, none⟩ := by unfold Addr.add; split <;> simp_all
  rw [e, (hW.cell (p := ⟨b, off + j, none⟩) hb).trans (h j hj), ← hu]
  simp [ints, List.getD_eq_getElem?_getD, List.getElem?_eq_getElem hj]
theorem newsAt_nil (w : World) (ad : Addr) : NewsAt w ad [] := by intro W hW j u hu; simp [ints] at hu
theorem cells1 (D : List Nat) : ∀ u ∈ (ints D).map (Value.int .i64), u.oneCell' = true := by
  intro u hu
  obtain ⟨y, _, rfl⟩ := List.mem_map.1 hu
  rfl
theorem own_len {w : World} {B n : Nat} {v : Value} {xs : List Value} (h : w.ownsRow B 3 1 v n xs) : w.ownsRow B 3 1 v xs.length xs := by
  have e : n = xs.length := by have := h.1; omega
  rwa [← e]
/-- a row behind an append -/
theorem own_app {W w w0 : World} {v v' : Value} {n m : Nat} {xs ys : List Value} (HE : W.ownsRow w0.heap.size 3 1 v n xs) (HB : Below w0.heap.size w0 W) (ho : w.ownsRow w0.heap.size 3 1 v' (n + m) (xs ++ ys)) (hg : W.grownBy w v.ownBlock) :
    Below w0.heap.size w0 w ∧ w.ownsRow w0.heap.size 3 1 v' (xs ++ ys).length (xs ++ ys) :=
  ⟨HB.grown hg HB.size (fun b hb => (HE.lt b hb).1), own_len ho⟩
theorem own_le {w : World} {B B' n : Nat} {v : Value} {xs : List Value} (h : w.ownsRow B 3 1 v n xs) (hb : B' ≤ B) : w.ownsRow B' 3 1 v n xs :=
  ⟨h.1, h.2.imp id fun ⟨g, cap, cur, h1, h2, h3⟩ => ⟨g, cap, cur, h1, Nat.le_trans hb h2, h3⟩⟩
theorem grown_rsp {w : World} {B g c : Nat} {xs : List Int} (h : Grown B w g c xs) : Rsp w B w.heap.size (some ⟨g, 0, none⟩) xs.length (fun k => xs.getD k 0) := by
  unfold Grown at h
  obtain ⟨a, c, e1, _, h3⟩ := Rsp.of_own h
  injection e1 with e3 _ _
  rw [e3]
  exact h3
/-- what a round leaves -/
theorem ins_end {w wr w0 w4 w5 w1 : World} {v4 v5 : Value} {n m i k g x : Nat} {T D : List Nat} (h2 : Below w.heap.size w wr) (h0 : Below wr.heap.size wr w0 ∧ w0.heap.size = wr.heap.size) (hTl : T.length = k) (hDl : D.length = i - k) (hk : k ≤ i)
    (HO : w4.ownsRow w0.heap.size 3 1 v4 n (([] ++ (ints T).map (Value.int .i64)) ++ [.int .i64 x])) (HB : Below w0.heap.size w0 w4) (ho : w5.ownsRow w0.heap.size 3 1 v5 (n + m) ((([] ++ (ints T).map (Value.int .i64)) ++ [.int .i64 x]) ++ (ints D).map (Value.int .i64))) (hg : w4.grownBy w5 v4.ownBlock)
    (hgw : g < wr.heap.size) (hgb : wr.heap[g]? = w1.heap[g]?) (hsz : w1.heap.size ≤ wr.heap.size) :
    ∃ g' cap', v5 = .slice (some ⟨g', 0, none⟩) (i + 1) cap' ∧ Hid (Grown w.heap.size w5 g' cap' (ints (T ++ x :: D))) ∧ Hid ((T ++ x :: D).length = i + 1) ∧ Hid (Below w.heap.size w w5) ∧ Hid (w5.heap[g]? = w1.heap[g]? ∧ w1.heap.size ≤ w5.heap.size ∧ g' ≠ g) := by
  obtain ⟨hb5, ho5⟩ := own_app HO HB ho hg
  have e5 : ((([] : List Value) ++ (ints T).map (Value.int .i64)) ++ [.int .i64 x]) ++ (ints D).map (Value.int .i64) = (ints (T ++ x :: D)).map (Value.int .i64) := by simp [ints]
  have hl5 : ((ints (T ++ x :: D)).map (Value.int .i64)).length = i + 1 := by
    simp only [ints, List.length_map, List.length_append, List.length_cons]
    omega
  rw [e5, hl5] at ho5
  obtain ⟨g', cap', rfl, hb', _⟩ := ho5.form (by omega)
  have hw5 : Below wr.heap.size wr w5 := h0.1.trans (hb5.mono (by rw [h0.2]; exact Nat.le_refl _))
  refine ⟨g', cap', rfl, Lib.hid ?_, Lib.hid (by rwa [List.length_map, ints_len] at hl5), h2.trans (hw5.mono h2.size), Lib.hid ⟨(hw5.block g hgw).trans hgb, Nat.le_trans hsz hw5.size, by have := h0.2; omega⟩⟩
  unfold Grown
  rw [show (ints (T ++ x :: D)).length = i + 1 by rwa [List.length_map] at hl5]
  exact own_le ho5 (by have := h2.size; have := h0.2; omega)
set_option maxHeartbeats 4000000 in
theorem sPlaceReadings_any (l : List UInt8) (w : World) (hl : l.length ≤ 1048576) :
    Calls Tryd.prog 14 #[.string ⟨l.toArray⟩] w fun e w' => RowR w w' (rdsF l) (rds l).length (prsB l) e := by
  obtain ⟨i0, hi, hz0, hz1, hz2⟩ := info_parts info_int
  have C := Lib.hid (fun w1 => in_any (l.length : Int) 1 8 w1)
  by_cases hn : 1 ≤ (l.length : Int) ∧ (l.length : Int) ≤ 8
  · rw [show decide (1 ≤ (l.length : Int) ∧ (l.length : Int) ≤ 8) = true from decide_eq_true hn] at C
    obtain ⟨hn0, hn1⟩ := hn
    go_enter Tryd.func14, Tryd.ntmps14
    go_wp2_with fail
    refine (C.out _).mono ?_
    rintro e w1 ⟨rfl, rfl⟩
    go_wp2_with fail
    go_loop [5] (fun i => ∃ k : Nat, i = .int .i64 k ∧ k ≤ l.length ∧ Hid (∀ c ∈ l.take k, c = 60 ∨ c = 89)) (fun i => l.length - (intOf i).toNat)
    case atStart => exact ⟨0, rfl, by omega, Lib.hid (by simp)⟩
    case round =>
      obtain ⟨k, rfl, hk, Ha⟩ := hrel
      by_cases hlt : k < l.length
      · have hlt' : k < (⟨l.toArray⟩ : ByteArray).size := hlt
        have Hst : Hid (l[k] = 60 ∨ l[k] = 89 → ∀ c ∈ l.take (k + 1), c = 60 ∨ c = 89) := Lib.hid fun h c hc => by
          rw [List.take_succ_eq_append_getElem hlt] at hc
          rcases List.mem_append.1 hc with hc | hc
          · exact Ha.out c hc
          · rw [List.mem_singleton] at hc; rw [hc]; exact h
        by_cases h1 : l[k] = 60
        · have hq : ((((⟨l.toArray⟩ : ByteArray)[k]'hlt').toNat : Int)) = 60 := bytes_at l k hlt 60 h1 _
          have Hs := Lib.hid (Hst.out (.inl h1))
          clear h1
          go_wp2_with fail
          go_round
          case rel => exact ⟨k + 1, by go_num, by omega, Hs⟩
          case measure => simp [intOf]; omega
        · have q1 : ((((⟨l.toArray⟩ : ByteArray)[k]'hlt').toNat : Int) == 60) = false := byte_ne l[k] 60 (by omega) h1
          by_cases h2 : l[k] = 89
          · have hq : ((((⟨l.toArray⟩ : ByteArray)[k]'hlt').toNat : Int)) = 89 := bytes_at l k hlt 89 h2 _
            have Hs := Lib.hid (Hst.out (.inr h2))
            clear h1 h2 q1
            go_wp2_with fail
            go_round
            case rel => exact ⟨k + 1, by go_num, by omega, Hs⟩
            case measure => simp [intOf]; omega
          · have q2 : ((((⟨l.toArray⟩ : ByteArray)[k]'hlt').toNat : Int) == 89) = false := byte_ne l[k] 89 (by omega) h2
            have HB : Hid (prsB l = false) := Lib.hid (by
              unfold prsB
              rw [Bool.and_eq_false_iff]
              right
              rw [List.all_eq_false]
              exact ⟨l[k], List.getElem_mem _, by simp [h1, h2]⟩)
            have n1 : ¬ ((((⟨l.toArray⟩ : ByteArray)[k]'hlt').toNat : Int)) = 60 := by simpa using q1
            have n2 : ¬ ((((⟨l.toArray⟩ : ByteArray)[k]'hlt').toNat : Int)) = 89 := by simpa using q2
            have b1 : (((((⟨l.toArray⟩ : ByteArray)[k]'hlt').toNat : Int)) != 60) = true := by simpa using n1
            have b2 : (((((⟨l.toArray⟩ : ByteArray)[k]'hlt').toNat : Int)) != 89) = true := by simpa using n2
            clear h1 h2 q1 q2
            go_wp2_with fail
            go_ret2
            exact ⟨_, _, _, by rw [HB.out]; rfl, by rw [HB.out]; rfl, Rsp.none_ _ _ _ _ _, (Below.refl _ _).alloc (Nat.le_refl _) _⟩
      · obtain rfl : k = l.length := by omega
        have HB : Hid (prsB l = true) := Lib.hid (by
          unfold prsB
          rw [Bool.and_eq_true, decide_eq_true_eq, List.all_eq_true]
          refine ⟨⟨by omega, by omega⟩, fun c hc => ?_⟩
          have := Ha.out c (by rw [List.take_length]; exact hc)
          simpa using this)
        have hne : l ≠ [] := by intro e; rw [e] at hn0; simp at hn0
        have Hne := Lib.hid hne
        have Hg0 : Hid (Grown (w.heap.size + 1) ((w.alloc (.cells #[] 3)).alloc (.cells #[] 3)) (w.heap.size + 1) 0 []) := Lib.hid (by
          have := World.ownsRow_lit (w.alloc (.cells #[] 3)) (e := 3) (size := 1) #[] 0 (Nat.le_refl _) (by decide) rfl
          rw [World.size_alloc] at this
          exact this)
        have P0 := l4Parts_any 3 (by omega) l 0 (w.heap.size + 1) (w.heap.size + 1) 0 [] _ 0 rfl (by omega) (by decide) (by decide) (by simp) Hg0.out
        simp only [List.nil_append] at P0
        have P := Lib.hid P0; clear P0
        clear hne
        go_wp2_with fail
        refine P.out.mono ?_
        rintro e w1 ⟨g, cap, rfl, hg, hb⟩
        have Hg := Lib.hid hg; have Hb := Lib.hid hb; clear hg hb P Hg0
        obtain ⟨f1, f2, f3⟩ := own_form Hg.out
        have hN : (ints (prts 3 l 0)).length ≤ 216000 := by rw [ints_len]; exact prts_len 3 l 0
        have Hbel : Hid (Below w.heap.size w w1) := Lib.hid ((((Below.refl _ _).alloc (Nat.le_refl _) (.cells #[] 3)).alloc (by simp) (.cells #[] 3)).trans (Hb.out.mono (by omega)))
        have Hout : Hid (w1.heap[w.heap.size]? = some (.cells #[] 3 (0, 0))) := Lib.hid (by
          rw [Hb.out.block _ (by omega), Below.heap_alloc _ _ _ (by simp)]
          exact heap_alloc_new w _)
        have HN : Hid ((ints (prts 3 l 0)).length = (prts 3 l 0).length) := Lib.hid (ints_len _)
        have Hlist : Hid (∀ i, i < (prts 3 l 0).length → w1.cell? ⟨g, i, none⟩ = some (.int .i64 ((prts 3 l 0).getD i 0 : Nat))) := Lib.hid fun i hi' => by
          have := Hg.out.cells (g := g) rfl i (.int .i64 ((prts 3 l 0).getD i 0 : Nat)) (by simp [ints, List.getD_eq_getElem?_getD, List.getElem?_eq_getElem hi'])
          have e : (⟨g, 0, none⟩ : Addr).add i = ⟨g, i, none⟩ := by unfold Addr.add; split <;> simp_all
          rw [e] at this
          exact this
        generalize hM : (ints (prts 3 l 0)).length = M at *
        have HM := Lib.hid hM; clear hM Hb
        go_wp2_with fail
        go_loopw [4, 7] (fun v x wr => ∃ (i go capo : Nat) (os : List Nat), i ≤ M ∧ x = .int .i64 i ∧ v = .slice (some ⟨go, 0, none⟩) i capo ∧ Grown w.heap.size wr go capo (ints os) ∧ os.length = i ∧ Hid (Sorted l i os) ∧ Below w.heap.size w wr ∧ wr.heap[g]? = w1.heap[g]? ∧ w1.heap.size ≤ wr.heap.size ∧ go ≠ g) (fun _ x _ => M - (intOf x).toNat)
        case atStart => exact ⟨0, w.heap.size, 0, [], by omega, rfl, rfl, ⟨rfl, .inr ⟨w.heap.size, 0, #[], rfl, Nat.le_refl _, Hout.out, Nat.le_refl _, by decide, rfl, rfl⟩⟩, rfl, Lib.hid ⟨List.Pairwise.nil, by simp, rfl⟩, Hbel.out, rfl, Nat.le_refl _, by omega⟩
        case round =>
          obtain ⟨i, go, capo, os, hi', rfl, rfl, hown, hos, Hsrt, hbel, hgb, hsz, hgo⟩ := hrel
          have Hos := Lib.hid hos
          have Hown := Lib.hid hown; have Hbel2 := Lib.hid hbel; have Hgb := Lib.hid hgb; have Hsz := Lib.hid hsz; have Hgo := Lib.hid hgo
          clear hown hbel hgb hsz hgo
          by_cases hlt2 : i < M
          · have hcl : wr.cell? ⟨g, i, none⟩ = some (.int .i64 ((prts 3 l 0).getD i 0 : Nat)) := (World.cell?_of_block (a := ⟨g, i, none⟩) Hgb.out).trans (Hlist.out i (by have := HN.out; omega))
            generalize hxv : (prts 3 l 0).getD i 0 = x at *
            have Hxv := Lib.hid hxv; clear hxv
            obtain ⟨o1, o2, o3⟩ := own_form Hown.out
            have Hoc : Hid (∀ j, j < os.length → wr.cell? ⟨go, j, none⟩ = some (.int .i64 (os.getD j 0 : Nat))) := Lib.hid fun j hj => by
              have := Hown.out.cells (g := go) rfl j (.int .i64 (os.getD j 0 : Nat)) (by simp [ints, List.getD_eq_getElem?_getD, List.getElem?_eq_getElem hj])
              have e : (⟨go, 0, none⟩ : Addr).add j = ⟨go, j, none⟩ := by unfold Addr.add; split <;> simp_all
              rw [e] at this
              exact this
            have hol := ints_len os
            rw [hol] at o2
            go_wp2_with fail
            go_loopw [8] (fun kk wr2 => ∃ k q : Nat, kk = .int .i64 k ∧ k ≤ i ∧ wr2 = wr.drewN q ∧ Hid (k = os.length ∨ x < os.getD k 0)) (fun kk _ => (intOf kk).toNat)
            case atStart => exact ⟨i, 0, rfl, Nat.le_refl _, rfl, Lib.hid (.inl hos.symm)⟩
            case round =>
              obtain ⟨k, q, rfl, hk, rfl, Hk⟩ := hrel
              have hex : (∃ m, k = m + 1 ∧ x < os.getD m 0) ∨ ((k = 0 ∨ ∃ m, k = m + 1 ∧ ¬ x < os.getD m 0) ∧ (k = 0 ∨ os.getD (k - 1) 0 ≤ x)) := by
                rcases k with _ | m
                · exact .inr ⟨.inl rfl, .inl rfl⟩
                · by_cases hxm : x < os.getD m 0
                  · exact .inl ⟨m, rfl, hxm⟩
                  · exact .inr ⟨.inr ⟨m, rfl, hxm⟩, .inr (by simpa using hxm)⟩
              rcases hex with ⟨m, rfl, hxm⟩ | ⟨hex, hx2⟩
              · have hco := Hoc.out m (by omega)
                obtain ⟨y, hy⟩ : ∃ y, os.getD m 0 = y := ⟨_, rfl⟩
                rw [hy] at hco hxm
                have HX := Lib.hid hy
                clear hy Hk
                go_wp2_with fail
                go_quiet (fail)
                go_wp2_with fail
                go_roundw
                case rel => exact ⟨m, _, by go_num, by omega, rfl, Lib.hid (.inr (by rw [HX.out]; exact hxm))⟩
                case measure => simp [intOf]
              · have HX2 := Lib.hid hx2; clear hx2
                have hTl : (os.take k).length = k := by rw [List.length_take, Hos.out]; omega
                have hDl : (os.drop k).length = i - k := by rw [List.length_drop, Hos.out]
                have HT : Hid (NewsAt wr ⟨go, 0, none⟩ (os.take k)) := Lib.hid (newsAt_of o3 fun j hj => by
                  rw [hTl] at hj
                  rw [Nat.zero_add, Hoc.out j (by have := Hos.out; omega)]
                  simp [List.getD_eq_getElem?_getD, hj])
                have HD : Hid (NewsAt wr ⟨go, k, none⟩ (os.drop k)) := Lib.hid (newsAt_of o3 fun j hj => by
                  rw [hDl] at hj
                  rw [Hoc.out (k + j) (by have := Hos.out; omega)]
                  simp [List.getD_eq_getElem?_getD, List.getElem?_drop])
                have HD0 : Hid (capo = k → os.drop k = []) := Lib.hid fun e => List.length_eq_zero_iff.1 (by rw [hDl]; have := Hos.out; omega)
                have HSrt2 : Hid (Sorted l (i + 1) (os.take k ++ x :: os.drop k)) := Lib.hid (by
                  have hi2 : i < (prts 3 l 0).length := by have := HN.out; omega
                  have hxe : (prts 3 l 0)[i] = x := by have := Hxv.out; rwa [List.getD_eq_getElem?_getD, List.getElem?_eq_getElem hi2] at this
                  have := sorted_step l i hi2 os Hsrt.out k (by have := Hos.out; omega) (by rw [hxe]; exact HX2.out) (by rw [hxe]; exact Hk.out)
                  rwa [hxe] at this)
                have hgw : g < wr.heap.size := by have := Hsz.out; omega
                have hcase : (k = 0 ∧ Hid (NewsAt wr ⟨go, 0, none⟩ (os.drop k))) ∨ (∃ (m : Nat) (y : Nat), (k : Int) - 1 = m ∧ m < i ∧ 0 < k ∧ wr.cell? ⟨go, m, none⟩ = some (.int .i64 (y : Nat)) ∧ ¬ x < y ∧ capo = k ∧ Hid (NewsAt wr ⟨go, 0, none⟩ (os.drop k))) ∨
                    (∃ (m : Nat) (y : Nat), (k : Int) - 1 = m ∧ m < i ∧ 0 < k ∧ wr.cell? ⟨go, m, none⟩ = some (.int .i64 (y : Nat)) ∧ ¬ x < y ∧ ¬ capo = k ∧ Hid (NewsAt wr ⟨go, k, none⟩ (os.drop k))) := by
                  rcases hex with h | ⟨m, h, h2⟩
                  · exact .inl ⟨h, by rw [h] at HD ⊢; exact HD⟩
                  · have hm := Hoc.out m (by have := Hos.out; omega)
                    by_cases hc : capo = k
                    · exact .inr (.inl ⟨m, _, by omega, by omega, by omega, hm, h2, hc, by rw [HD0.out hc]; exact Lib.hid (newsAt_nil _ _)⟩)
                    · exact .inr (.inr ⟨m, _, by omega, by omega, by omega, hm, h2, hc, HD⟩)
                obtain ⟨T, hT⟩ : ∃ T, os.take k = T := ⟨_, rfl⟩
                obtain ⟨D, hD⟩ : ∃ D, os.drop k = D := ⟨_, rfl⟩
                rw [hT] at hTl HT HSrt2
                rw [hD] at hDl HSrt2 hcase
                have HTl := Lib.hid hTl; have HDl := Lib.hid hDl
                clear hTl hDl hT hD Hk HX2 hex HD HD0
                have hkc : k ≤ capo := by have := Hos.out; omega
                rcases hcase with ⟨rfl, HD⟩ | ⟨m, y, hk1, hmi, hk0, hco, hxy, rfl, HD⟩ | ⟨m, y, hk1, hmi, hk0, hco, hxy, hck, HD⟩
                all_goals
                  try have hkw : IntKind.i64.wrap ((k : Int) - 1) = m := by rw [hk1]; exact IntWalk.i64_in _ (by omega)
                  go_wp2_with fail
                  go_quiet (fail)
                  try clear hkw
                  try clear hk1
                  go_wp2_with fail
                  have Hw0 : Hid (Below wr.heap.size wr ((wr.drewN q).drewN nq) ∧ ((wr.drewN q).drewN nq).heap.size = wr.heap.size) := Lib.hid ⟨((Mid.refl 0 0 wr).drewN q |>.drewN nq).bel0, rfl⟩
                  generalize (wr.drewN q).drewN nq = w0 at *
                  have hgw0 : g < w0.heap.size := by have := Hw0.out.2; omega
                  have hcl0 : w0.cell? ⟨g, i, none⟩ = some (.int .i64 x) := (Hw0.out.1.cell (p := ⟨g, i, none⟩) hgw).trans hcl
                  have hcl1 : (w0.alloc (.cells #[] 3)).cell? ⟨g, i, none⟩ = some (.int .i64 x) := (((Below.refl _ w0).alloc (Nat.le_refl _) _).cell (p := ⟨g, i, none⟩) hgw0).trans hcl0
                  have HB1 : Hid (Below w0.heap.size w0 (w0.alloc (.cells #[] 3)).drew) := ((Below.refl _ w0).alloc (Nat.le_refl _) _).drew
                  have HE1 : Hid ((w0.alloc (.cells #[] 3)).drew.ownsRow w0.heap.size 3 1 (.slice (some ⟨w0.heap.size, 0, none⟩) 0 0) 0 []) := World.ownsRow_lit w0 #[] 0 (Nat.le_refl _) (by decide) rfl
                  have HB1b : Hid (Below w0.heap.size w0 ((w0.alloc (.cells #[] 3)).alloc (.cells #[.int .i64 x] 3)).drew) := (((Below.refl _ w0).alloc (Nat.le_refl _) _).alloc (by simp) _).drew
                  have HE1b : Hid (((w0.alloc (.cells #[] 3)).alloc (.cells #[.int .i64 x] 3)).drew.ownsRow w0.heap.size 3 1 (.slice (some ⟨w0.heap.size, 0, none⟩) 0 0) 0 []) := World.ownsRow.alloc (World.ownsRow_lit w0 #[] 0 (Nat.le_refl _) (by decide) rfl) _
                  have HL1b : Hid (((w0.alloc (.cells #[] 3)).alloc (.cells #[.int .i64 x] 3)).drew.heap[w0.heap.size + 1]? = some (.cells #[.int .i64 x] 3 (0, 0))) := alloc_at _ _ _ (by simp)
                  have HB1c : Hid (Below w0.heap.size w0 ((w0.alloc (.cells #[.int .i64 x] 3)).alloc (.cells #[] 3)).drew) := (((Below.refl _ w0).alloc (Nat.le_refl _) _).alloc (by simp) _).drew
                  have HE1c : Hid (((w0.alloc (.cells #[.int .i64 x] 3)).alloc (.cells #[] 3)).drew.ownsRow w0.heap.size 3 1 (.slice (some ⟨w0.heap.size + 1, 0, none⟩) 0 0) 0 []) := Lib.hid (by
                    have := World.ownsRow_lit (base := w0.heap.size) (e := 3) (size := 1) (w0.alloc (.cells #[.int .i64 x] 3)) #[] 0 (by simp) (by decide) rfl
                    rwa [World.size_alloc] at this)
                  have HL1c : Hid (((w0.alloc (.cells #[.int .i64 x] 3)).alloc (.cells #[] 3)).drew.heap[w0.heap.size]? = some (.cells #[.int .i64 x] 3 (0, 0))) := (Below.heap_alloc _ _ _ (by simp)).trans (heap_alloc_new w0 _)
                  have HTw : Hid (∀ W, Below w0.heap.size w0 W → ∀ (j : Nat) u, ((ints T).map (Value.int .i64))[j]? = some u → W.cell? ((⟨go, 0, none⟩ : Addr).add j) = some u) := Lib.hid fun W hW => HT.out W (Hw0.out.1.trans (hW.mono (by rw [Hw0.out.2]; exact Nat.le_refl _)))
                  have HDw := Lib.hid (fun W (hW : Below w0.heap.size w0 W) => HD.out W (Hw0.out.1.trans (hW.mono (by rw [Hw0.out.2]; exact Nat.le_refl _))))
                  go_region_law (first
                    | (refine step_append_own rfl (.tmp 69) (.tmp 72) 31 rfl w0.heap.size 3 i0 (.int .i64 0) 1 8 Tryd.underlying31 hi hz0 hz1 hz2 rfl (by decide) _ _ _ rfl HO4.out _ _ _ ((ints D).map (Value.int .i64)) rfl (by simp [ints_len, HDl.out]) (HDw.out _ HB4.out) (cells1 D) (by have := HTl.out; simp [ints_len]; unfold maxLen; omega) (by have := HTl.out; simp [ints_len]; omega) HB4.out.size ?_
                       intro v5 w5 hown5 hg5)
                    | (refine step_append_own rfl (.tmp 63) (.tmp 68) 31 rfl w0.heap.size 3 i0 (.int .i64 0) 1 8 Tryd.underlying31 hi hz0 hz1 hz2 rfl (by decide) _ _ _ rfl (HO3.out.alloc _) _ _ _ [.int .i64 x] rfl rfl (one_news (heap_alloc_new w3 _)) one_cell (by have := HTl.out; simp [ints_len]; unfold maxLen; omega) (by have := HTl.out; simp [ints_len]; omega) (HB3.out.alloc HB3.out.size _).size ?_
                       intro v2 w4 hown4 hg4
                       obtain ⟨hb4, ho4⟩ := own_app (ys := [.int .i64 x]) (HO3.out.alloc _) (HB3.out.alloc HB3.out.size _) hown4 hg4
                       have HB4 := Lib.hid hb4
                       have HO4 := Lib.hid ho4
                       clear hb4 ho4 hown4 hg4)
                    | (refine step_append_own rfl (.tmp 63) (.tmp 68) 31 rfl w0.heap.size 3 i0 (.int .i64 0) 1 8 Tryd.underlying31 hi hz0 hz1 hz2 rfl (by decide) _ _ _ rfl HO3.out _ _ _ [.int .i64 x] rfl rfl (one_news HL3.out) one_cell (by have := HTl.out; simp [ints_len]; unfold maxLen; omega) (by have := HTl.out; simp [ints_len]; omega) HB3.out.size ?_
                       intro v2 w4 hown4 hg4
                       obtain ⟨hb4, ho4⟩ := own_app (ys := [.int .i64 x]) HO3.out HB3.out hown4 hg4
                       have HB4 := Lib.hid hb4
                       have HO4 := Lib.hid ho4
                       clear hb4 ho4 hown4 hg4)
                    | (refine step_append_own rfl (.tmp 59) (.tmp 62) 31 rfl w0.heap.size 3 i0 (.int .i64 0) 1 8 Tryd.underlying31 hi hz0 hz1 hz2 rfl (by decide) _ 0 _ rfl HE1.out _ _ _ ((ints T).map (Value.int .i64)) rfl (by simp [ints_len, HTl.out]) (HTw.out _ HB1.out) (cells1 T) (by unfold maxLen; omega) (by omega) HB1.out.size ?_
                       intro v1 w3 hown3 hg3
                       have HB3 : Hid (Below w0.heap.size w0 w3) := HB1.out.grown hg3 HB1.out.size (fun b hb => (HE1.out.lt b hb).1)
                       have HO3 := Lib.hid (own_len hown3)
                       have hcl3 : w3.cell? ⟨g, i, none⟩ = some (.int .i64 x) := (HB3.out.cell (p := ⟨g, i, none⟩) hgw0).trans hcl0
                       clear hown3 hg3)
                    | (refine step_append_own rfl (.tmp 59) (.tmp 62) 31 rfl w0.heap.size 3 i0 (.int .i64 0) 1 8 Tryd.underlying31 hi hz0 hz1 hz2 rfl (by decide) _ 0 _ rfl HE1b.out _ _ _ ((ints T).map (Value.int .i64)) rfl (by simp [ints_len, HTl.out]) (HTw.out _ HB1b.out) (cells1 T) (by unfold maxLen; omega) (by omega) HB1b.out.size ?_
                       intro v1 w3 hown3 hg3
                       have HB3 : Hid (Below w0.heap.size w0 w3) := HB1b.out.grown hg3 HB1b.out.size (fun b hb => (HE1b.out.lt b hb).1)
                       have HO3 := Lib.hid (own_len hown3)
                       have HL3 : Hid (w3.heap[w0.heap.size + 1]? = some (.cells #[.int .i64 x] 3 (0, 0))) := (hg3.block _ (lt_of_block' HL1b.out) (fun e => by have e2 : w0.heap.size + 1 = w0.heap.size := Option.some.inj e; omega)).trans HL1b.out
                       clear hown3 hg3)
                    | (refine step_append_own rfl (.tmp 59) (.tmp 62) 31 rfl w0.heap.size 3 i0 (.int .i64 0) 1 8 Tryd.underlying31 hi hz0 hz1 hz2 rfl (by decide) _ 0 _ rfl HE1c.out _ _ _ ((ints T).map (Value.int .i64)) rfl (by simp [ints_len, HTl.out]) (HTw.out _ HB1c.out) (cells1 T) (by unfold maxLen; omega) (by omega) HB1c.out.size ?_
                       intro v1 w3 hown3 hg3
                       have HB3 : Hid (Below w0.heap.size w0 w3) := HB1c.out.grown hg3 HB1c.out.size (fun b hb => (HE1c.out.lt b hb).1)
                       have HO3 := Lib.hid (own_len hown3)
                       have HL3 : Hid (w3.heap[w0.heap.size]? = some (.cells #[.int .i64 x] 3 (0, 0))) := (hg3.block _ (lt_of_block' HL1c.out) (fun e => by have e2 : w0.heap.size = w0.heap.size + 1 := Option.some.inj e; omega)).trans HL1c.out
                       clear hown3 hg3))
                  all_goals
                    obtain ⟨g', cap', rfl, HG5, HL5, HF5, HX5⟩ := ins_end (w := w) (w1 := w1) (i := i) (g := g) Hbel2.out Hw0.out HTl.out HDl.out (by omega) HO4.out HB4.out hown5 hg5 hgw Hgb.out Hsz.out
                    clear hown5 hg5
                    go_wp2_with fail
                    go_roundw
                    case rel => exact ⟨i + 1, g', cap', T ++ x :: D, by omega, by go_num, rfl, HG5.out, HL5.out, HSrt2, HF5.out, HX5.out.1, HX5.out.2.1, HX5.out.2.2⟩
                    case measure => simp [intOf]; omega
          · obtain rfl : i = M := by omega
            have hos2 : os = rds l := by
              have := Hsrt.out
              rw [HN.out] at this
              exact sorted_end l Hne.out os this
            have HF : Hid (Rsp wr w.heap.size wr.heap.size (some ⟨go, 0, none⟩) i (rdsF l) ∧ i = (rds l).length) := Lib.hid (by
              have hl2 : i = (rds l).length := by rw [← hos2]; exact Hos.out.symm
              refine ⟨?_, hl2⟩
              have h := grown_rsp Hown.out
              rw [ints_len, Hos.out, hos2] at h
              exact h)
            clear hos2
            go_wp2_with fail
            go_ret2
            exact ⟨_, _, _, by rw [HB.out]; rfl, by rw [HB.out, if_pos rfl]; exact HF.out.2, HF.out.1, Hbel2.out⟩
  · have HB : Hid (prsB l = false) := Lib.hid (by unfold prsB; rw [decide_eq_false (by omega)]; rfl)
    rw [show decide (1 ≤ (l.length : Int) ∧ (l.length : Int) ≤ 8) = false from decide_eq_false hn] at C
    clear hn
    go_enter Tryd.func14, Tryd.ntmps14
    go_wp2_with fail
    refine (C.out _).mono ?_
    rintro e w1 ⟨rfl, rfl⟩
    go_wp2_with fail
    go_ret2
    exact ⟨_, _, _, by rw [HB.out]; rfl, by rw [HB.out]; rfl, Rsp.none_ _ _ _ _ _, (Below.refl _ _).alloc (Nat.le_refl _) _⟩
end Go.Proofs.YtejhiilkbckobaaDoor
