/- The program's chapter 4: its places. -/
import Derived.Test.YtejhiilkbckobaaDoorSh
import Derived.Test.YtejhiilkbckobaaDoorCU
import Derived.Test.YtejhiilkbckobaaDoorCP
import Derived.Laws.CopyOwn
namespace Go.Proofs.YtejhiilkbckobaaDoor
open Go.RowKit
set_option linter.unusedVariables false
set_option maxRecDepth 100000
theorem here4 (o : Oper) {P : Program} {w : World} {ops : Array Oper} {rest : List Oper} {a : Act} {Q : Exit → Act → World → Prop} (h : wpList P ops Q (o :: rest) a w) : wpList P ops Q (o :: rest) a w := h
def rep60 (k : Nat) : List Value := [.int .i64 60, .int .i64 (if 2 ≤ k then 60 else 0), .int .i64 (if 4 ≤ k then 60 else 0), .int .i64 (if 4 ≤ k then 60 else 0)]
theorem sz_int4 : (Tryd.prog.info? 3).map (·.size) = some 1 := by kernel_rfl
theorem cells_rep {w : World} (b k : Nat) (m : Nat) (h : w.heap[b]? = some (.cells (rep60 k).toArray 3 (0, 0))) (hm : m ≤ k) (h4 : m ≤ 2) :
    ∀ (j : Nat) v, (List.replicate m (Value.int .i64 60))[j]? = some v → w.cell? ((⟨b, 0, none⟩ : Addr).add j) = some v := by
  intro j v hv
  have hj : j < m := by
    rcases Nat.lt_or_ge j m with h | h
    · exact h
    · rw [List.getElem?_eq_none (by simpa using h)] at hv; cases hv
  have e : (⟨b, 0, none⟩ : Addr).add j = ⟨b, j, none⟩ := by unfold Addr.add; split <;> simp_all
  rw [e]
  refine cell_at h ?_
  rw [List.getElem?_toArray, ← hv]
  rcases (show j = 0 ∨ j = 1 by omega) with rfl | rfl
  · rw [List.getElem?_replicate, if_pos (by omega)]; rfl
  · rw [List.getElem?_replicate, if_pos (by omega)]; simp [rep60]; omega
theorem rep60_any (w : World) (b : Nat) (h : w.heap[b]? = some (.cells #[.int .i64 60] 3 (0, 0))) :
    Calls Tryd.prog 36 #[.slice (some ⟨b, 0, none⟩) 1 1, .int .i64 4] w fun e w' => e = .returned (.slice (some ⟨w.heap.size, 0, none⟩) 4 4) ∧ Own w' w.heap.size 4 (fun _ => 60) ∧ Below w.heap.size w w' := by
  have hmk : Sem.run Tryd.prog (Instr.makeSlice 39 (.int .i64 4) (.int .i64 4)) w = .ok (.slice (some ⟨w.heap.size, 0, none⟩) 4 4) (w.alloc (.cells #[.int .i64 0, .int .i64 0, .int .i64 0, .int .i64 0] 3)) := by kernel_rfl
  have M := Lib.hid (Tryd.bits_Mul 1 4 (by omega) (by omega) w)
  have hb0 := lt_of_block' h
  have H1 : Hid ((w.alloc (.cells #[.int .i64 0, .int .i64 0, .int .i64 0, .int .i64 0] 3)).heap[b]? = some (.cells #[.int .i64 60] 3 (0, 0))) := (Below.heap_alloc _ _ _ hb0).trans h
  have H2 := Lib.hid (heap_alloc_new w (.cells #[.int .i64 0, .int .i64 0, .int .i64 0, .int .i64 0] 3))
  have HB := Lib.hid ((Below.refl _ w).alloc (Nat.le_refl _) (.cells #[.int .i64 0, .int .i64 0, .int .i64 0, .int .i64 0] 3))
  go_enter Tryd.func36, Tryd.ntmps36
  go_wp2_with fail
  refine M.out.mono ?_
  rintro e w1 ⟨rfl, rfl⟩
  go_wp2_with (with_reducible refine here4 ⟨some 33, _, _, _, _, _⟩ ?_
               refine wpList_copy_splice rfl (.tmp 31) (.tmp 32) 39 39 rfl 3 Tryd.underlying39 sz_int4 (some ⟨w1.heap.size, 0, none⟩) (some ⟨b, 0, none⟩) 4 4 1 1 rfl rfl w1.heap.size 0 [.int .i64 0, .int .i64 0, .int .i64 0, .int .i64 0] 3 H2.out [.int .i64 60] rfl (fun _ => ⟨rfl, _, rfl, ?_⟩) (by decide) (by simp [Value.oneCell']) w1.heap.size w1 HB.out (Nat.le_refl _) ?_)
  · intro j v hv
    have e : (⟨b, 0, none⟩ : Addr).add j = ⟨b, j, none⟩ := by unfold Addr.add; split <;> simp_all
    rw [e]
    refine cell_at H1.out ?_
    rw [← hv]
    rcases j with _ | j <;> rfl
  · intro w2 hg2 hb2
    have HB2 := Lib.hid hb2; clear hb2
    go_wp2_with fail
    go_loopw [8] (fun x wr => ∃ k : Nat, (k = 1 ∨ k = 2 ∨ k = 4) ∧ x = .int .i64 k ∧ wr.heap[w1.heap.size]? = some (.cells (rep60 k).toArray 3 (0, 0)) ∧ Below w1.heap.size w1 wr) (fun x _ => 4 - (intOf x).toNat)
    case atStart => exact ⟨1, .inl rfl, rfl, hg2.out, HB2.out⟩
    case round =>
      clear hmk H1 H2 HB hg2 HB2
      obtain ⟨k, hk, rfl, hg, hb⟩ := hrel
      have Hg := Lib.hid hg; have Hb := Lib.hid hb; clear hg hb
      rcases hk with rfl | rfl | rfl
      · have Hc : Hid (∀ (j : Nat) v, ([.int .i64 60] : List Value)[j]? = some v → wr.drew.cell? ((⟨w1.heap.size, 0, none⟩ : Addr).add j) = some v) := cells_rep (w := wr.drew) w1.heap.size 1 1 Hg.out (by omega) (by omega)
        go_wp2_with fail
        go_region_law (refine step_copy_splice rfl (.tmp 41) (.tmp 44) 39 39 rfl 3 Tryd.underlying39 sz_int4 (some ⟨w1.heap.size, 1, none⟩) (some ⟨w1.heap.size, 0, none⟩) 3 3 1 4 (by simp [Act.eval, Act.put]) (by simp [Act.eval, Act.put]) w1.heap.size 1 (rep60 1) 3 Hg.out [.int .i64 60] rfl (fun _ => ⟨rfl, _, rfl, Hc.out⟩) (by decide) (by simp [Value.oneCell']) w1.heap.size w1 (Hb.out.trans ⟨rfl, rfl, rfl, Nat.le_refl _, fun _ _ => rfl⟩) (Nat.le_refl _) ?_; intro w3 hg3 hb3)
        all_goals
          have HB3 := Lib.hid hb3; clear hb3
          go_simp
          go_wp2_with fail
          go_roundw
          case rel => exact ⟨2, .inr (.inl rfl), by go_num, hg3.out, HB3.out⟩
          case measure => simp [intOf, show IntKind.i64.wrap 2 = 2 by decide]
      · have Hc : Hid (∀ (j : Nat) v, ([.int .i64 60, .int .i64 60] : List Value)[j]? = some v → wr.drew.cell? ((⟨w1.heap.size, 0, none⟩ : Addr).add j) = some v) := cells_rep (w := wr.drew) w1.heap.size 2 2 Hg.out (by omega) (by omega)
        go_wp2_with fail
        go_region_law (refine step_copy_splice rfl (.tmp 41) (.tmp 44) 39 39 rfl 3 Tryd.underlying39 sz_int4 (some ⟨w1.heap.size, 2, none⟩) (some ⟨w1.heap.size, 0, none⟩) 2 2 2 4 (by simp [Act.eval, Act.put]) (by simp [Act.eval, Act.put]) w1.heap.size 2 (rep60 2) 3 Hg.out [.int .i64 60, .int .i64 60] rfl (fun _ => ⟨rfl, _, rfl, Hc.out⟩) (by decide) (by simp [Value.oneCell']) w1.heap.size w1 (Hb.out.trans ⟨rfl, rfl, rfl, Nat.le_refl _, fun _ _ => rfl⟩) (Nat.le_refl _) ?_; intro w3 hg3 hb3)
        all_goals
          have HB3 := Lib.hid hb3; clear hb3
          go_simp
          go_wp2_with fail
          go_roundw
          case rel => exact ⟨4, .inr (.inr rfl), by go_num, hg3.out, HB3.out⟩
          case measure => simp [intOf, show IntKind.i64.wrap 4 = 4 by decide]
      · go_wp2_with fail
        go_ret
        exact ⟨rfl, Hg.out, Hb.out⟩
theorem clayPlaces_any (w : World) : Calls Tryd.prog 23 #[] w fun e w' => ∃ b, e = .returned (.slice (some ⟨b, 0, none⟩) 4 4) ∧ w.heap.size ≤ b ∧ b < w'.heap.size ∧ Own w' b 4 (fun _ => 60) ∧ Below w.heap.size w w' := by
  have R := Lib.hid (rep60_any (w.alloc (.cells #[.int .i64 60] 3)) w.heap.size (heap_alloc_new w _))
  go_enter Tryd.func23, Tryd.ntmps23
  go_wp2_with fail
  refine R.out.mono ?_
  rintro e w1 ⟨rfl, ho, hb⟩
  have HO := Lib.hid ho; have HB := Lib.hid hb; clear ho hb
  go_wp2_with fail
  go_ret
  have ho2 := HO.out
  rw [show (w.alloc (.cells #[.int .i64 60] 3)).heap.size = w.heap.size + 1 by simp] at ho2
  refine ⟨_, rfl, by simp, ho2.lt, ho2, ((Below.refl _ w).alloc (Nat.le_refl _) _).trans (HB.out.mono (by simp))⟩
def dayp (k : Nat) : Int := if k = 3 then 18 else 20
theorem lft_ge (p : Nat → Int) (n : Nat) (N : Int) (h : ∀ k, k < n → 2 ≤ p k) (h1 : prd p n ≤ N) : ∀ j, j ≤ n → prd p (n - j) ≤ lft p n N j := by
  intro j
  induction j with
  | zero => intro _; exact h1
  | succ j ih =>
    intro hj
    have a := ih (by omega)
    have hp := h (n - 1 - j) (by omega)
    rw [show n - j = (n - 1 - j) + 1 by omega] at a
    rw [show n - (j + 1) = n - 1 - j by omega]
    simp only [prd, lft] at a ⊢
    exact Int.le_ediv_of_mul_le (by omega) a
/-- has a number as many digits? -/
def dgB (p : Nat → Int) (n : Nat) (N : Int) : Bool := decide (0 ≤ N ∧ N < prd p n)
theorem lft_iff (p : Nat → Int) (n : Nat) (N : Int) (h : ∀ k, k < n → 2 ≤ p k) (h0 : 0 ≤ N) : N < prd p n ↔ ¬ 0 < lft p n N n := by
  constructor
  · intro h1; rw [lft_zero p n N h h0 h1]; omega
  · intro h1
    rcases Int.lt_or_le N (prd p n) with h2 | h2
    · exact h2
    · have := lft_ge p n N h h2 n (Nat.le_refl _)
      rw [Nat.sub_self] at this
      simp only [prd] at this
      omega
set_option maxHeartbeats 1000000 in
theorem digitsOf_any (a : Option Addr) (n c : Nat) (f : Nat → Int) (N : Int) (w : World) (h : Ls w a n f) (hn : n ≤ 10000000) (hp : ∀ k, k < n → 2 ≤ f k ∧ f k ≤ 100) (hN : N ≤ 9223372036854775807) :
    Calls Tryd.prog 24 #[.slice a n c, .int .i64 N] w fun e w' => RowR w w' (pdg f n N) n (dgB f n N) e := by
  obtain ⟨i0, hi, hz0, hz1, hz2⟩ := info_parts info_int
  have H := Lib.hid h; clear h
  by_cases hneg : N < 0
  · have HB : Hid (dgB f n N = false) := Lib.hid (decide_eq_false (by omega))
    go_enter Tryd.func24, Tryd.ntmps24
    go_wp2_with fail
    go_ret2
    exact ⟨_, _, _, by rw [HB.out]; rfl, by rw [HB.out]; rfl, Rsp.none_ _ _ _ _ _, Below.refl _ _⟩
  · have h0 : 0 ≤ N := by omega
    have P4 := Lib.hid hp
    have L := Lib.hid (lft_le f n N (fun k hk => (hp k hk).1) h0)
    have I := Lib.hid (lft_iff f n N (fun k hk => (hp k hk).1) h0)
    clear hp
    go_enter Tryd.func24, Tryd.ntmps24
    go_wp2_with (at_make; refine wpList_make_ints _ rfl _ _ 31 rfl i0 Tryd.underlying31 hi hz0 hz1 hz2 n (by omega) rfl rfl ?_; intro w1 hown hb hsz)
    have Hown := Lib.hid hown; have Hb := Lib.hid hb; have Hsz := Lib.hid hsz
    clear hown hb hsz
    go_loopw [1, 7] (fun x i wr => ∃ k : Nat, DownIx k i ∧ k ≤ n ∧ x = .int .i64 (lft f n N (n - k)) ∧ Own wr w.heap.size n (fun j => if k ≤ j then pdg f n N j else 0) ∧ Below w.heap.size w wr ∧ wr.heap.size = w.heap.size + 1) (fun _ i _ => (intOf i + 1).toNat)
    case atStart => exact ⟨n, downIx_mk n, by omega, by rw [Nat.sub_self]; rfl, Hown.out.congr fun j hj => by rw [if_neg (by omega)], Hb.out, Hsz.out⟩
    case round =>
      obtain ⟨k, hik, hk, rfl, hown, hbel, hsz⟩ := hrel
      have Ho := Lib.hid hown; have Hbe := Lib.hid hbel; have Hsz := Lib.hid hsz
      clear hsz
      rcases hik with ⟨rfl, rfl⟩ | ⟨k, rfl, rfl⟩
      · clear hown hbel
        rw [Nat.sub_zero]
        by_cases hgt : 0 < lft f n N n
        · have HB : Hid (dgB f n N = false) := Lib.hid (decide_eq_false fun h => by have := I.out.1 h.2; omega)
          generalize lft f n N n = r at *
          go_wp2_with fail
          go_ret2
          exact ⟨_, _, _, by rw [HB.out]; rfl, by rw [HB.out]; rfl, Rsp.none_ _ _ _ _ _, Hbe.out⟩
        · have HB : Hid (dgB f n N = true) := Lib.hid (decide_eq_true ⟨h0, I.out.2 (by omega)⟩)
          generalize lft f n N n = r at *
          go_wp2_with fail
          go_ret2
          refine ⟨_, n, n, by rw [HB.out]; rfl, by rw [HB.out, if_pos rfl], ?_, Hbe.out⟩
          exact Rsp.mono (Res.rsp (Ho.out.congr fun j hj => by simp).res) (Nat.le_refl _) (by rw [Hsz.out]; exact Nat.le_refl _)
      · obtain ⟨b, off, rfl, hb, hc⟩ := H.out k (by omega)
        have hc1 : wr.cell? ⟨b, off + k, none⟩ = some (.int .i64 (f k)) := (hbel.cell (p := ⟨b, off + k, none⟩) hb).trans hc
        obtain ⟨v0, hv0⟩ : ∃ v0, wr.cell? ⟨w.heap.size, k, none⟩ = some v0 := ⟨_, hown.cell k (by omega)⟩
        have hfr := hown.frozen k
        have hfp := P4.out k (by omega)
        obtain ⟨hr0, hr1⟩ := L.out (n - (k + 1)) (by omega)
        have hr2 := Int.le_trans hr1 hN
        have Hst : Hid (lft f n N (n - k) = lft f n N (n - (k + 1)) / f k) := Lib.hid (by rw [show n - k = (n - (k + 1)) + 1 by omega]; simp only [lft]; rw [show n - 1 - (n - (k + 1)) = k by omega])
        have Hpl : Hid (pdg f n N k = lft f n N (n - (k + 1)) % f k) := Lib.hid (by unfold pdg; rw [show n - 1 - k = n - (k + 1) by omega])
        have HO : Hid (Own (wr.setCell ⟨w.heap.size, k, none⟩ (.int .i64 (lft f n N (n - (k + 1)) % f k))) w.heap.size n (fun j => if k ≤ j then pdg f n N j else 0)) := by
          rw [← Hpl.out]; exact Ho.out.from
        have HB2 : Hid (Below w.heap.size w (wr.setCell ⟨w.heap.size, k, none⟩ (.int .i64 (lft f n N (n - (k + 1)) % f k)))) := Hbe.out.setCell (Nat.le_refl _) _
        have hc2 : (wr.setCell ⟨w.heap.size, k, none⟩ (.int .i64 (lft f n N (n - (k + 1)) % f k))).cell? ⟨b, off + k, none⟩ = some (.int .i64 (f k)) := (HB2.out.cell (p := ⟨b, off + k, none⟩) hb).trans hc
        clear hown hbel hc hr1
        generalize lft f n N (n - (k + 1)) = r at *
        generalize f k = v at *
        go_wp2_with fail
        go_roundw
        case rel => exact ⟨k, downIx_mk k, by omega, by rw [Hst.out], HO.out, HB2.out, by simp [World.setCell]; exact Hsz.out⟩
        case measure => simp [intOf]
end Go.Proofs.YtejhiilkbckobaaDoor
