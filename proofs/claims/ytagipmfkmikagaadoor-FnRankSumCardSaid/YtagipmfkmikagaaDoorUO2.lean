/- The machine that reads ranked texts, as it lies in the program's memory: letEnd, behindDigit. -/
import Derived.Test.YtagipmfkmikagaaDoorUO
import Derived.Test.YtagipmfkmikagaaDoorUN2
namespace Go.Proofs.YtagipmfkmikagaaDoor
open Go.RowKit
set_option linter.unusedVariables false
set_option maxRecDepth 100000
/-- the cells of a part's states -/
def prV (u pl : Nat) (bp : Nat → Nat) (r j : Nat) : Value := if j = 5 then (if u = 1 then ptr pl else .pointer none) else if 1 ≤ j ∧ j < r then ptr (bp j) else .pointer none
structure Prt (w : World) (X : Nat → Prop) (pb u pl : Nat) (bp : Nat → Nat) (r : Nat) : Prop where
  row : VRow 54 w pb 6 (prV u pl bp r)
  left : u = 1 → Rst w X pl (0, 0, 4, 0)
  st : ∀ j, 1 ≤ j → j < r → Rst w X (bp j) (0, u, j, 0)
theorem Prt.bel {w w' : World} {X : Nat → Prop} {pb u pl : Nat} {bp : Nat → Nat} {r : Nat} (h : Prt w X pb u pl bp r) (g : Below w.heap.size w w') : Prt w' X pb u pl bp r :=
  ⟨h.row.below g, fun hu => (h.left hu).bel g, fun j h1 h2 => (h.st j h1 h2).bel g⟩
theorem Prt.less {w : World} {X X' : Nat → Prop} {pb u pl : Nat} {bp : Nat → Nat} {r : Nat} (h : Prt w X pb u pl bp r) (hX : ∀ k, k < w.heap.size → X' k → X k) : Prt w X' pb u pl bp r :=
  ⟨h.row, fun hu => (h.left hu).less hX, fun j h1 h2 => (h.st j h1 h2).less hX⟩
theorem Prt.lnk {B : Nat} {w w' : World} {X Y : Nat → Prop} {pb u pl b : Nat} {bp : Nat → Nat} {r : Nat} {v v' : Value} {e : Bool} {ts : List (Lk × Nat)} (h : Prt w (Av b v X) pb u pl bp r) (o : Opn B w Y b v e ts) (l : Lnk b v v' w w') : Prt w' (Av b v' X) pb u pl bp r := by
  refine ⟨h.row.keep (l.block pb h.row.lt (fun e => ?_) (own_ne o.row h.row (by decide))), fun hu => (h.left hu).lnk l, fun j h1 h2 => (h.st j h1 h2).lnk l⟩
  subst e
  have h1 := o.blk
  have h2 := h.row
  unfold VRow at h2
  rw [h1] at h2
  injection h2 with h2
  injection h2 with _ h2
  exact absurd h2 (by decide)
/-- the link to what is left -/
def wlT (u pl : Nat) : List (Lk × Nat) := if u = 1 then [(([119], (0, 0, 4, 0)), pl)] else []
theorem wlT_fst (u pl : Nat) : (wlT u pl).map Prod.fst = wl u := by unfold wlT wl; split <;> rfl
set_option maxHeartbeats 1000000 in
theorem letEnd_any (B b pb u pl r : Nat) (bp : Nat → Nat) (v : Value) (e : Bool) (ts : List (Lk × Nat)) (X : Nat → Prop) (w : World) (h : Opn B w X b v e ts) (hp : Prt w (Av b v X) pb u pl bp r) (hl : ts.length ≤ 7) (hB : B ≤ w.heap.size) (hX : ∀ k, X k → k < w.heap.size) :
    Calls Tryd.prog 61 #[.pointer (some ⟨pb, 0, none⟩), .pointer (some ⟨b, 0, none⟩)] w fun e' w' => e' = .returned (.tuple #[]) ∧ ∃ v', Opn B w' X b v' true (ts ++ wlT u pl) ∧ Lnk b v v' w w' := by
  obtain ⟨hm1, hm2⟩ := h.mark true
  have hp1 := hp.lnk h hm2
  have hc := cell_at (j := 1) h.blk rfl
  have hf : w.frozen? ⟨b, 1, none⟩ = false := by simp [World.frozen?, h.blk]
  have hq := hp1.row.cell 5 (by decide)
  have hB1 : B ≤ (w.setCell ⟨b, 1, none⟩ (.bool true)).heap.size := Nat.le_trans hB hm2.size
  have hX1 : ∀ k, X k → k < (w.setCell ⟨b, 1, none⟩ (.bool true)).heap.size := fun k hk => Nat.lt_of_lt_of_le (hX k hk) hm2.size
  have HM := Lib.hid hm1; have HL := Lib.hid hm2; have HB := Lib.hid hB1; have HX := Lib.hid hX1
  have HLE := Lib.hid (fun hu => hp1.left hu)
  have S4 := Lib.hid rsign4
  clear hm1 hm2 hp hp1 hB1 hX1 hX h hB
  by_cases hu : u = 1
  · rw [show prV u pl bp r 5 = .pointer (some ⟨pl, 0, none⟩) by unfold prV; rw [if_pos rfl, if_pos hu]; rfl] at hq
    rw [show wlT u pl = [(([119], (0, 0, 4, 0)), pl)] by unfold wlT; rw [if_pos hu]]
    have HE := Lib.hid (HLE.out hu)
    clear HLE hu
    go_enter Tryd.func61, Tryd.ntmps61
    go_wp2_with fail
    refine wp_region_still_tail 6 (by kernel_rfl) (by kernel_rfl) ?_
    simp only [List.take_succ_cons, List.take_zero, List.drop_succ_cons, List.drop_zero]
    change wpStill _ _ (World.drew _) _ _ _
    repeat still_step
    still_call ((S4.out _).mono fun _ _ q => ⟨q.1, q.2.symm⟩)
    repeat still_step
    refine wpStill_nil ?_
    change wpList _ _ _ _ _ (World.drew _)
    go_wp2_with fail
    have g0 := (Below.refl (w.setCell ⟨b, 1, none⟩ (.bool true)).heap.size (w.setCell ⟨b, 1, none⟩ (.bool true))).drew
    refine (link_any B b pl v true ts X ([119], (0, 0, 4, 0)) _ (HM.out.below g0) (HE.out.bel g0) (by omega) HB.out HX.out).mono ?_
    rintro e' w2 ⟨rfl, v', ho', hl'⟩
    have HO' := Lib.hid ho'; have HL' := Lib.hid (HL.out.trans ((Lnk.drew _ _ _).trans hl')); clear ho' hl' g0
    go_wp2_with fail
    go_end0
    exact ⟨rfl, v', HO'.out, HL'.out⟩
  · rw [show prV u pl bp r 5 = .pointer none by unfold prV; rw [if_pos rfl, if_neg hu]] at hq
    rw [show wlT u pl = [] by unfold wlT; rw [if_neg hu], List.append_nil]
    clear HLE hu
    go_enter Tryd.func61, Tryd.ntmps61
    go_wp2_with fail
    go_end0
    exact ⟨rfl, v, HM.out, HL.out⟩
theorem Rst.fresh {w w' : World} {X : Nat → Prop} {b c : Nat} {v : Value} {q : Q} (h : Rst w X c q) (g : Below w.heap.size w w') (hb : w.heap.size ≤ b) (hv : ∀ k, v.ownBlock = some k → w.heap.size ≤ k) : Rst w' (Av b v X) c q :=
  h.keep (fun k hk _ => g.block k hk) (fun k hk hX => hX.elim (fun e => by omega) (fun h => h.elim (fun h => by have := hv k h; omega) id))
theorem Prt.fresh {w w' : World} {X : Nat → Prop} {b pb u pl : Nat} {bp : Nat → Nat} {r : Nat} {v : Value} (h : Prt w X pb u pl bp r) (g : Below w.heap.size w w') (hb : w.heap.size ≤ b) (hv : ∀ k, v.ownBlock = some k → w.heap.size ≤ k) : Prt w' (Av b v X) pb u pl bp r :=
  ⟨h.row.below g, fun hu => (h.left hu).fresh g hb hv, fun j h1 h2 => (h.st j h1 h2).fresh g hb hv⟩
/-- the links behind a digit of a rank from a on, k ranks -/
def dlkT (u pl : Nat) (bp : Nat → Nat) (r : Nat) : List (Lk × Nat) := if r = 0 then wlT u pl else [((sgn r, (0, u, r, 0)), bp r)]
def dlT (u pl : Nat) (bp : Nat → Nat) (a : Nat) : Nat → List (Lk × Nat)
  | 0 => []
  | k + 1 => dlT u pl bp a k ++ dlkT u pl bp (a + k)
theorem dlT_fst (u pl : Nat) (bp : Nat → Nat) (a : Nat) : ∀ n, (dlT u pl bp a n).map Prod.fst = rdl u a n
  | 0 => rfl
  | n + 1 => by
    have e : rdl u a (n + 1) = rdl u a n ++ dlk u (a + n) := by
      unfold rdl
      rw [List.range_succ, List.flatMap_append]
      simp
    rw [e, ← dlT_fst u pl bp a n]
    show (dlT u pl bp a n ++ dlkT u pl bp (a + n)).map _ = _
    rw [List.map_append]
    congr 1
    unfold dlkT dlk
    split
    · exact wlT_fst u pl
    · rfl
theorem dlT_len (u pl : Nat) (bp : Nat → Nat) (a : Nat) : ∀ n, (dlT u pl bp a n).length ≤ n
  | 0 => Nat.le_refl _
  | n + 1 => by
    have := dlT_len u pl bp a n
    show (dlT u pl bp a n ++ dlkT u pl bp (a + n)).length ≤ _
    rw [List.length_append]
    have : (dlkT u pl bp (a + n)).length ≤ 1 := by
      unfold dlkT
      split
      · unfold wlT; split <;> simp
      · simp
    omega
theorem prV_ptr {u pl r j : Nat} {bp : Nat → Nat} (h1 : 1 ≤ j) (h2 : j < r) (h3 : j ≤ 4) : prV u pl bp r j = .pointer (some ⟨bp j, 0, none⟩) := by
  unfold prV; rw [if_neg (by omega), if_pos ⟨h1, h2⟩]; rfl
theorem below_alloc (w : World) (o : Obj) : Below w.heap.size w (w.alloc o) := (Below.refl _ _).alloc (Nat.le_refl _) o
set_option maxHeartbeats 1000000 in
theorem behindDigit_any (pb u pl r a b : Nat) (bp : Nat → Nat) (X : Nat → Prop) (w : World) (hp : Prt w X pb u pl bp r) (hab : a ≤ b) (hb : b ≤ 3) (hbr : b < r) (hX : ∀ k, X k → k < w.heap.size) (ai bi : Int) (hai : ai = a) (hbi : bi = b) :
    Calls Tryd.prog 53 #[.pointer (some ⟨pb, 0, none⟩), .int .i64 ai, .int .i64 bi] w fun e w' => e = .returned (.pointer (some ⟨w.heap.size, 0, none⟩)) ∧ Rst w' X w.heap.size (2, u, a, b) ∧ Below w.heap.size w w' := by
  have HP := Lib.hid hp; have HX := Lib.hid hX
  have HN := Lib.hid (Opn.new w.heap.size w X false (Nat.le_refl _) hX)
  have HP1 := Lib.hid (hp.fresh (v := .slice none 0 0) (b := w.heap.size) (below_alloc w (.cells #[.slice none 0 0, .bool false] 58)) (Nat.le_refl _) (fun k h => by simp [Value.ownBlock] at h))
  have HA := Lib.hid hai; have HBI := Lib.hid hbi
  clear hp hX hai hbi
  go_enter Tryd.func53, Tryd.ntmps53
  go_wp2_with fail
  go_loopw [8] (fun i wr => ∃ (k : Nat) (ii : Int), a + k ≤ b + 1 ∧ Hid (ii = (a : Int) + k) ∧ i = .int .i64 ii ∧ ∃ v, Hid (Opn w.heap.size wr X w.heap.size v (a == 0 && decide (0 < k)) (dlT u pl bp a k)) ∧ Hid (Prt wr (Av w.heap.size v X) pb u pl bp r) ∧ Hid (Below w.heap.size w wr)) (fun i _ => b + 1 - (intOf i).toNat)
  case atStart => exact ⟨0, ai, by omega, Lib.hid (by have := HA.out; omega), rfl, .slice none 0 0, by { rw [show decide (0 < 0) = false from rfl, Bool.and_false]; exact HN }, HP1, Lib.hid (below_alloc _ _)⟩
  case round =>
    obtain ⟨k, ii, hk, HII, rfl, v, HO, HQ, HB⟩ := hrel
    have hlen := dlT_len u pl bp a k
    have hii := HII.out; have hai := HA.out; have hbi := HBI.out
    by_cases hlt : a + k ≤ b
    · have h0 : ii ≤ bi := by omega
      have hXw : ∀ j, X j → j < wr.heap.size := fun j hj => Nat.lt_of_lt_of_le (HX.out j hj) HB.out.size
      by_cases hz : a + k = 0
      · obtain rfl : ii = 0 := by omega
        clear hii hai hbi
        go_wp2_with fail
        refine (letEnd_any w.heap.size w.heap.size pb u pl r bp v _ _ X wr HO.out HQ.out (by omega) HB.out.size hXw).mono ?_
        rintro e w2 ⟨rfl, v', ho', hl'⟩
        have HO' := Lib.hid ho'; have HL' := Lib.hid hl'; clear ho' hl'
        have hE : true = (a == 0 && decide (0 < k + 1)) := by
          rw [decide_eq_true (by omega), show (a == 0) = true by rw [beq_iff_eq]; omega]; rfl
        have hD : dlT u pl bp a k ++ wlT u pl = dlT u pl bp a (k + 1) := by
          show _ = dlT u pl bp a k ++ dlkT u pl bp (a + k)
          unfold dlkT
          rw [if_pos hz]
        rw [hE, hD] at HO'
        clear hE hD
        go_wp2_with fail
        go_roundw
        case rel => exact ⟨k + 1, 1, by omega, Lib.hid (by omega), by go_num, v', HO', Lib.hid (HQ.out.lnk HO.out HL'.out), Lib.hid (HL'.out.bel HB.out (Nat.le_refl _) (fun k h => (HO.out.row.lt k h).1) HB.out.size)⟩
        case measure => simp [intOf]
      · have hz' : (ii == 0) = false := by rw [beq_eq_false_iff_ne]; omega
        have hw1 : IntKind.i64.wrap (ii + 1) = ii + 1 := IntWalk.i64_in _ (by omega)
        have hcell := HQ.out.row.cell (a + k) (by omega)
        rw [prV_ptr (by omega) (by omega) (by omega)] at hcell
        have S := Lib.hid (fun w => rsign_any (a + k) w (by omega))
        rw [show ((a + k : Nat) : Int) = ii by omega, show sgz (a + k) = sgn (a + k) by unfold sgz; rw [if_neg hz]] at S
        have hn1 : 0 ≤ ii := by omega
        have hn2 : ii < 5 := by omega
        have hn3 : ii.toNat = a + k := by omega
        have HT := Lib.hid (HQ.out.st (a + k) (by omega) (by omega))
        have hM : b + 1 - (ii + 1).toNat < b + 1 - ii.toNat := by omega
        have HM := Lib.hid hM
        have hl8 : (dlT u pl bp a k).length ≤ 8 := by omega
        have hk1 : a + (k + 1) ≤ b + 1 := by omega
        have H1 : Hid (ii + 1 = (a : Int) + ((k + 1 : Nat) : Int)) := Lib.hid (by omega)
        clear hii hai hbi hM
        go_wp2_with fail
        refine wp_region_still_tail 9 (by kernel_rfl) (by kernel_rfl) ?_
        simp only [List.take_succ_cons, List.take_zero, List.drop_succ_cons, List.drop_zero]
        change wpStill _ _ (World.drew _) _ _ _
        repeat still_step
        still_call ((S.out _).mono fun _ _ q => ⟨q.1, q.2.symm⟩)
        repeat still_step
        refine wpStill_nil ?_
        change wpList _ _ _ _ _ (World.drew _)
        go_wp2_with fail
        have g0 := (Below.refl wr.heap.size wr).drew
        refine (link_any w.heap.size w.heap.size (bp (a + k)) v _ (dlT u pl bp a k) X (sgn (a + k), (0, u, a + k, 0)) _ (HO.out.below g0) (HT.out.bel g0) hl8 HB.out.size hXw).mono ?_
        rintro e w2 ⟨rfl, v', ho', hl'⟩
        have hl2 := (Lnk.drew w.heap.size v wr).trans hl'
        have HO' := Lib.hid ho'; have HL' := Lib.hid hl2; clear ho' hl' hl2 g0
        have hE : (a == 0 && decide (0 < k)) = (a == 0 && decide (0 < k + 1)) := by
          by_cases ha : a = 0
          · rw [decide_eq_true (by omega), decide_eq_true (by omega)]
          · rw [show (a == 0) = false by rw [beq_eq_false_iff_ne]; exact ha]; rfl
        have hD : dlT u pl bp a k ++ [((sgn (a + k), (0, u, a + k, 0)), bp (a + k))] = dlT u pl bp a (k + 1) := by
          show _ = dlT u pl bp a k ++ dlkT u pl bp (a + k)
          unfold dlkT
          rw [if_neg hz]
        rw [hE, hD] at HO'
        clear hE hD
        go_wp2_with fail
        go_roundw
        case rel => exact ⟨k + 1, ii + 1, hk1, H1, by go_num, v', HO', Lib.hid (HQ.out.lnk HO.out HL'.out), Lib.hid (HL'.out.bel HB.out (Nat.le_refl _) (fun k h => (HO.out.row.lt k h).1) HB.out.size)⟩
        case measure => simp [intOf]; have := HM.out; omega
    · obtain hk : a + k = b + 1 := by omega
      have h0 : ¬ ii ≤ bi := by omega
      clear hii hai hbi
      go_wp2_with fail
      go_ret
      refine ⟨rfl, HO.out.close (2, u, a, b) ?_ ?_, HB.out⟩
      · rw [dlT_fst]
        show _ = rdl u a (b + 1 - a)
        rw [show b + 1 - a = k by omega]
      · rw [decide_eq_true (by omega), Bool.and_true]; rfl
end Go.Proofs.YtagipmfkmikagaaDoor
