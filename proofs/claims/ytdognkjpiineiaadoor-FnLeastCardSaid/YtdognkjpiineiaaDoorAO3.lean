/- The program's firstWord and AlphaLeast. -/
import Derived.Test.YtdognkjpiineiaaDoorAO2
namespace Go.Proofs.YtdognkjpiineiaaDoor
open Go.RowKit Go.Shelf
set_option linter.unusedVariables false
set_option maxRecDepth 100000
attribute [local go_sem] Oper.semAt_some
theorem words_once (c : Nat) : ∀ (p : Nat) (s : Int) (w : World) (lb : Array Value), c ≤ 20 → -1000 ≤ s → s ≤ 2000 → p < 27 → AT w → Words w lb c p s → Once Tryd.prog 63 lb (resW c p s) w := by
  induction c with
  | zero => exact fun p s w lb _ h0 h1 _ _ hW => words_zero p s w lb h0 h1 hW
  | succ c ih =>
    intro p s w lb hc h0 h1 hp hT hW
    by_cases hg : s < ((c + 1 : Nat) : Int) ∨ ((c + 1 : Nat) : Int) * 900 < s
    · exact words_out (c + 1) p s w lb hc h0 h1 hg hW
    · exact words_step c p s w lb hc h0 h1 hp (by omega) (by omega) (fun q s' w' lb' a1 a2 a3 a4 a5 => ih q s' w' lb' (by omega) a1 a2 a3 a4 a5) hT hW
/-- firstWord's answer -/
def firstR : Option Value → Value
  | some x => .tuple #[x, .bool true]
  | none => .tuple #[.string ⟨#[]⟩, .bool false]
theorem firstWord_any (lb : Array Value) (res : Option Value) (w : World) (hs : ∀ x, res = some x → ∃ y : ByteArray, x = .string y) (hO : Once Tryd.prog 63 lb res w) :
    Calls Tryd.prog 53 #[.func (.func 63) #[] lb] w fun e w' => e = .returned (firstR res) ∧ Below w.heap.size w w' := by
  refine (callsIn_wide (n := 0)).1 ?_
  have HO := Lib.hid hO; have HS := Lib.hid hs; clear hO hs
  refine callsIn_of_wp_marks Tryd.func53 rfl trivial ?_ rfl
  simp only [Tryd.ntmps53, List.size_toArray, List.length_cons, List.length_nil, Nat.reduceAdd, Nat.reduceSub, Array.replicate_succ, Array.replicate_zero, List.push_toArray, List.append_toArray, List.nil_append, List.cons_append]
  gi_wp2
  have eg : ∀ args w, (callFunc 63 args).run Tryd.prog w = .ok (.enter 63 args) w := enters_of Tryd.func63 (by kernel_rfl) rfl
  have hB := ((Below.refl w.heap.size w).alloc (Nat.le_refl _) (.cells #[.string ⟨#[]⟩] 9)).alloc (by simp) (.cells #[.bool false] 4)
  have hsz : ((w.alloc (.cells #[.string ⟨#[]⟩] 9)).alloc (.cells #[.bool false] 4)).heap.size = w.heap.size + 1 + 1 := by simp
  have hr0 : ((w.alloc (.cells #[.string ⟨#[]⟩] 9)).alloc (.cells #[.bool false] 4)).heap[w.heap.size]? = some (.cells #[.string ⟨#[]⟩] 9 (0, 0)) := (Below.heap_alloc _ _ _ (by simp)).trans (heap_alloc_new _ _)
  have hr1 : ((w.alloc (.cells #[.string ⟨#[]⟩] 9)).alloc (.cells #[.bool false] 4)).heap[w.heap.size + 1]? = some (.cells #[.bool false] 4 (0, 0)) := by
    have := heap_alloc_new (w.alloc (.cells #[.string ⟨#[]⟩] 9)) (.cells #[.bool false] 4)
    rwa [World.size_alloc] at this
  generalize (w.alloc (.cells #[.string ⟨#[]⟩] 9)).alloc (.cells #[.bool false] 4) = V at *
  have HB := Lib.hid hB; have Hr0 := Lib.hid hr0; have Hr1 := Lib.hid hr1; clear hB hr0 hr1
  refine wp_range_once (gf := 63) (lb := lb) rfl eg HO.out HB.out rfl
    (fun W => ∃ y : ByteArray, res = some (.string y) ∧ W.heap[w.heap.size]? = some (.cells #[.string y] 9 (0, 0)) ∧ W.heap[w.heap.size + 1]? = some (.cells #[.bool true] 4 (0, 0)) ∧ Below w.heap.size w W) ?hang ?round ?done ?stop
  case hang =>
    rintro A B ⟨y, q0, q1, q2, q3⟩ hb
    exact ⟨y, q0, (hb.block _ (by omega)).trans q1, (hb.block _ (by omega)).trans q2, q3.trans (hb.mono (by omega))⟩
  case round =>
    intro x hx l2 Wa hWa
    obtain ⟨y, rfl⟩ := HS.out x hx
    have Hx := Lib.hid hx; clear hx
    gi_wp2
    refine ⟨trivial, fun W4 hb4 => ?_⟩
    have hk0 := (hb4.block w.heap.size (by omega)).trans Hr0.out
    have hk1 := (hb4.block (w.heap.size + 1) (by omega)).trans Hr1.out
    have c0 := cell_at hk0 (j := 0) rfl
    have c1 := cell_at hk1 (j := 0) rfl
    have f0 : W4.frozen? ⟨w.heap.size, 0, none⟩ = false := by simp [World.frozen?, hk0]
    have f1 : W4.frozen? ⟨w.heap.size + 1, 0, none⟩ = false := by simp [World.frozen?, hk1]
    have s0 := heap_setCell_same W4 w.heap.size 0 _ _ (.string y) hk0
    have s1 := heap_setCell_same (W4.setCell ⟨w.heap.size, 0, none⟩ (.string y)) (w.heap.size + 1) 0 _ _ (.bool true) ((Below.heap_setCell _ _ _ _ (by simp)).trans hk1)
    have s2 := (Below.heap_setCell (W4.setCell ⟨w.heap.size, 0, none⟩ (.string y)) ⟨w.heap.size + 1, 0, none⟩ (.bool true) w.heap.size (by simp)).trans s0
    have S1 := Lib.hid s1; have S2 := Lib.hid s2
    have HB4 : Hid (Below w.heap.size w ((W4.setCell ⟨w.heap.size, 0, none⟩ (.string y)).setCell ⟨w.heap.size + 1, 0, none⟩ (.bool true))) :=
      ((HB.out.trans (hb4.mono (by omega))).setCell (p := ⟨w.heap.size, 0, none⟩) (Nat.le_refl _) _).setCell (p := ⟨w.heap.size + 1, 0, none⟩) (by simp) _
    clear s0 s1 s2 hk0 hk1 hb4
    gi_wp2
    exact ⟨((KeepsOthers.setCell _ _ _).trans (KeepsOthers.setCell _ _ _)).from _, y, Hx.out, S2.out, S1.out, HB4.out⟩
  case done =>
    intro hn D W4 hD hb4 hd4
    have hk0 := (hb4.block w.heap.size (by omega)).trans Hr0.out
    have hk1 := (hb4.block (w.heap.size + 1) (by omega)).trans Hr1.out
    have c0 := cell_at hk0 (j := 0) rfl
    have c1 := cell_at hk1 (j := 0) rfl
    have f0 : W4.frozen? ⟨w.heap.size, 0, none⟩ = false := by simp [World.frozen?, hk0]
    have f1 : W4.frozen? ⟨w.heap.size + 1, 0, none⟩ = false := by simp [World.frozen?, hk1]
    have Hb4 := Lib.hid hb4; have Hd4 := Lib.hid hd4; have Hn := Lib.hid hn
    have s0 := heap_setCell_same W4 w.heap.size 0 _ _ (.string ⟨#[]⟩) hk0
    have s1 := heap_setCell_same (W4.setCell ⟨w.heap.size, 0, none⟩ (.string ⟨#[]⟩)) (w.heap.size + 1) 0 _ _ (.bool false) ((Below.heap_setCell _ _ _ _ (by simp)).trans hk1)
    have s2 := (Below.heap_setCell (W4.setCell ⟨w.heap.size, 0, none⟩ (.string ⟨#[]⟩)) ⟨w.heap.size + 1, 0, none⟩ (.bool false) w.heap.size (by simp)).trans s0
    have s3 : ((W4.setCell ⟨w.heap.size, 0, none⟩ (.string ⟨#[]⟩)).setCell ⟨w.heap.size + 1, 0, none⟩ (.bool false)).heap[D]? = some (.deferred (some [])) :=
      (Below.heap_setCell _ _ _ _ (by simp; omega)).trans ((Below.heap_setCell _ _ _ _ (by simp; omega)).trans hd4)
    have S1 := Lib.hid s1; have S2 := Lib.hid s2; have S3 := Lib.hid s3
    have HB4 : Hid (Below w.heap.size w ((W4.setCell ⟨w.heap.size, 0, none⟩ (.string ⟨#[]⟩)).setCell ⟨w.heap.size + 1, 0, none⟩ (.bool false))) :=
      ((HB.out.trans (hb4.mono (by omega))).setCell (p := ⟨w.heap.size, 0, none⟩) (Nat.le_refl _) _).setCell (p := ⟨w.heap.size + 1, 0, none⟩) (by simp) _
    clear s0 s1 s2 s3 hb4 hd4 hn
    gi_wp2
    refine leaves_marks V.heap.size [D] _ (by simp) (fun E hE => ?_) (fun w' hb => ?_)
    · obtain rfl := List.mem_singleton.1 hE
      exact ⟨hD, S3.out⟩
    · have h0 := cell_at ((hb.block _ (by omega)).trans S2.out) (j := 0) rfl
      have h1 := cell_at ((hb.block _ (by omega)).trans S1.out) (j := 0) rfl
      refine ⟨.tuple #[.string ⟨#[]⟩, .bool false], by simp [results, Tryd.f53, go_sem, h0, h1], by rw [Hn.out]; rfl, HB4.out.trans (hb.mono (by omega))⟩
  case stop =>
    rintro hn D W4 hD ⟨y, q0, q1, q2, q3⟩ hd4
    have Q0 := Lib.hid q0; have Q1 := Lib.hid q1; have Q2 := Lib.hid q2; have Q3 := Lib.hid q3; have Hd4 := Lib.hid hd4
    clear q0 q1 q2 q3 hd4 hn
    gi_wp2
    refine leaves_marks V.heap.size [D] _ (by simp) (fun E hE => ?_) (fun w' hb => ?_)
    · obtain rfl := List.mem_singleton.1 hE
      exact ⟨hD, Hd4.out⟩
    · have h0 := cell_at ((hb.block _ (by omega)).trans Q1.out) (j := 0) rfl
      have h1 := cell_at ((hb.block _ (by omega)).trans Q2.out) (j := 0) rfl
      refine ⟨.tuple #[.string y, .bool true], by simp [results, Tryd.f53, go_sem, h0, h1], by rw [Q0.out]; rfl, Q3.out.trans (hb.mono (by omega))⟩
end Go.Proofs.YtdognkjpiineiaaDoor
