/- The program's chapter 4: pressed texts, cut. -/
import Derived.Test.YtejhiilkbckobaaDoorDD
import Derived.Test.YtejhiilkbckobaaDoorDB
import Derived.Test.YtejhiilkbckobaaDoorCW
import Derived.Laws.BytesArg
import Derived.Lib.BufferWrite
import Derived.Lib.SlBuf
import Derived.Deep.QuietTactic
namespace Go.Proofs.YtejhiilkbckobaaDoor
open Go.RowKit
set_option linter.unusedVariables false
set_option maxRecDepth 100000
theorem dw_nil (p : UInt8 → Bool) : ∀ l : List UInt8, l.dropWhile p = [] ↔ ∀ c ∈ l, p c = true
  | [] => by simp
  | a :: t => by
    rw [List.dropWhile_cons]
    cases h : p a with
    | true => simp only [if_true, dw_nil p t, List.mem_cons, forall_eq_or_imp, h, true_and]
    | false => simp [h]
theorem dw_head (p : UInt8 → Bool) : ∀ (l : List UInt8) a t, l.dropWhile p = a :: t → p a = false
  | [], a, t, h => by simp at h
  | b :: l, a, t, h => by
    rw [List.dropWhile_cons] at h
    cases hb : p b with
    | true => rw [hb] at h; exact dw_head p l a t (by simpa using h)
    | false => rw [hb] at h; simp at h; rw [← h.1]; exact hb
theorem trim_nil (l cs : List UInt8) : Lib.trimS l cs = [] ↔ ∀ c ∈ l, cs.contains c = true := by
  unfold Lib.trimS Lib.trimLeftS Lib.trimRightS
  rw [dw_nil]
  constructor
  · intro h
    cases e : l.reverse.dropWhile (cs.contains ·) with
    | nil => intro c hc; exact (dw_nil _ _).1 e c (List.mem_reverse.2 hc)
    | cons a t =>
      have h1 := dw_head _ _ a t e
      have h2 := h a (List.mem_reverse.2 (by rw [e]; exact List.mem_cons_self))
      rw [h1] at h2; cases h2
  · intro h c hc
    exact h c (List.mem_reverse.1 ((List.dropWhile_sublist _).subset (List.mem_reverse.1 hc)))
theorem prs_contains (c : UInt8) : ([60, 89] : List UInt8).contains c = true ↔ c = 60 ∨ c = 89 := by
  rw [List.contains_cons, List.contains_cons, List.contains_nil, Bool.or_false, Bool.or_eq_true, beq_iff_eq, beq_iff_eq]
theorem trim_prs (l : List UInt8) : Lib.trimS l [60, 89] = [] ↔ Prs l := by
  rw [trim_nil]
  exact ⟨fun h c hc => (prs_contains c).1 (h c hc), fun h c hc => (prs_contains c).2 (h c hc)⟩
theorem prsB_iff (l : List UInt8) : prsB l = true ↔ 1 ≤ l.length ∧ l.length ≤ 8 ∧ Prs l := by
  unfold prsB Prs
  rw [Bool.and_eq_true, decide_eq_true_eq, List.all_eq_true, and_assoc]
  simp
theorem trimBoth_any (l : List UInt8) (w : World) (hl : l.length ≤ 1048576) : Calls Tryd.prog 44 #[.string ⟨l.toArray⟩, .string ⟨#[60, 89]⟩] w fun e w' => e = .returned (.string ⟨(Lib.trimS l [60, 89]).toArray⟩) ∧ Below w.heap.size w w' :=
  Any.strings_Trim_laid Tryd.trimL (by kernel_rfl) ⟨l.toArray⟩ ⟨#[60, 89]⟩ w (by show l.toArray.size ≤ _; simp; omega) (by decide) (ascii_of_all (by decide))
theorem dinfo_u8 : (Tryd.prog.info? 5).map (fun i => (i.zero, i.size, i.bytes)) = some (some (.int .u8 0), 1, 1) := by kernel_rfl
theorem sz_u8 : (Tryd.prog.info? 5).map (·.size) = some 1 := by kernel_rfl
def PrsR (w : World) (l : List UInt8) (w' : World) (e : Ending) : Prop :=
  ∃ b, e = .returned (.tuple #[.slice (some ⟨b, 0, none⟩) l.length l.length, .bool true]) ∧ w.heap.size ≤ b ∧ w'.heap[b]? = some (.cells (Lib.byteCells l).toArray 5 (0, 0)) ∧ Below w.heap.size w w'
theorem press_copy (l : List UInt8) (w : World) (b : Nat) (h : VRow 5 w b l.length (fun _ => .int .u8 0)) : ∃ X, Hid ((Lib.byteCells l).toArray = X) ∧
    Sem.run Tryd.prog (Builtin.copy_ #[50, 9] 3 #[.slice (some ⟨b, 0, none⟩) l.length l.length, .string ⟨l.toArray⟩]) w = .ok (goInt l.length) (w.setRow b X) ∧ Hid ((w.setRow b X).heap[b]? = some (.cells X 5 (0, 0))) := by
  refine ⟨_, Lib.hid rfl, ?_, Lib.hid (setRow_heap w b _ _ 5 (0, 0) h)⟩
  have := Lib.run_copy_row_string (P := Tryd.prog) w 50 9 3 5 b 0 l.length l.length ⟨l.toArray⟩ _ 5 Tryd.underlying50 sz_u8 h (by show l.toArray.size ≤ _; simp) (by show 0 + l.toArray.size ≤ _; simp [vals])
  have e1 : (⟨l.toArray⟩ : ByteArray).size = l.length := by show l.toArray.size = _; simp
  rw [e1] at this
  rw [this, List.drop_eq_nil_of_le (by simp [vals])]
  simp
set_option maxRecDepth 100000 in
theorem pressed_yes (l : List UInt8) (w : World) (h : prsB l = true) : Calls Tryd.prog 34 #[.string ⟨l.toArray⟩] w fun e w' => PrsR w l w' e := by
  obtain ⟨h1, h2, h3⟩ := (prsB_iff l).1 h
  have ht := (trim_prs l).2 h3
  have T := Lib.hid (trimBoth_any l w (by omega))
  rw [ht] at T
  have hn0 : 1 ≤ (l.length : Int) := by omega
  have hn1 : (l.length : Int) ≤ 8 := by omega
  clear h h3 ht h1 h2
  obtain ⟨i0, hi, hz0, hz1, hz2⟩ := info_vals dinfo_u8
  go_enter Tryd.func34, Tryd.ntmps34
  go_wp2_with fail
  refine T.out.mono ?_
  rintro e w1 ⟨rfl, g1⟩
  have G1 := Lib.hid g1; clear g1 T
  go_wp2_with (first
    | (at_make; refine wpList_make_vals _ rfl _ _ 50 5 rfl (.int .u8 0) rfl i0 Tryd.underlying50 hi hz0 hz1 (by omega) l.length (by omega) rfl rfl ?_
       intro w3 hrow hb3 hsz3
       have HB3 : Hid (Below w.heap.size w w3) := G1.out.trans (hb3.mono G1.out.size)
       obtain ⟨X, HX, hcp, HW⟩ := press_copy l w3 w1.heap.size hrow
       have HB4 : Hid (Below w.heap.size w (w3.setRow w1.heap.size X)) := below_setRow HB3.out G1.out.size X
       clear hrow hb3 hsz3)
    | ((with_reducible refine here4 ⟨some 23, _, _, _, _, _⟩ ?_)
       refine Lib.wpList_copy_run _ rfl (.tmp 21) (.tmp 22) 50 9 rfl _ _ rfl rfl hcp ?_
       clear hcp))
  go_ret2
  exact ⟨_, rfl, G1.out.size, by rw [HX.out]; exact HW.out, HB4.out⟩
set_option maxRecDepth 100000 in
theorem pressed_no (l : List UInt8) (w : World) (hl : l.length ≤ 1048576) (h : prsB l = false) : Calls Tryd.prog 34 #[.string ⟨l.toArray⟩] w fun e w' => e = .returned (.tuple #[.slice none 0 0, .bool false]) ∧ Below w.heap.size w w' := by
  have T := Lib.hid (trimBoth_any l w hl)
  have hz : ¬ (1 ≤ (l.length : Int) ∧ (l.length : Int) ≤ 8) ∨ 1 ≤ (l.length : Int) ∧ (l.length : Int) ≤ 8 ∧ Lib.trimS l [60, 89] ≠ [] := by
    by_cases h0 : 1 ≤ (l.length : Int) ∧ (l.length : Int) ≤ 8
    · refine .inr ⟨h0.1, h0.2, fun e => ?_⟩
      rw [(prsB_iff l).2 ⟨by omega, by omega, (trim_prs l).1 e⟩] at h
      cases h
    · exact .inl h0
  clear h
  rcases hz with hz | ⟨hn0, hn1, hz⟩
  · clear T
    rcases (show (l.length : Int) < 1 ∨ 8 < (l.length : Int) by omega) with h1 | h1
    all_goals
      clear hz
      go_enter Tryd.func34, Tryd.ntmps34
      go_wp2_with fail
      go_ret2
      exact ⟨rfl, Below.refl _ _⟩
  · generalize Lib.trimS l [60, 89] = Z at *
    have q1 : (Z == []) = false := by rw [beq_eq_false_iff_ne]; exact hz
    have q2 : (Z != []) = true := by rw [bne_iff_ne]; exact hz
    have q3 : Z.isEmpty = false := by cases Z with | nil => exact absurd rfl hz | cons a t => rfl
    go_enter Tryd.func34, Tryd.ntmps34
    go_wp2_with fail
    refine T.out.mono ?_
    rintro e w1 ⟨rfl, g1⟩
    have G1 := Lib.hid g1; clear g1 T
    go_wp2_with fail
    go_ret2
    exact ⟨rfl, G1.out⟩
/-- what cut hands back -/
def CutR (b off n k : Nat) (w w' : World) (e : Ending) : Prop :=
  ∃ ad q, e = .returned (.tuple #[.slice (some ⟨b, off, none⟩) (k + 1) (k + 1), .slice (some ad) (n - (k + 1)) (n - (k + 1))]) ∧ (k + 1 < n → ad = ⟨b, off + (k + 1), none⟩) ∧ w' = w.drewN q
theorem cut_any (b off n k : Nat) (w : World) (hk : k + 1 ≤ n) (hn : n ≤ 8) : Calls Tryd.prog 46 #[.slice (some ⟨b, off, none⟩) n n, .int .i64 ((k : Int) + 1)] w fun e w' => CutR b off n k w w' e := by
  by_cases h : n = k + 1
  · subst h
    clear hk
    go_enter Tryd.func46, Tryd.ntmps46
    go_wp2_with fail
    go_quiet (fail)
    go_wp2_with fail
    go_ret2
    exact ⟨⟨b, off, none⟩, _, by rw [Nat.sub_self]; rfl, fun h => by omega, rfl⟩
  · have h1 : k + 1 < n := by omega
    have h2 : ¬ k + 1 = n := by omega
    have h3 : (k : Int) + 1 ≤ n := by omega
    have h4 : 0 ≤ (k : Int) + 1 := by omega
    go_enter Tryd.func46, Tryd.ntmps46
    go_wp2_with fail
    go_quiet (fail)
    go_wp2_with fail
    go_ret2
    exact ⟨⟨b, off + (k + 1), none⟩, _, rfl, fun _ => rfl, rfl⟩
end Go.Proofs.YtejhiilkbckobaaDoor
