/- The program's piles and systems as values: blocks of numbers of any type; copy. -/
import Derived.Test.YtbepcmjjgpbgaaaBV2
import Derived.Laws.CopyOwn
namespace Go.Proofs.Ytbepcmjjgpbgaaa
open Go.RowKit
set_option linter.unusedVariables false
set_option maxRecDepth 100000
/-- a block of just N integers, of type T -/
def Blk (T : TypeId) (w : World) (b N : Nat) (f : Nat → Int) : Prop := w.heap[b]? = some (.cells (intCells f N).toArray T (0, 0))
section
variable {T : TypeId} {w w' : World} {b N : Nat} {f g : Nat → Int}
theorem Blk.lt (h : Blk T w b N f) : b < w.heap.size := lt_of_block' h
theorem Blk.cell (h : Blk T w b N f) (k : Nat) (hk : k < N) : w.cell? ⟨b, k, none⟩ = some (.int .i64 (f k)) := cell_at h (by rw [List.getElem?_toArray]; exact intCells_at f N k hk)
theorem Blk.frozen (h : Blk T w b N f) (k : Nat) : w.frozen? ⟨b, k, none⟩ = false := by
  unfold Blk at h
  simp [World.frozen?, h]
theorem Blk.congr (h : Blk T w b N f) (e : ∀ k, k < N → f k = g k) : Blk T w b N g := by
  unfold Blk at h ⊢
  rw [h, intCells_congr e]
theorem Blk.ls (h : Blk T w b N f) {m : Nat} (hm : m ≤ N) : Ls w (some ⟨b, 0, none⟩) m f := fun k hk => ⟨b, 0, rfl, h.lt, by rw [Nat.zero_add]; exact h.cell k (by omega)⟩
theorem Blk.keep (h : Blk T w b N f) (e : w'.heap[b]? = w.heap[b]?) : Blk T w' b N f := e.trans h
theorem Blk.below (h : Blk T w b N f) (g : Below w.heap.size w w') : Blk T w' b N f := h.keep (g.block b h.lt)
theorem Blk.mid {lo hi : Nat} (h : Blk T w b N f) (g : Mid lo hi w w') (hb : b < lo ∨ hi ≤ b) : Blk T w' b N f := h.keep (g.block b (by omega))
theorem Blk.set_ (h : Blk T w b N f) (k : Nat) (x : Int) : Blk T (w.setCell ⟨b, k, none⟩ (.int .i64 x)) b N (fun j => if j = k then x else f j) := by
  unfold Blk at h ⊢
  have e : (intCells f N).toArray.setIfInBounds k (.int .i64 x) = (intCells (fun j => if j = k then x else f j) N).toArray := by
    apply Array.ext
    · simp [intCells]
    · intro i h1 h2
      simp only [Array.size_setIfInBounds, List.size_toArray, intCells_len] at h1
      by_cases e : k = i
      · subst e; simp [intCells]
      · rw [Array.getElem_setIfInBounds_ne (by simpa [intCells] using h1) e]
        simp [intCells, Ne.symm e]
  simp only [World.setCell, Array.getElem?_modify, h, if_true, Option.map_some]
  rw [← e]
  rfl
theorem Blk.far (h : Blk T w b N f) {p : Addr} (hp : b ≠ p.block) (u : Value) : Blk T (w.setCell p u) b N f := (Below.heap_setCell w p u b hp).trans h
theorem Blk.new (w : World) (T : TypeId) (N : Nat) (f : Nat → Int) : Blk T (w.alloc (.cells (intCells f N).toArray T)) w.heap.size N f := heap_alloc_new w _
theorem Blk.alloc (h : Blk T w b N f) (o : Obj) : Blk T (w.alloc o) b N f := (Below.heap_alloc w o b h.lt).trans h
end
/-- a pile's six numbers -/
def arr6 (p : Nat → Int) : Array Value := (intCells p 6).toArray
/-- a system's six values, and how many they are -/
def sysF (f : Nat → Int) (n j : Nat) : Int := if j < n then f j else if j = 6 then n else 0
def arr7 (f : Nat → Int) (n : Nat) : Array Value := (intCells (sysF f n) 7).toArray
theorem sysF_at (f : Nat → Int) (n j : Nat) (h : j < n) : sysF f n j = f j := if_pos h
theorem sysF_count (f : Nat → Int) (n : Nat) (h : n ≤ 6) : sysF f n 6 = n := by unfold sysF; rw [if_neg (by omega), if_pos rfl]
theorem arr7_count (f : Nat → Int) (n : Nat) (hn : n ≤ 6) : (arr7 f n)[6]? = some (.int .i64 (n : Nat)) := by
  unfold arr7; rw [List.getElem?_toArray, intCells_at _ 7 6 (by omega), sysF_count f n hn]
theorem arr6_congr {p q : Nat → Int} (h : ∀ j, j < 6 → p j = q j) : arr6 p = arr6 q := by unfold arr6; rw [intCells_congr h]
theorem arr7_congr {f g : Nat → Int} {n : Nat} (h : ∀ j, j < n → f j = g j) : arr7 f n = arr7 g n := by
  unfold arr7; rw [intCells_congr]; intro j _; unfold sysF; split
  · exact h j (by assumption)
  · rfl
theorem one_box (w : World) (A : Array Value) (T : TypeId) : (w.alloc (.cells A T)).heap[w.heap.size]? = some (.cells A T (0, 0)) := heap_alloc_new w _
theorem two_boxes (w : World) (A B : Array Value) (T U : TypeId) : ((w.alloc (.cells A T)).alloc (.cells B U)).heap[w.heap.size]? = some (.cells A T (0, 0)) ∧ ((w.alloc (.cells A T)).alloc (.cells B U)).heap[w.heap.size + 1]? = some (.cells B U (0, 0)) := by
  refine ⟨(Below.heap_alloc _ _ _ (by simp)).trans (heap_alloc_new w _), ?_⟩
  have := heap_alloc_new (w.alloc (.cells A T)) (.cells B U)
  simpa using this
theorem two_bel (w : World) (o o' : Obj) : Below w.heap.size w ((w.alloc o).alloc o') := ((Below.refl _ _).alloc (Nat.le_refl _) _).alloc (by simp) _
theorem sz_int : (Try.prog.info? 3).map (·.size) = some 1 := by kernel_rfl
/-- a guard ahead of a law: is this the operation? -/
theorem here (o : Oper) {P : Program} {w : World} {ops : Array Oper} {rest : List Oper} {a : Act} {Q : Exit → Act → World → Prop} (h : wpList P ops Q (o :: rest) a w) : wpList P ops Q (o :: rest) a w := h
/-- copy(dst, src): as many numbers as the shorter one has -/
theorem wpList_copy_ints {w : World} {ops : Array Oper} {rest : List Oper} {o : Oper} {a : Act} {Q : Exit → Act → World → Prop} (hgd : o.guard = none) (d s : Operand)
    (ho : o.op = .call { callee := .builtin .copy, args := #[d, s], argTypes := #[23, 23] })
    (T : TypeId) (b N n c m c' k : Nat) (f g : Nat → Int) (ad : Option Addr) (hd : a.eval d = .slice (some ⟨b, 0, none⟩) n c) (hs : a.eval s = .slice ad m c')
    (hb : Blk T w b N f) (hl : Ls w ad m g) (hk' : k ≤ m ∧ k ≤ n ∧ (m ≤ k ∨ n ≤ k)) (hn : n ≤ N)
    (h : ∀ w', Blk T w' b N (fun j => if j < k then g j else f j) → Mid b (b + 1) w w' → wpList Try.prog ops Q rest (a.put o.dst (goInt k)) w') :
    wpList Try.prog ops Q (o :: rest) a w := by
  have hk : k = Nat.min m n := by show k = min m n; omega
  by_cases h0 : k = 0
  · subst h0
    refine wpList_copy_nothing hgd d s _ _ ho 3 Try.underlying23 sz_int _ ad n c m c' hd hs hk.symm ?_
    exact h w (hb.congr fun j hj => by simp) (Mid.refl _ _ _)
  · have hmn : k ≤ m ∧ k ≤ n := ⟨hk ▸ Nat.min_le_left m n, hk ▸ Nat.min_le_right m n⟩
    obtain ⟨sb, so, rfl, hsb, hsc⟩ := hl.pos (by omega)
    have hcs : ∀ j v, (intCells g k)[j]? = some v → w.cell? ((⟨sb, so, none⟩ : Addr).add j) = some v := by
      intro j v hv
      have hj : j < k := by
        rcases Nat.lt_or_ge j k with h | h
        · exact h
        · rw [List.getElem?_eq_none (by rw [intCells_len]; exact h)] at hv; cases hv
      rw [intCells_at g k j hj] at hv
      obtain rfl := Option.some.inj hv
      have e : (⟨sb, so, none⟩ : Addr).add j = ⟨sb, so + j, none⟩ := by unfold Addr.add; split <;> simp_all
      rw [e]
      exact hsc j (by omega)
    refine wpList_copy_own hgd d s _ _ ho 3 Try.underlying23 sz_int b 0 n c ⟨sb, so, none⟩ m c' hd hs (intCells f N).toArray T hb (intCells g k) (by rw [intCells_len]; exact hk) hcs (by rw [intCells_len]; simp [intCells]; omega) (by intro v hv; obtain ⟨j, _, rfl⟩ := List.mem_map.1 hv; rfl) ?_
    rw [intCells_len]
    refine h _ ?_ ⟨rfl, rfl, rfl, by simp [World.setRow], fun j hj => setRow_other w b j _ (by omega)⟩
    have hrow := setRow_heap w b _ (List.take 0 (intCells f N).toArray.toList ++ (intCells g k ++ List.drop (0 + k) (intCells f N).toArray.toList)).toArray T _ hb
    refine hrow.trans ?_
    congr 2
    congr 1
    apply List.ext_getElem?
    intro i
    simp only [List.take_zero, List.nil_append, Nat.zero_add]
    by_cases hi : i < k
    · rw [List.getElem?_append_left (by rw [intCells_len]; exact hi), intCells_at g k i hi, intCells_at _ N i (by omega), if_pos hi]
    · rw [List.getElem?_append_right (by rw [intCells_len]; omega), intCells_len, List.getElem?_drop]
      by_cases hN : i < N
      · rw [show k + (i - k) = i by omega, intCells_at _ N i hN, intCells_at _ N i hN, if_neg hi]
      · rw [List.getElem?_eq_none (by rw [intCells_len]; omega), List.getElem?_eq_none (by rw [intCells_len]; omega)]
theorem list_any (p f : Nat → Int) (n : Nat) (w : World) (hn : n ≤ 6) :
    Calls Try.prog 53 #[.agg (arr6 p), .agg (arr7 f n)] w fun e w' => ∃ b, e = .returned (.slice (some ⟨b, 0, none⟩) n n) ∧ w.heap.size ≤ b ∧ b < w'.heap.size ∧ Own w' b n p ∧ Below w.heap.size w w' := by
  obtain ⟨i0, hi, hz0, hz1, hz2⟩ := info_parts info_int
  have h6 := arr7_count f n hn
  have hbox := Lib.hid (two_boxes w (arr6 p) (arr7 f n) 52 48)
  have hbel := Lib.hid (two_bel w (.cells (arr6 p) 52) (.cells (arr7 f n) 48))
  have HA : Hid (arr6 p = (intCells p 6).toArray) := rfl
  generalize arr6 p = A at *
  generalize arr7 f n = B at *
  go_enter Try.func53, Try.ntmps53
  go_wp2_with (first
    | (at_make; refine wpList_make_ints _ rfl _ _ 23 rfl i0 Try.underlying23 hi hz0 hz1 hz2 n (by omega) rfl rfl ?_; intro w1 hown hb hsz
       have HO : Hid (Blk 3 w1 (w.heap.size + 1 + 1) n (fun _ => 0)) := by (have := hown; simp at this; exact this)
       have HB : Hid (Below (w.heap.size + 2) ((w.alloc (.cells A 52)).alloc (.cells B 48)) w1) := by (have := hb; simp at this; exact this)
       have HL : Hid (Blk 52 w1 w.heap.size 6 p) := by (have h1 := (HB.out.block w.heap.size (by omega)).trans hbox.out.1; rw [HA.out] at h1; exact h1)
       have hfit : 0 + w.heap.size + 3 = w1.heap.size := by (have := hsz; simp at this; omega)
       clear hown hb hsz)
    | (with_reducible refine here ⟨some 11, _, _, _, _, _⟩ ?_
       refine wpList_copy_ints rfl (.tmp 9) (.tmp 10) rfl 3 _ n n _ 6 _ n _ p _ rfl rfl HO.out (HL.out.ls (Nat.le_refl _)) (by omega) (Nat.le_refl _) ?_
       intro w2 hown2 hmid2
       have HO2 := Lib.hid hown2; have HM2 := Lib.hid hmid2; clear hown2 hmid2))
  go_ret
  refine ⟨_, rfl, by omega, ?_, HO2.out.congr fun j hj => by simp [hj], ?_⟩
  · rw [HM2.out.size]; omega
  · exact (hbel.out.trans (HB.out.mono (by omega))).trans (HM2.out.below (by omega))
end Go.Proofs.Ytbepcmjjgpbgaaa
