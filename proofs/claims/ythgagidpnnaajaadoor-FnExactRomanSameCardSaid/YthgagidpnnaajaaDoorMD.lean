/- A range over a map keyed by a loose text, under way. -/
import Derived.Test.YthgagidpnnaajaaDoorMC
import Derived.Maps.RangeWalk
namespace Go.Proofs.YthgagidpnnaajaaDoor
open Go.RowKit
open Go.ChangeMaps (setBlock)
set_option linter.unusedVariables false
set_option maxRecDepth 100000
/-- block r ranges over the map b: rem is what is still to come, n how many entries -/
def Rng (w : World) (b r : Nat) (g rem : Nat → Int → Nat) (B : Int) (N n : Nat) : Prop :=
  ∃ es clock since seen c0, w.heap[b]? = some (.map es clock) ∧ Ent es clock g B N ∧ w.heap[r]? = some (.mapIter (some b) since seen c0) ∧ (∀ x ∈ es.toList, x.born < since) ∧ since ≤ c0 ∧ since ≤ clock ∧ (leftOf es seen).size = n ∧
    (∀ e ∈ es.toList, ∀ (c : Nat) (v : Int), e.key = kv c v → rem c v = if seen.contains e.born = true then 0 else g c v) ∧ (∀ (c : Nat) (v : Int), c < 7 → (∀ e ∈ es.toList, e.key ≠ kv c v) → rem c v = 0)
theorem Rng.of {w : World} {b r : Nat} {g rem : Nat → Int → Nat} {B : Int} {N n : Nat} (h : Rng w b r g rem B N n) : MapOf w b g B N := by
  obtain ⟨es, clock, _, _, _, hb, he, _⟩ := h; exact ⟨es, clock, hb, he⟩
theorem Rng.left_eq {w : World} {b r : Nat} {g rem : Nat → Int → Nat} {B : Int} {N n : Nat} (h : Rng w b r g rem B N n) : w.rangeLeft b r = n := by
  obtain ⟨es, clock, since, seen, c0, hb, he, hr, _, _, _, hn, _⟩ := h
  simp [World.rangeLeft, hb, hr, hn]
theorem Rng.keep {w w' : World} {b r : Nat} {g rem : Nat → Int → Nat} {B : Int} {N n : Nat} (h : Rng w b r g rem B N n) (h1 : w'.heap[b]? = w.heap[b]?) (h2 : w'.heap[r]? = w.heap[r]?) : Rng w' b r g rem B N n := by
  obtain ⟨es, clock, since, seen, c0, hb, he, hr, h3⟩ := h
  exact ⟨es, clock, since, seen, c0, h1.trans hb, he, h2.trans hr, h3⟩
theorem Rng.lt {w : World} {b r : Nat} {g rem : Nat → Int → Nat} {B : Int} {N n : Nat} (h : Rng w b r g rem B N n) : r < w.heap.size := by
  obtain ⟨es, clock, since, seen, c0, hb, he, hr, _⟩ := h; exact (Array.getElem?_eq_some_iff.1 hr).1
theorem Rng.below {w w' : World} {b r : Nat} {g rem : Nat → Int → Nat} {B : Int} {N n : Nat} (h : Rng w b r g rem B N n) (hw : Below w.heap.size w w') : Rng w' b r g rem B N n := h.keep (hw.block b h.of.lt) (hw.block r h.lt)
theorem Rng.alloc {w : World} {b r : Nat} {g rem : Nat → Int → Nat} {B : Int} {N n : Nat} (h : Rng w b r g rem B N n) (o : Obj) : Rng (w.alloc o) b r g rem B N n := h.below ((Below.refl _ _).alloc (Nat.le_refl _) _)
theorem Rng.drew {w : World} {b r : Nat} {g rem : Nat → Int → Nat} {B : Int} {N n : Nat} (h : Rng w b r g rem B N n) : Rng w.drew b r g rem B N n := h
theorem Rng.grown {w w' : World} {b r : Nat} {g rem : Nat → Int → Nat} {B : Int} {N n : Nat} (h : Rng w b r g rem B N n) {k : Nat} (hg : w.grownBy w' (some k)) (h1 : k ≠ b) (h2 : k ≠ r) : Rng w' b r g rem B N n :=
  h.keep (hg.block b h.of.lt (fun e => h1 (by injection e with e; exact e.symm))) (hg.block r h.lt (fun e => h2 (by injection e with e; exact e.symm)))
theorem MapOf.grown {w w' : World} {b : Nat} {g : Nat → Int → Nat} {B : Int} {N : Nat} (h : MapOf w b g B N) {k : Nat} (hg : w.grownBy w' (some k)) (h1 : k ≠ b) : MapOf w' b g B N :=
  h.keep (hg.block b h.lt (fun e => h1 (by injection e with e; exact e.symm)))
theorem below_grown {w w1 w2 : World} {b k : Nat} (h : Below b w w1) (hg : w1.grownBy w2 (some k)) (hk : b ≤ k) (hb : b ≤ w.heap.size) : Below b w w2 :=
  h.trans ⟨hg.os, hg.tape, hg.output, hg.size, fun i hi => hg.block i (Nat.lt_of_lt_of_le hi (Nat.le_trans hb h.size)) (fun e => by injection e with e; omega)⟩
theorem MapOf.range {w : World} {b : Nat} {g : Nat → Int → Nat} {B : Int} {N : Nat} (h : MapOf w b g B N) :
    ∃ w' n, (Instr.range 70 (.map (some b))).run Tryd.prog w = .ok (.pointer (some ⟨w.heap.size, 0, none⟩)) w' ∧ Rng w' b w.heap.size g g B N n ∧ n ≤ N ∧ Below w.heap.size w w' ∧ w'.heap.size = w.heap.size + 1 := by
  have hlt := h.lt
  obtain ⟨es, clock, hb, he⟩ := h
  refine ⟨_, es.size, run_range_map w _ _ _ b es clock kv_map hb, ⟨es, clock, clock, #[], clock, ((MapKept.heap_alloc w _).2 b hlt).trans hb, he, (MapKept.heap_alloc w _).1, he.st.1, Nat.le_refl _, Nat.le_refl _, ?_, ?_, he.non⟩, he.size, (Below.refl _ _).alloc (Nat.le_refl _) _, by simp⟩
  · simp [leftOf]
  · intro e _ c v _
    simp
theorem Rng.next {w : World} {b r : Nat} {g rem : Nat → Int → Nat} {B : Int} {N n : Nat} (h : Rng w b r g rem B N n) (ty : TypeId) :
    (n = 0 ∧ (∀ c v, c < 7 → rem c v = 0) ∧ (Instr.next (.pointer (some ⟨r, 0, none⟩)) false ty).run Tryd.prog w = .ok (.tuple #[.bool false]) w) ∨
    ∃ (c : Nat) (v : Int) (w' : World) (n' : Nat), c < 7 ∧ -B ≤ v ∧ v ≤ B ∧ rem c v = g c v ∧ (Instr.next (.pointer (some ⟨r, 0, none⟩)) false ty).run Tryd.prog w = .ok (.tuple #[.bool true, kv c v, .int .i64 (g c v : Nat)]) w' ∧
      Rng w' b r g (upd rem c v 0) B N n' ∧ n' < n ∧ w.grownBy w' (some r) ∧ w'.heap.size = w.heap.size ∧ (Instr.entry (.pointer (some ⟨r, 0, none⟩))).run Tryd.prog w' = .ok (.tuple #[kv c v, .int .i64 (g c v : Nat)]) w' := by
  obtain ⟨es, clock, since, seen, c0, hb, he, hr, hold, hsc, hsk, hn, hl1, hl2⟩ := h
  have hne : r ≠ b := by rintro rfl; rw [hb] at hr; injection hr with hr; cases hr
  rcases run_next_at (P := Tryd.prog) w ty r b since c0 seen es clock hr hb hold hsc with ⟨h0, hrun⟩ | ⟨e, hel, w1, hal, hrun⟩
  · refine Or.inl ⟨by omega, fun c v hc => ?_, hrun⟩
    by_cases hx : ∃ e ∈ es.toList, e.key = kv c v
    · obtain ⟨e, hm, hk⟩ := hx
      rw [hl1 e hm c v hk, if_pos (all_seen es seen h0 e hm)]
    · exact hl2 c v hc (fun e hm hk => hx ⟨e, hm, hk⟩)
  · obtain ⟨hem, hes⟩ := mem_left hel
    obtain ⟨c, v, hc, hb0, hb1, hk, hv⟩ := he.ent e hem
    have hr1 : w1.heap[r]? = some (.mapIter (some b) since seen c0) := by rcases hal with rfl | rfl <;> exact hr
    have hb1' : w1.heap[b]? = some (.map es clock) := by rcases hal with rfl | rfl <;> exact hb
    have hset := MapKept.heap_set (o' := .mapIter (some b) since (seen.push e.born) clock) hr1
    have hb' : (setBlock w1 r (.mapIter (some b) since (seen.push e.born) clock)).heap[b]? = some (.map es clock) := (hset.2 b (fun e1 => hne e1.symm)).trans hb1'
    have hrem : rem c v = g c v := by rw [hl1 e hem c v hk, hes]; simp
    have hen := run_entry_at (P := Tryd.prog) _ r b since seen es clock e hset.1 hb' hem he.st.2.1
    rw [hk, hv] at hrun hen
    refine Or.inr ⟨c, v, _, _, hc, hb0, hb1, hrem, hrun, ⟨es, clock, since, seen.push e.born, clock, hb', he, hset.1, hold, hsk, hsk, rfl, fun x hx c' v' hk' => ?_, fun c' v' hc' hno => ?_⟩, by rw [← hn]; exact left_shrinks es seen e hel, ?_, ?_, hen⟩
    · rw [contains_push]
      by_cases hcv : c' = c ∧ v' = v
      · obtain ⟨rfl, rfl⟩ := hcv
        have hxe : x = e := by
          refine entry_eq_of_key ((MapKept.stamped_iff es clock).1 he.st).2.2 hx hem (by rw [hk', hk])
        subst hxe
        rw [upd_same]
        simp
      · rw [upd_other rem 0 hcv, hl1 x hx c' v' hk']
        have hbn : (x.born == e.born) = false := by
          refine beq_eq_false_iff_ne.2 (fun hh => hcv ?_)
          obtain rfl := born_inj he.st.2.1 hx hem hh
          rw [hk'] at hk
          exact kv_inj.1 hk
        rw [hbn, Bool.or_false]
    · have hcv : ¬ (c' = c ∧ v' = v) := by rintro ⟨rfl, rfl⟩; exact hno e hem hk
      rw [upd_other rem 0 hcv]; exact hl2 c' v' hc' hno
    · rcases hal with rfl | rfl <;> exact ⟨rfl, rfl, rfl, by simp [setBlock], fun i _ hi => hset.2 i (fun e1 => hi (by rw [e1]))⟩
    · rcases hal with rfl | rfl <;> simp [setBlock]
end Go.Proofs.YthgagidpnnaajaaDoor
