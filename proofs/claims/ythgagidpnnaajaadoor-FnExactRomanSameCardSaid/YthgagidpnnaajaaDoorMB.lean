/- A map keyed by a loose text: a word on its block (MapOf), a word on a range under way (Rng), and laws on the runs. -/
import Derived.Test.YthgagidpnnaajaaDoorMA
namespace Go.Proofs.YthgagidpnnaajaaDoor
open Go.RowKit
open Go.ChangeMaps (setBlock)
set_option linter.unusedVariables false
set_option maxRecDepth 100000
/-- the entries es: their counts are g -/
structure Ent (es : Array MapEntry) (clock : Nat) (g : Nat → Int → Nat) (B : Int) (N : Nat) : Prop where
  st : MapKept.Stamped es clock
  size : es.size ≤ N
  bd : B ≤ 1000000
  ent : ∀ e ∈ es.toList, ∃ (c : Nat) (v : Int), c < 7 ∧ -B ≤ v ∧ v ≤ B ∧ e.key = kv c v ∧ e.val = .int .i64 (g c v : Nat)
  non : ∀ (c : Nat) (v : Int), c < 7 → (∀ e ∈ es.toList, e.key ≠ kv c v) → g c v = 0
/-- block b of w: a map of at most N entries whose count at (c, v) is g c v -/
def MapOf (w : World) (b : Nat) (g : Nat → Int → Nat) (B : Int) (N : Nat) : Prop := ∃ es clock, w.heap[b]? = some (.map es clock) ∧ Ent es clock g B N
theorem Ent.congr {es : Array MapEntry} {clock : Nat} {g g' : Nat → Int → Nat} {B : Int} {N : Nat} (h : Ent es clock g B N) (hg : ∀ c v, c < 7 → g c v = g' c v) : Ent es clock g' B N :=
  ⟨h.st, h.size, h.bd, fun e he => by obtain ⟨c, v, hc, h0, h1, hk, hv⟩ := h.ent e he; exact ⟨c, v, hc, h0, h1, hk, by rw [hv, hg c v hc]⟩, fun c v hc hn => by rw [← hg c v hc]; exact h.non c v hc hn⟩
theorem MapOf.congr {w : World} {b : Nat} {g g' : Nat → Int → Nat} {B : Int} {N : Nat} (h : MapOf w b g B N) (hg : ∀ c v, c < 7 → g c v = g' c v) : MapOf w b g' B N := by
  obtain ⟨es, clock, hb, he⟩ := h; exact ⟨es, clock, hb, he.congr hg⟩
theorem MapOf.mono {w : World} {b : Nat} {g : Nat → Int → Nat} {B B' : Int} {N N' : Nat} (h : MapOf w b g B N) (hB : B ≤ B') (hB' : B' ≤ 1000000) (hN : N ≤ N') : MapOf w b g B' N' := by
  obtain ⟨es, clock, hb, he⟩ := h
  exact ⟨es, clock, hb, he.st, Nat.le_trans he.size hN, hB', fun e hm => by obtain ⟨c, v, hc, h0, h1, hk, hv⟩ := he.ent e hm; exact ⟨c, v, hc, by omega, by omega, hk, hv⟩, he.non⟩
theorem MapOf.keep {w w' : World} {b : Nat} {g : Nat → Int → Nat} {B : Int} {N : Nat} (h : MapOf w b g B N) (hw : w'.heap[b]? = w.heap[b]?) : MapOf w' b g B N := by
  obtain ⟨es, clock, hb, he⟩ := h; exact ⟨es, clock, hw.trans hb, he⟩
theorem MapOf.lt {w : World} {b : Nat} {g : Nat → Int → Nat} {B : Int} {N : Nat} (h : MapOf w b g B N) : b < w.heap.size := by
  obtain ⟨es, clock, hb, he⟩ := h; exact (Array.getElem?_eq_some_iff.1 hb).1
theorem MapOf.below {w w' : World} {b : Nat} {g : Nat → Int → Nat} {B : Int} {N : Nat} (h : MapOf w b g B N) (hw : Below w.heap.size w w') : MapOf w' b g B N := h.keep (hw.block b h.lt)
theorem MapOf.alloc {w : World} {b : Nat} {g : Nat → Int → Nat} {B : Int} {N : Nat} (h : MapOf w b g B N) (o : Obj) : MapOf (w.alloc o) b g B N := h.below ((Below.refl _ _).alloc (Nat.le_refl _) _)
theorem MapOf.drew {w : World} {b : Nat} {g : Nat → Int → Nat} {B : Int} {N : Nat} (h : MapOf w b g B N) : MapOf w.drew b g B N := h
theorem Ent.keys {es : Array MapEntry} {clock : Nat} {g : Nat → Int → Nat} {B : Int} {N : Nat} (h : Ent es clock g B N) : ∀ e ∈ es.toList, ∃ l, keyOf Tryd.prog 47 e.key = some l := by
  intro e he
  obtain ⟨c, v, hc, h0, h1, hk, _⟩ := h.ent e he
  have := h.bd
  rw [hk]; exact kv_key c v hc (by omega) (by omega)
theorem Ent.at {es : Array MapEntry} {clock : Nat} {g : Nat → Int → Nat} {B : Int} {N : Nat} (h : Ent es clock g B N) {e : MapEntry} (he : e ∈ es.toList) {c : Nat} {v : Int} (hk : e.key = kv c v) : c < 7 ∧ -B ≤ v ∧ v ≤ B ∧ e.val = .int .i64 (g c v : Nat) := by
  obtain ⟨c', v', hc, h0, h1, hk', hv⟩ := h.ent e he
  rw [hk'] at hk
  obtain ⟨rfl, rfl⟩ := kv_inj.1 hk
  exact ⟨hc, h0, h1, hv⟩
theorem mapOf_made (w : World) (B : Int) (hB : B ≤ 1000000) : MapOf (w.alloc (.map #[] 0)) w.heap.size (fun _ _ => 0) B 0 :=
  ⟨#[], 0, (MapKept.heap_alloc w _).1, MapKept.stamped_empty 0, Nat.le_refl _, hB, by simp, fun _ _ _ _ => rfl⟩
/-- the map's type, its underlying type -/
theorem kv_map : Tryd.prog.underlying 70 = some (.map 47 3) := Tryd.underlying70
theorem kv_zero (w : World) : (zeroValue 3).run Tryd.prog w = .ok (.int .i64 0) w := by kernel_rfl
theorem MapOf.lookup {w : World} {b : Nat} {g : Nat → Int → Nat} {B : Int} {N : Nat} (h : MapOf w b g B N) (c : Nat) (v : Int) (hc : c < 7) (h0 : -1000000 ≤ v) (h1 : v ≤ 1000000) :
    (Instr.lookup 70 (.map (some b)) (kv c v) false).run Tryd.prog w = .ok (.int .i64 (g c v : Nat)) w := by
  obtain ⟨es, clock, hb, he⟩ := h
  obtain ⟨l, hkey⟩ := kv_key c v hc h0 h1
  rcases kv_law.find w hkey es.toList he.keys with ⟨h1, h2⟩ | ⟨j, e0, h1, h2, h3⟩
  · have hz := kv_zero w
    have h0 := he.non c v hc h2
    simp [Instr.lookup, run_underlying kv_map, MapKept.run_getObj_map hb, kv_law.check w _ hkey, h1, hz, Result.andThen, h0]
  · have hm0 : e0 ∈ es.toList := List.mem_of_getElem? h2
    have hv := (he.at hm0 h3).2.2.2
    simp [Instr.lookup, run_underlying kv_map, MapKept.run_getObj_map hb, kv_law.check w _ hkey, h1, Result.andThen, hv]
/-- clear -/
theorem MapOf.clear {w : World} {b : Nat} {g : Nat → Int → Nat} {B : Int} {N : Nat} (h : MapOf w b g B N) (ty : TypeId) :
    ∃ w', (Builtin.clear_ #[70] ty #[.map (some b)]).run Tryd.prog w = .ok (.tuple #[]) w' ∧ MapOf w' b (fun _ _ => 0) B 0 ∧ w.grownBy w' (some b) ∧ w'.heap.size = w.heap.size := by
  obtain ⟨es, clock, hb, he⟩ := h
  refine ⟨setBlock w b (.map #[] clock), ?_, ⟨#[], clock, ChangeMaps.heap_setBlock_same hb _, MapKept.stamped_empty _, Nat.le_refl _, he.bd, by simp, fun _ _ _ _ => rfl⟩, ⟨rfl, rfl, rfl, by simp [setBlock], fun i _ hi => ChangeMaps.heap_setBlock_other hb _ (fun e => hi (by rw [e]))⟩, by simp [setBlock]⟩
  simp [Builtin.clear_, run_underlying kv_map, MapKept.run_getObj_map hb, MapKept.run_setObj_map _ hb, Result.andThen, setBlock]
end Go.Proofs.YthgagidpnnaajaaDoor
