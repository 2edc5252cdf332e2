/- A map keyed by a loose text: mapUpdate, mapEntry, entryStore. -/
import Derived.Test.YthgagidpnnaajaaDoorMB
import Derived.WideKeyEntry
namespace Go.Proofs.YthgagidpnnaajaaDoor
open Go.RowKit
open Go.ChangeMaps (setBlock)
set_option linter.unusedVariables false
set_option maxRecDepth 100000
/-- g with x at (c, v) -/
def upd (g : Nat → Int → Nat) (c : Nat) (v : Int) (x : Nat) : Nat → Int → Nat := fun c' v' => if c' = c ∧ v' = v then x else g c' v'
theorem upd_same (g : Nat → Int → Nat) (c : Nat) (v : Int) (x : Nat) : upd g c v x c v = x := by simp [upd]
theorem upd_other (g : Nat → Int → Nat) {c c' : Nat} {v v' : Int} (x : Nat) (h : ¬ (c' = c ∧ v' = v)) : upd g c v x c' v' = g c' v' := by simp [upd, h]
theorem Ent.push {es : Array MapEntry} {clock : Nat} {g : Nat → Int → Nat} {B : Int} {N : Nat} (h : Ent es clock g B N) (c : Nat) (v : Int) (x : Nat) (hc : c < 7) (h0 : -B ≤ v) (h1 : v ≤ B) (hn : ∀ e ∈ es.toList, e.key ≠ kv c v) :
    Ent (es.push ⟨kv c v, .int .i64 (x : Nat), clock⟩) (clock + 1) (upd g c v x) B (N + 1) := by
  refine ⟨MapKept.stamped_push h.st hn, by have := h.size; simp; omega, h.bd, fun e he => ?_, fun c' v' hc' hno => ?_⟩
  · simp only [Array.toList_push, List.mem_append, List.mem_singleton] at he
    rcases he with he | rfl
    · obtain ⟨c', v', hc', h0', h1', hk, hv⟩ := h.ent e he
      refine ⟨c', v', hc', h0', h1', hk, ?_⟩
      rw [hv, upd_other g x (fun hh => hn e he (by rw [hk, hh.1, hh.2]))]
    · exact ⟨c, v, hc, h0, h1, rfl, by rw [upd_same]⟩
  · have hne : ¬ (c' = c ∧ v' = v) := fun hh => hno ⟨kv c v, .int .i64 (x : Nat), clock⟩ (by simp) (by rw [hh.1, hh.2])
    rw [upd_other g x hne]
    exact h.non c' v' hc' (fun e he => hno e (by simp at he ⊢; exact Or.inl he))
theorem Ent.set {es : Array MapEntry} {clock : Nat} {g : Nat → Int → Nat} {B : Int} {N : Nat} (h : Ent es clock g B N) (c : Nat) (v : Int) (x : Nat) {j : Nat} {e0 : MapEntry} (hj : es[j]? = some e0) (hk : e0.key = kv c v) :
    Ent (es.modify j fun e => { e with val := .int .i64 (x : Nat) }) clock (upd g c v x) B N := by
  have hm0 : e0 ∈ es.toList := Array.mem_toList_iff.2 (Array.mem_of_getElem? hj)
  obtain ⟨hc, h0, h1, hv0⟩ := h.at hm0 hk
  have hkeys := MapKept.modify_keys (es := es) j (fun e => { e with val := .int .i64 (x : Nat) }) (fun _ _ => rfl)
  refine ⟨MapKept.stamped_modify h.st j _ (fun _ _ => rfl) (fun _ _ _ => rfl), by simpa using h.size, h.bd, fun e he => ?_, fun c' v' hc' hno => ?_⟩
  · obtain ⟨i, hi⟩ := Array.getElem?_of_mem (Array.mem_toList_iff.1 he)
    rw [Array.getElem?_modify] at hi
    by_cases hij : j = i
    · subst hij
      rw [if_pos rfl, hj] at hi
      simp at hi
      subst hi
      exact ⟨c, v, hc, h0, h1, hk, by rw [upd_same]⟩
    · rw [if_neg hij] at hi
      have hmi : e ∈ es.toList := Array.mem_toList_iff.2 (Array.mem_of_getElem? hi)
      obtain ⟨c', v', hc', h0', h1', hk', hv⟩ := h.ent e hmi
      refine ⟨c', v', hc', h0', h1', hk', ?_⟩
      rw [hv, upd_other g x]
      rintro ⟨rfl, rfl⟩
      have hnd := h.st.2.2
      refine hij ((List.getElem?_inj (l := es.toList.map (·.key)) (i := j) (j := i) ?_ hnd).1 ?_)
      · have := (Array.getElem?_eq_some_iff.1 hj).1
        simpa using this
      · simp [hj, hi, hk, hk']
  · have hne : ¬ (c' = c ∧ v' = v) := by
      rintro ⟨rfl, rfl⟩
      have hm : kv c' v' ∈ (es.modify j fun e => { e with val := .int .i64 (x : Nat) }).toList.map (·.key) := by rw [hkeys]; exact List.mem_map.2 ⟨e0, hm0, hk⟩
      obtain ⟨y, hy, e⟩ := List.mem_map.1 hm
      exact hno y hy e
    rw [upd_other g x hne]
    refine h.non c' v' hc' (fun e he hke => ?_)
    have hm : kv c' v' ∈ (es.modify j fun e => { e with val := .int .i64 (x : Nat) }).toList.map (·.key) := by rw [hkeys]; exact List.mem_map.2 ⟨e, he, hke⟩
    obtain ⟨y, hy, e⟩ := List.mem_map.1 hm
    exact hno y hy e
/-- MapOf, and the entry (c, v) is there, with the stamp st -/
def MapSt (w : World) (b : Nat) (g : Nat → Int → Nat) (B : Int) (N c : Nat) (v : Int) (st : Nat) : Prop :=
  ∃ es clock, w.heap[b]? = some (.map es clock) ∧ Ent es clock g B N ∧ ∃ (j : Nat) (e0 : MapEntry), es[j]? = some e0 ∧ e0.key = kv c v ∧ e0.born = st
theorem MapSt.of {w : World} {b : Nat} {g : Nat → Int → Nat} {B : Int} {N c : Nat} {v : Int} {st : Nat} (h : MapSt w b g B N c v st) : MapOf w b g B N := by
  obtain ⟨es, clock, hb, he, _⟩ := h; exact ⟨es, clock, hb, he⟩
theorem set_grown {w : World} {b : Nat} {es : Array MapEntry} {clock : Nat} (hb : w.heap[b]? = some (.map es clock)) (o : Obj) : w.grownBy (setBlock w b o) (some b) ∧ (setBlock w b o).heap.size = w.heap.size :=
  ⟨⟨rfl, rfl, rfl, by simp [setBlock], fun i _ hi => ChangeMaps.heap_setBlock_other hb _ (fun e => hi (by rw [e]))⟩, by simp [setBlock]⟩
theorem MapOf.insert {w : World} {b : Nat} {g : Nat → Int → Nat} {B : Int} {N : Nat} (h : MapOf w b g B N) (c : Nat) (v : Int) (x : Nat) (hc : c < 7) (h0 : -B ≤ v) (h1 : v ≤ B) (hg : N = 0) :
    ∃ w', (Instr.mapUpdate 70 (.map (some b)) (kv c v) (.int .i64 (x : Nat))).run Tryd.prog w = .ok () w' ∧ MapOf w' b (upd g c v x) B 1 ∧ w.grownBy w' (some b) ∧ w'.heap.size = w.heap.size := by
  obtain ⟨es, clock, hb, he⟩ := h
  have hbd := he.bd
  obtain ⟨l, hkey⟩ := kv_key c v hc (by omega) (by omega)
  have hes : es = #[] := Array.eq_empty_of_size_eq_zero (by have := he.size; omega)
  subst hes hg
  rcases kv_law.find w hkey (#[] : Array MapEntry).toList he.keys with ⟨h1', h2⟩ | ⟨j, e0, h1', h2, h3⟩
  · refine ⟨setBlock w b (.map ((#[] : Array MapEntry).push ⟨kv c v, .int .i64 (x : Nat), clock⟩) (clock + 1)), ?_, ⟨_, _, ChangeMaps.heap_setBlock_same hb _, he.push c v x hc h0 h1 (by simp)⟩, set_grown hb _⟩
    have h1'' : (Instr.findKey 47 (kv c v) []).run Tryd.prog w = .ok none w := h1'
    simp [Instr.mapUpdate, run_underlying kv_map, MapKept.run_getObj_map hb, kv_law.check w false hkey, h1'', MapKept.run_setObj_map _ hb, Result.andThen, setBlock]
  · simp at h2
theorem MapOf.entry {w : World} {b : Nat} {g : Nat → Int → Nat} {B : Int} {N : Nat} (h : MapOf w b g B N) (c : Nat) (v : Int) (hc : c < 7) (h0 : -B ≤ v) (h1 : v ≤ B) :
    ∃ (st : Nat) (w' : World), (Instr.mapEntry 70 (.map (some b)) (kv c v)).run Tryd.prog w = .ok (.tuple #[.int .i64 (g c v : Nat), goInt st]) w' ∧ MapSt w' b g B (N + 1) c v st ∧ w.grownBy w' (some b) ∧ w'.heap.size = w.heap.size := by
  obtain ⟨es, clock, hb, he⟩ := h
  have hbd := he.bd
  obtain ⟨l, hkey⟩ := kv_key c v hc (by omega) (by omega)
  rcases kv_law.find w hkey es.toList he.keys with ⟨h1', h2⟩ | ⟨j, e0, h1', h2, h3⟩
  · have hz := kv_zero w
    have hg0 := he.non c v hc h2
    refine ⟨clock, setBlock w b (.map (es.push ⟨kv c v, .int .i64 0, clock⟩) (clock + 1)), ?_, ⟨_, _, ChangeMaps.heap_setBlock_same hb _, (he.push c v 0 hc h0 h1 h2).congr (fun c' v' _ => ?_), es.size, ⟨kv c v, .int .i64 0, clock⟩, by simp, rfl, rfl⟩, set_grown hb _⟩
    · simp [Instr.mapEntry, run_underlying kv_map, MapKept.run_getObj_map hb, kv_law.check w false hkey, h1', hz, MapKept.run_setObj_map _ hb, Result.andThen, setBlock, hg0]
    · by_cases hh : c' = c ∧ v' = v
      · obtain ⟨rfl, rfl⟩ := hh; rw [upd_same, hg0]
      · rw [upd_other g 0 hh]
  · have hm0 : e0 ∈ es.toList := List.mem_of_getElem? h2
    have hv := (he.at hm0 h3).2.2.2
    have hj : es[j]? = some e0 := by simpa using h2
    have hsame : es.modify j (fun e => { e with key := kv c v }) = es := by
      apply Array.ext'
      rw [Array.toList_modify, ChangeMaps.modify_eq_set _ _ _ _ h2]
      have : ({ e0 with key := kv c v } : MapEntry) = e0 := by rw [← h3]
      rw [this]
      exact WideElems.set_self _ _ _ h2
    have hst := kv_law.stays w hkey
    refine ⟨e0.born, setBlock w b (.map es clock), ?_, ⟨_, _, ChangeMaps.heap_setBlock_same hb _, ⟨he.st, Nat.le_succ_of_le he.size, he.bd, he.ent, he.non⟩, j, e0, hj, h3, rfl⟩, set_grown hb _⟩
    simp [Instr.mapEntry, run_underlying kv_map, MapKept.run_getObj_map hb, kv_law.check w false hkey, h1', hj, h3, hst, hsame, MapKept.run_setObj_map _ hb, Result.andThen, setBlock, hv]
theorem MapSt.store {w : World} {b : Nat} {g : Nat → Int → Nat} {B : Int} {N c : Nat} {v : Int} {st : Nat} (h : MapSt w b g B N c v st) (x : Nat) :
    ∃ w', (Instr.entryStore 70 (.map (some b)) (goInt st) (.int .i64 (x : Nat))).run Tryd.prog w = .ok () w' ∧ MapOf w' b (upd g c v x) B N ∧ w.grownBy w' (some b) ∧ w'.heap.size = w.heap.size := by
  obtain ⟨es, clock, hb, he, j, e0, hj, hk, rfl⟩ := h
  have hidx : es.findIdx? (fun e => ((e.born : Nat) : Int) == ((e0.born : Nat) : Int)) = some j := by
    rw [WideElems.findIdx_arr]
    exact WideElems.findIdx_born he.st.2.1 (by simpa using hj)
  refine ⟨setBlock w b (.map (es.modify j fun e => { e with val := .int .i64 (x : Nat) }) clock), ?_, ⟨_, _, ChangeMaps.heap_setBlock_same hb _, he.set c v x hj hk⟩, set_grown hb _⟩
  simp [Instr.entryStore, MapKept.run_getObj_map hb, asInt, asIntOf, goInt, hidx, MapKept.run_setObj_map _ hb, Result.andThen, setBlock]
end Go.Proofs.YthgagidpnnaajaaDoor
