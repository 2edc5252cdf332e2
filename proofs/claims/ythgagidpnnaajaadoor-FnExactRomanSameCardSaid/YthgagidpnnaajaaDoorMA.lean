/- A map keyed by a loose text: its keys. -/
import Derived.Test.YthgagidpnnaajaaDoorQZ
import Derived.Maps.RangeRun
import Derived.Maps.Keyed
import Derived.DeepKeys4
namespace Go.Proofs.YthgagidpnnaajaaDoor
open Go.RowKit
set_option linter.unusedVariables false
set_option maxRecDepth 100000
/-- the key (c, v) -/
def kv (c : Nat) (v : Int) : Value := .agg #[.int .i64 c, .int .i64 v]
theorem kv_inj {c c' : Nat} {v v' : Int} : kv c v = kv c' v' ↔ c = c' ∧ v = v' := by
  unfold kv
  constructor
  · intro h
    injection h with h
    have h1 : (#[Value.int .i64 (c : Int), .int .i64 v]).toList = (#[Value.int .i64 (c' : Int), .int .i64 v']).toList := by rw [h]
    simp at h1
    exact ⟨by omega, h1.2⟩
  · rintro ⟨rfl, rfl⟩; rfl
theorem kv_law : WideMaps.KeyLaw Tryd.prog 47 := deep_law_laid (by kernel_rfl) (m := 2) (by omega) (of_decide_eq_true (by kernel_rfl)) (by kernel_rfl) (by kernel_rfl)
theorem kv_row : (47 : TypeId) < Tryd.prog.types.size := of_decide_eq_true (by kernel_rfl)
theorem lit_wf (v : Int) (h0 : -1000000 ≤ v) (h1 : v ≤ 1000000) : (Lit.int .i64 v).wf = true := by
  have e1 : IntKind.i64.min = -9223372036854775808 := rfl
  have e2 : IntKind.i64.max = 9223372036854775807 := rfl
  simp [Lit.wf, e1, e2]
  omega
theorem kv_type : Tryd.prog.keyType 47 = true := by kernel_rfl
theorem kv_cells : Tryd.prog.cellsOf 47 = 2 := by kernel_rfl
theorem kv_lits (d c : Nat) (v : Int) (hc : c < 7) (h0 : -1000000 ≤ v) (h1 : v ≤ 1000000) : Tryd.prog.keyLits (d + 2) 47 [.int .i64 c, .int .i64 v] = some [.int .i64 c, .int .i64 v] := by
  have w1 : (Lit.int .i64 (c : Int)).wf = true := lit_wf _ (by omega) (by omega)
  have w2 : (Lit.int .i64 v).wf = true := lit_wf _ (by omega) (by omega)
  have e1 : Tryd.prog.cellsOf 45 = 1 := by kernel_rfl
  have e2 : Tryd.prog.cellsOf 3 = 1 := by kernel_rfl
  simp [Program.keyLits, Tryd.underlying47, Tryd.underlying45, Tryd.underlying3, kv_cells, e1, e2, w1, w2]
theorem kv_key (c : Nat) (v : Int) (hc : c < 7) (h0 : -1000000 ≤ v) (h1 : v ≤ 1000000) : ∃ l, keyOf Tryd.prog 47 (kv c v) = some l := by
  have hf : (kv c v).formed Tryd.prog 47 = true := by simp [kv, Value.formed, Tryd.underlying47, kv_cells]
  unfold keyOf
  rw [Tryd.underlying47]
  simp only [kv_type, hf, Bool.and_self, if_true]
  obtain ⟨d, hd⟩ : ∃ d, Tryd.prog.types.size + 1 = d + 2 := ⟨Tryd.prog.types.size - 1, by have := Nat.lt_of_le_of_lt (Nat.zero_le _) kv_row; omega⟩
  rw [hd]
  have := kv_lits d c v hc h0 h1
  exact ⟨_, by show Option.map _ (Tryd.prog.keyLits (d + 2) 47 [.int .i64 c, .int .i64 v]) = _; rw [this]; rfl⟩
end Go.Proofs.YthgagidpnnaajaaDoor
