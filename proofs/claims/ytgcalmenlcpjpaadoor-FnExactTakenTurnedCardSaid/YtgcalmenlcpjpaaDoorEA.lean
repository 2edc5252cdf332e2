/- errors.As at a variable of the program's own error type noValue: by its contracts, walked over Go's own text (after the guide's worked example on errors.As). -/
import Derived.Test.YtgcalmenlcpjpaaDoorK2
import Derived.Test.YtgcalmenlcpjpaaDoorRows
import Derived.LaidEql
import Derived.Stop.Asserts
import Derived.RowKitTokens
import Derived.Deep.MidRow
namespace Go.Proofs.YtgcalmenlcpjpaaDoor
open Go.RowKit Go.Extern.Stop Go.Stop Go.Extern
set_option linter.unusedVariables false
set_option maxRecDepth 100000
/-- what the variable errors.errorType holds -/
def GV (w : World) : Prop := w.cell? ⟨0, 0, none⟩ = some (.iface 103 (.agg #[.pointer (some ⟨1, 43, none⟩)]))
theorem GV.lt {w : World} (h : GV w) : 0 < w.heap.size := World.block_lt_of_cell? w ⟨0, 0, none⟩ h
theorem GV.step {w w' : World} (h : GV w) (hb : Below w.heap.size w w') : GV w' := (hb.cell (p := ⟨0, 0, none⟩) h.lt).trans h
theorem GV.stepB {B : Nat} {w w' : World} (h : GV w) (hb : Below B w w') (hB : w.heap.size ≤ B) : GV w' := (hb.cell (p := ⟨0, 0, none⟩) (Nat.lt_of_lt_of_le h.lt hB)).trans h
/-- an error of the program's own -/
def errV (s : ByteArray) : Value := .iface 76 (.agg #[.string s])
theorem as_nil (t : Value) (w : World) : Calls Tryd.prog 65 #[.nilIface, t] w fun e w' => e = .returned (.bool false) ∧ w = w' := by
  go_enter Tryd.func65, Tryd.ntmps65
  go_wp2
  go_ret
  exact ⟨rfl, rfl⟩
abbrev hPtr : Value := .pointer (some ⟨1, 78, none⟩)
abbrev hVal : Value := .pointer (some ⟨1, 76, none⟩)
theorem valueOfP (t : Addr) (w : World) : (ReflectliteValue.unpack (.iface 78 (.pointer (some t)))).run Tryd.prog w
    = .ok (.agg #[hPtr, .pointer (some ⟨w.heap.size, 0, none⟩), .int .u64 150]) (w.alloc (.cells #[.pointer (some t)] 78)) := by kernel_rfl
theorem typeP (a : Addr) (w : World) : (ReflectliteValue.methodAny (ReflectliteValue.valueError "reflectlite.Value.Type" 0) (fun t _ _ _ => ReflectliteType.toType t) #[.agg #[hPtr, .pointer (some a), .int .u64 150]]).run Tryd.prog w
    = .ok (.iface 103 (.agg #[hPtr])) w := by kernel_rfl
theorem methodKind (h : Value) (w : World) : (Go.method 245 103 (.agg #[h]) "Kind").run Tryd.prog w = .ok (92, h) w := by kernel_rfl
theorem kindP (w : World) : ((ReflectliteType.abiMethod fun t => Functor.map (fun a : Nat => Value.int IntKind.u8 (a : Int)) (Rtype.kind t)) #[hPtr]).run Tryd.prog w = .ok (.int .u8 22) w := by kernel_rfl
theorem kindV (w : World) : ((ReflectliteType.abiMethod fun t => Functor.map (fun a : Nat => Value.int IntKind.u8 (a : Int)) (Rtype.kind t)) #[hVal]).run Tryd.prog w = .ok (.int .u8 25) w := by kernel_rfl
theorem valueOfV (s : ByteArray) (w : World) : (ReflectliteValue.unpack (errV s)).run Tryd.prog w
    = .ok (.agg #[hVal, .pointer (some ⟨w.heap.size, 0, none⟩), .int .u64 153]) (w.alloc (.cells #[.string s] 76)) := by kernel_rfl
theorem partsP (a : Addr) (w : World) : (ReflectliteValue.parts (.agg #[hPtr, .pointer (some a), .int .u64 150])).run Tryd.prog w = .ok (some (78, a, 150)) w := by kernel_rfl
theorem isNilP (a p : Addr) (W : World) (ha : W.cell? a = some (.pointer (some p))) :
    (ReflectliteValue.method (ReflectliteValue.valueError "reflectlite.Value.IsNil" 0) ReflectliteValue.isNil #[.agg #[hPtr, .pointer (some a), .int .u64 150]]).run Tryd.prog W = .ok (.bool false) W := by
  refine (congrArg (fun s : Sem Value => Sem.run Tryd.prog s W) (show _ = (ReflectliteValue.parts (.agg #[hPtr, .pointer (some a), .int .u64 150]) >>= _) from rfl)).trans ?_
  simp only [Sem.run_bind, partsP, Result.andThen]
  simp [ReflectliteValue.isNil, loadVar, isAgg, underlying, Tryd.underlying78, ha, Result.andThen]
theorem methodElem (h : Value) (w : World) : (Go.method 245 103 (.agg #[h]) "Elem").run Tryd.prog w = .ok (102, .agg #[h]) w := by kernel_rfl
theorem methodImplements (h : Value) (w : World) : (Go.method 245 103 (.agg #[h]) "Implements").run Tryd.prog w = .ok (103, .agg #[h]) w := by kernel_rfl
theorem methodAssignableTo (h : Value) (w : World) : (Go.method 245 103 (.agg #[h]) "AssignableTo").run Tryd.prog w = .ok (100, .agg #[h]) w := by kernel_rfl
theorem elemP (w : World) : (ReflectliteType.method ReflectliteType.elem #[.agg #[hPtr]]).run Tryd.prog w = .ok (.iface 103 (.agg #[hVal])) w := by kernel_rfl
theorem implementsV (w : World) : (ReflectliteType.relation "Implements" ReflectliteType.implements_ #[.agg #[hVal], .iface 103 (.agg #[.pointer (some ⟨1, 43, none⟩)])]).run Tryd.prog w = .ok (.bool true) w := by kernel_rfl
theorem typeOfV (v : Value) (w : World) : (ReflectliteType.typeOf #[.iface 76 v]).run Tryd.prog w = .ok (.iface 103 (.agg #[hVal])) w := by kernel_rfl
theorem assignableV (w : World) : (ReflectliteType.relation "AssignableTo" ReflectliteType.assignableTo #[.agg #[hVal], .iface 103 (.agg #[hVal])]).run Tryd.prog w = .ok (.bool true) w := by kernel_rfl
theorem elemOfP (w : World) : (Rtype.elem? 78).run Tryd.prog w = .ok (some 76) w := by kernel_rfl
theorem mkV (p : Addr) (w : World) : (ReflectliteValue.mk 76 p ReflectliteValue.flagAddr).run Tryd.prog w = .ok (.agg #[hVal, .pointer (some p), .int .u64 409]) w := by kernel_rfl
theorem elemVP (a p : Addr) (W : World) (ha : W.cell? a = some (.pointer (some p))) :
    (ReflectliteValue.method (ReflectliteValue.valueError "reflectlite.Value.Elem" 0) ReflectliteValue.elem #[.agg #[hPtr, .pointer (some a), .int .u64 150]]).run Tryd.prog W
      = .ok (.agg #[hVal, .pointer (some p), .int .u64 409]) W := by
  refine (congrArg (fun s : Sem Value => Sem.run Tryd.prog s W) (show _ = (ReflectliteValue.parts (.agg #[hPtr, .pointer (some a), .int .u64 150]) >>= _) from rfl)).trans ?_
  simp only [Sem.run_bind, partsP, Result.andThen]
  simp [ReflectliteValue.elem, loadVar, isAgg, underlying, Tryd.underlying78, ha, Result.andThen, elemOfP, mkV]
theorem partsVa (a : Addr) (w : World) : (ReflectliteValue.parts (.agg #[hVal, .pointer (some a), .int .u64 409])).run Tryd.prog w = .ok (some (76, a, 409)) w := by kernel_rfl
theorem partsV (a : Addr) (w : World) : (ReflectliteValue.parts (.agg #[hVal, .pointer (some a), .int .u64 153])).run Tryd.prog w = .ok (some (76, a, 153)) w := by kernel_rfl
theorem directV (w : World) : (Rtype.directlyAssignable 76 76).run Tryd.prog w = .ok true w := by kernel_rfl
theorem sizeV : (Tryd.prog.info? 76).map (·.size) = some 1 := by kernel_rfl
theorem setV (tb b : Nat) (s old : ByteArray) (W : World) (hb : W.heap[b]? = some (.cells #[.string s] 76 (0, 0))) (ht : W.heap[tb]? = some (.cells #[.string old] 76 (0, 0))) :
    (ReflectliteValue.set #[.agg #[hVal, .pointer (some ⟨tb, 0, none⟩), .int .u64 409], .agg #[hVal, .pointer (some ⟨b, 0, none⟩), .int .u64 153]]).run Tryd.prog W
      = .ok (.tuple #[]) (W.setCell ⟨tb, 0, none⟩ (.string s)) := by
  have hl := run_loadVar_row (P := Tryd.prog) W b 76 76 #[.string s] (0, 0) _ hb Tryd.underlying76 rfl sizeV
  have hst : (storeVar 76 ⟨tb, 0, none⟩ (.agg #[.string s])).run Tryd.prog W = .ok () (W.setCell ⟨tb, 0, none⟩ (.string s)) := by
    have h := run_storeVar_mid (P := Tryd.prog) W tb 0 76 #[.string s] (fun j hj => by
      have hj0 : j = 0 := by simp at hj; omega
      subst hj0
      have h1 : W.cell? ⟨tb, 0, none⟩ = some (.string old) := cell_at ht rfl
      have h2 : W.frozen? ⟨tb, 0, none⟩ = false := by simp [World.frozen?, ht]
      exact ⟨by rw [Nat.zero_add, h1]; rfl, by rw [Nat.zero_add]; exact h2⟩) sizeV (by simp [Value.oneCell'])
    exact h
  refine (congrArg (fun s : Sem Value => Sem.run Tryd.prog s W) (show _ = (ReflectliteValue.parts (.agg #[hVal, .pointer (some ⟨tb, 0, none⟩), .int .u64 409]) >>= fun _ => ReflectliteValue.parts (.agg #[hVal, .pointer (some ⟨b, 0, none⟩), .int .u64 153]) >>= _) from rfl)).trans ?_
  simp only [Sem.run_bind, partsVa, partsV, Result.andThen]
  simp [ReflectliteValue.flagAddr, Result.andThen, directV, hl, hst]
end Go.Proofs.YtgcalmenlcpjpaaDoor
