/- Several texts of mine, one after another: Sh, BO, BT, CT, CU, CP, CQ, CZ, UT, UL, UN. -/
import Derived.Shelf.Strings.Builder1
import Derived.Shelf.Strings.Builder2
import Derived.Shelf.Strings.OnBuilder
import Derived.Shelf.LaysM
import Derived.Shelf.Strconv.Itoa3
import Derived.Shelf.Bits.Mul64
import Derived.Shelf.Strings.Repeat
import Derived.Test.YtalnojpdkiimpaaDoorProg
import Derived.Test.YtalnojpdkiimpaaDoorMg1
import Derived.Test.YtalnojpdkiimpaaDoorMg2
import Derived.Deep.RegionLaw
import Derived.Deep.AppendLies
import Derived.Laws.OwnMore
import Derived.Lib.SlTrimSet
import Derived.Lib.Repeat
import Derived.Lib.Join
import Derived.Lib.Split
import Derived.Lib.IndexLaws
import Derived.Lib.IndexBytes
import Derived.Laws.CopyOwn
import Derived.Test.YtalnojpdkiimpaaDoorRows
import Derived.ProofKit
import Derived.LaidMore
import Derived.OpenShut
import Derived.Stop.Joined
import Derived.MakeChecks
import Derived.WalkSmall
import Derived.ChangeVars
import Derived.Below
import Derived.Lib.Strings
import Derived.Lib.Bytealg
import Derived.StillTailTactics
import Derived.BigQuiet
/- Contracts of the library's functions, at this program's numbers. -/
namespace Go.Proofs
open Go.Shelf
def Tryd.lays170_ren : Go.Shelf.Ren := ⟨fun | 170 => 72 | n => n, fun | 70 => 81 | 3 => 3 | 0 => 0 | 72 => 83 | 37 => 22 | 5 => 5 | n => n, fun | n => n⟩
theorem Tryd.lays170 : Go.Proofs.Lays.n170 Tryd.prog Tryd.lays170_ren := {
  mixed := by kernel_rfl
  f170 := Tryd.func72.trans (congrArg some (by kernel_rfl))
  t0 := Tryd.underlying0
  a0 := Tryd.isAgg0
  z0 := Tryd.sizeOf0
  v0 := Tryd.zeroValue0
  t3 := Tryd.underlying3
  a3 := Tryd.isAgg3
  z3 := Tryd.sizeOf3
  v3 := Tryd.zeroValue3
  t37 := Tryd.underlying22
  a37 := Tryd.isAgg22
  z37 := Tryd.sizeOf22
  v37 := Tryd.zeroValue22
  t70 := Tryd.underlying81
  a70 := Tryd.isAgg81
  z70 := Tryd.sizeOf81
  v70 := Tryd.zeroValue81
  t72 := Tryd.underlying83
  a72 := Tryd.isAgg83
  z72 := Tryd.sizeOf83
  v72 := Tryd.zeroValue83 }
open Go.RowKit in
/-- (*strings.Builder).Len: "Len returns the number of accumulated bytes; b.Len() == len(b.String()).": the world is as it was. (LAID: no walk: one application.) -/
theorem Tryd.Builder_Len (B b : Nat) (bs : List Value) (w : World) (h : Lib.IsBuilder 83 5 B b bs w) :
    Calls Tryd.prog 72 #[.pointer (some ⟨b, 0, none⟩)] w fun e w' => e = .returned (.int .i64 bs.length) ∧ w' = w := Any.Builder_Len Tryd.lays170 B b bs w h
def Tryd.lays169_ren : Go.Shelf.Ren := ⟨fun | 169 => 65 | n => n, fun | 70 => 81 | 9 => 9 | 0 => 0 | 72 => 83 | 37 => 22 | 127 => 95 | 3 => 3 | 5 => 5 | n => n, fun | n => n⟩
theorem Tryd.lays169 : Go.Proofs.Lays.n169 Tryd.prog Tryd.lays169_ren := {
  mixed := by kernel_rfl
  f169 := Tryd.func65.trans (congrArg some (by kernel_rfl))
  t0 := Tryd.underlying0
  a0 := Tryd.isAgg0
  z0 := Tryd.sizeOf0
  v0 := Tryd.zeroValue0
  t3 := Tryd.underlying3
  a3 := Tryd.isAgg3
  z3 := Tryd.sizeOf3
  v3 := Tryd.zeroValue3
  t9 := Tryd.underlying9
  a9 := Tryd.isAgg9
  z9 := Tryd.sizeOf9
  v9 := Tryd.zeroValue9
  t37 := Tryd.underlying22
  a37 := Tryd.isAgg22
  z37 := Tryd.sizeOf22
  v37 := Tryd.zeroValue22
  t70 := Tryd.underlying81
  a70 := Tryd.isAgg81
  z70 := Tryd.sizeOf81
  v70 := Tryd.zeroValue81
  t72 := Tryd.underlying83
  a72 := Tryd.isAgg83
  z72 := Tryd.sizeOf83
  v72 := Tryd.zeroValue83
  t127 := Tryd.underlying95
  a127 := Tryd.isAgg95
  z127 := Tryd.sizeOf95
  v127 := Tryd.zeroValue95 }
theorem Tryd.Builder_Extra_169 : Builder.Extra Tryd.prog Tryd.lays169_ren := {
  sizeBuilder := by kernel_rfl
  liesBuilder := by kernel_rfl
  t5 := Tryd.underlying5
  a5 := Tryd.isAgg5
  z5 := Tryd.sizeOf5
  v5 := Tryd.zeroValue5
  infoByte := by kernel_rfl
  cellsByte := by kernel_rfl
  sizeByte := by kernel_rfl
  neB5 := by decide }
open Go.RowKit in
/-- (*strings.Builder).String: "String returns the accumulated string.": OF A BUILDER THAT HOLDS AT LEAST ONE BYTE. ✋ THE MODEL FREEZES THOSE BYTES IN THE BUFFER (unsafe.String): a later write INTO them ends the model's run without an answer; a later append BEHIND them goes on. The statement's order of evaluation is drawn: one draw. (LAID: no walk: one application.) -/
theorem Tryd.Builder_String (B b : Nat) (l : List UInt8) (w : World) (h : Lib.IsBuilder 83 5 B b (Lib.byteCells l) w) (h0 : l ≠ []) :
    Calls Tryd.prog 65 #[.pointer (some ⟨b, 0, none⟩)] w fun e w' => e = .returned (.string ⟨l.toArray⟩) ∧ Below B w w' := Any.Builder_String Tryd.lays169 Tryd.Builder_Extra_169 B b l w h h0
open Go.RowKit in
/-- (*strings.Builder).String OF A BUILDER THAT HOLDS NO BYTE: the empty string. (Its buffer is nil, or a row of which it has taken nothing yet; where that row has NO capacity the model lays one new block for unsafe.SliceData's 'some address'.) One draw. (LAID: no walk: one application.) -/
theorem Tryd.Builder_String_empty (B b : Nat) (w : World) (h : Lib.IsBuilder 83 5 B b [] w) (hBw : B ≤ w.heap.size) :
    Calls Tryd.prog 65 #[.pointer (some ⟨b, 0, none⟩)] w fun e w' => e = .returned (.string ⟨#[]⟩) ∧ Below B w w' := Any.Builder_String_empty Tryd.lays169 Tryd.Builder_Extra_169 B b w h hBw
open Go.RowKit in
/-- (*strings.Builder).String: "String returns the accumulated string.": WHATEVER THE BUILDER HOLDS. (LAID: no walk: one application.) -/
theorem Tryd.Builder_String_any (B b : Nat) (l : List UInt8) (w : World) (h : Lib.IsBuilder 83 5 B b (Lib.byteCells l) w) (hBw : B ≤ w.heap.size) :
    Calls Tryd.prog 65 #[.pointer (some ⟨b, 0, none⟩)] w fun e w' => e = .returned (.string ⟨l.toArray⟩) ∧ Below B w w' := Any.Builder_String_any Tryd.lays169 Tryd.Builder_Extra_169 B b l w h hBw
def Tryd.lays241_ren : Go.Shelf.Ren := ⟨fun | 241 => 74 | 277 => 80 | n => n, fun | 70 => 81 | 3 => 3 | 0 => 0 | 72 => 83 | 37 => 22 | 5 => 5 | n => n, fun | n => n⟩
theorem Tryd.lays241 : Go.Proofs.Lays.n241 Tryd.prog Tryd.lays241_ren := {
  mixed := by kernel_rfl
  f241 := Tryd.func74.trans (congrArg some (by kernel_rfl))
  f277 := Tryd.func80.trans (congrArg some (by kernel_rfl))
  t0 := Tryd.underlying0
  a0 := Tryd.isAgg0
  z0 := Tryd.sizeOf0
  v0 := Tryd.zeroValue0
  t3 := Tryd.underlying3
  a3 := Tryd.isAgg3
  z3 := Tryd.sizeOf3
  v3 := Tryd.zeroValue3
  t37 := Tryd.underlying22
  a37 := Tryd.isAgg22
  z37 := Tryd.sizeOf22
  v37 := Tryd.zeroValue22
  t70 := Tryd.underlying81
  a70 := Tryd.isAgg81
  z70 := Tryd.sizeOf81
  v70 := Tryd.zeroValue81
  t72 := Tryd.underlying83
  a72 := Tryd.isAgg83
  z72 := Tryd.sizeOf83
  v72 := Tryd.zeroValue83 }
theorem Tryd.Builder_Extra_241 : Builder.Extra Tryd.prog Tryd.lays241_ren := {
  sizeBuilder := by kernel_rfl
  liesBuilder := by kernel_rfl
  t5 := Tryd.underlying5
  a5 := Tryd.isAgg5
  z5 := Tryd.sizeOf5
  v5 := Tryd.zeroValue5
  infoByte := by kernel_rfl
  cellsByte := by kernel_rfl
  sizeByte := by kernel_rfl
  neB5 := by decide }
open Go.RowKit in
/-- (*strings.Builder).grow (no doc but "grow copies the buffer to a new, larger buffer so that there are at least n bytes of capacity beyond len(b.buf)."): AT A BUILDER WITHOUT A BUFFER: a new row of whatever bytes for its buffer, none of them its own yet. Three draws. (LAID: no walk: one application.) -/
theorem Tryd.Builder_grow_fresh (B b n : Nat) (w : World) (hB : B ≤ b) (hbk : w.heap[b]? = some (.cells #[.pointer (some ⟨b, 0, none⟩), .slice none 0 0] 83 (0, 0))) (hBw : B ≤ w.heap.size) (hn : n ≤ 281474976710656) :
    Calls Tryd.prog 74 #[.pointer (some ⟨b, 0, none⟩), .int .i64 n] w fun e w' => e = .returned (.tuple #[]) ∧ (Lib.BuilderAt 83 5 B b (.pointer (some ⟨b, 0, none⟩)) [] w' ∧ Below B w w') := Any.Builder_grow_fresh Tryd.lays241 Tryd.Builder_Extra_241 B b n w hB hbk hBw hn
def Tryd.lays165_ren : Go.Shelf.Ren := ⟨fun | 165 => 63 | 240 => 73 | 241 => 74 | 276 => 79 | 277 => 80 | n => n, fun | 70 => 81 | 3 => 3 | 0 => 0 | 4 => 4 | 9 => 9 | 20 => 20 | 72 => 83 | 37 => 22 | 164 => 104 | 5 => 5 | n => n, fun | n => n⟩
theorem Tryd.lays165 : Go.Proofs.Lays.n165 Tryd.prog Tryd.lays165_ren := {
  mixed := by kernel_rfl
  f165 := Tryd.func63.trans (congrArg some (by kernel_rfl))
  f240 := Tryd.func73.trans (congrArg some (by kernel_rfl))
  f241 := Tryd.func74.trans (congrArg some (by kernel_rfl))
  f276 := Tryd.func79.trans (congrArg some (by kernel_rfl))
  f277 := Tryd.func80.trans (congrArg some (by kernel_rfl))
  t0 := Tryd.underlying0
  a0 := Tryd.isAgg0
  z0 := Tryd.sizeOf0
  v0 := Tryd.zeroValue0
  t3 := Tryd.underlying3
  a3 := Tryd.isAgg3
  z3 := Tryd.sizeOf3
  v3 := Tryd.zeroValue3
  t4 := Tryd.underlying4
  a4 := Tryd.isAgg4
  z4 := Tryd.sizeOf4
  v4 := Tryd.zeroValue4
  t9 := Tryd.underlying9
  a9 := Tryd.isAgg9
  z9 := Tryd.sizeOf9
  v9 := Tryd.zeroValue9
  t20 := Tryd.underlying20
  a20 := Tryd.isAgg20
  z20 := Tryd.sizeOf20
  v20 := Tryd.zeroValue20
  t37 := Tryd.underlying22
  a37 := Tryd.isAgg22
  z37 := Tryd.sizeOf22
  v37 := Tryd.zeroValue22
  t70 := Tryd.underlying81
  a70 := Tryd.isAgg81
  z70 := Tryd.sizeOf81
  v70 := Tryd.zeroValue81
  t72 := Tryd.underlying83
  a72 := Tryd.isAgg83
  z72 := Tryd.sizeOf83
  v72 := Tryd.zeroValue83
  t164 := Tryd.underlying104
  a164 := Tryd.isAgg104
  z164 := Tryd.sizeOf104
  v164 := Tryd.zeroValue104 }
theorem Tryd.Builder_Extra_165 : Builder.Extra Tryd.prog Tryd.lays165_ren := {
  sizeBuilder := by kernel_rfl
  liesBuilder := by kernel_rfl
  t5 := Tryd.underlying5
  a5 := Tryd.isAgg5
  z5 := Tryd.sizeOf5
  v5 := Tryd.zeroValue5
  infoByte := by kernel_rfl
  cellsByte := by kernel_rfl
  sizeByte := by kernel_rfl
  neB5 := by decide }
open Go.RowKit in
/-- (*strings.Builder).Grow AT A BUILDER THAT HAS NOT BEEN WRITTEN ('var b strings.Builder; b.Grow(n)'): "Grow grows b's capacity, if necessary, to guarantee space for another n bytes.": it holds no byte behind it as before it. (LAID: no walk: one application.) -/
theorem Tryd.Builder_Grow_fresh (B b n : Nat) (w : World) (hB : B ≤ b) (hbk : w.heap[b]? = some (.cells #[.pointer none, .slice none 0 0] 83 (0, 0))) (hBw : B ≤ w.heap.size) (hn : n ≤ 281474976710656) :
    Calls Tryd.prog 63 #[.pointer (some ⟨b, 0, none⟩), .int .i64 n] w fun e w' => e = .returned (.tuple #[]) ∧ (Lib.BuilderAt 83 5 B b (.pointer (some ⟨b, 0, none⟩)) [] w' ∧ Below B w w') := Any.Builder_Grow_fresh Tryd.lays165 Tryd.Builder_Extra_165 B b n w hB hbk hBw hn
def Tryd.lays156_ren : Go.Shelf.Ren := ⟨fun | 156 => 52 | 165 => 63 | 166 => 64 | 169 => 65 | 240 => 73 | 241 => 74 | 276 => 79 | 277 => 80 | n => n, fun | 31 => 63 | 9 => 9 | 3 => 3 | 4 => 4 | 0 => 0 | 20 => 20 | 72 => 83 | 76 => 87 | 70 => 81 | 37 => 22 | 75 => 86 | 127 => 95 | 164 => 104 | 5 => 5 | 80 => 46 | n => n, fun | n => n⟩
theorem Tryd.lays156 : Go.Proofs.Lays.n156 Tryd.prog Tryd.lays156_ren := {
  mixed := by kernel_rfl
  f156 := Tryd.func52.trans (congrArg some (by kernel_rfl))
  f165 := Tryd.func63.trans (congrArg some (by kernel_rfl))
  f166 := Tryd.func64.trans (congrArg some (by kernel_rfl))
  f169 := Tryd.func65.trans (congrArg some (by kernel_rfl))
  f240 := Tryd.func73.trans (congrArg some (by kernel_rfl))
  f241 := Tryd.func74.trans (congrArg some (by kernel_rfl))
  f276 := Tryd.func79.trans (congrArg some (by kernel_rfl))
  f277 := Tryd.func80.trans (congrArg some (by kernel_rfl))
  t0 := Tryd.underlying0
  a0 := Tryd.isAgg0
  z0 := Tryd.sizeOf0
  v0 := Tryd.zeroValue0
  t3 := Tryd.underlying3
  a3 := Tryd.isAgg3
  z3 := Tryd.sizeOf3
  v3 := Tryd.zeroValue3
  t4 := Tryd.underlying4
  a4 := Tryd.isAgg4
  z4 := Tryd.sizeOf4
  v4 := Tryd.zeroValue4
  t9 := Tryd.underlying9
  a9 := Tryd.isAgg9
  z9 := Tryd.sizeOf9
  v9 := Tryd.zeroValue9
  t20 := Tryd.underlying20
  a20 := Tryd.isAgg20
  z20 := Tryd.sizeOf20
  v20 := Tryd.zeroValue20
  t31 := Tryd.underlying63
  a31 := Tryd.isAgg63
  z31 := Tryd.sizeOf63
  v31 := Tryd.zeroValue63
  t37 := Tryd.underlying22
  a37 := Tryd.isAgg22
  z37 := Tryd.sizeOf22
  v37 := Tryd.zeroValue22
  t70 := Tryd.underlying81
  a70 := Tryd.isAgg81
  z70 := Tryd.sizeOf81
  v70 := Tryd.zeroValue81
  t72 := Tryd.underlying83
  a72 := Tryd.isAgg83
  z72 := Tryd.sizeOf83
  v72 := Tryd.zeroValue83
  t75 := Tryd.underlying86
  a75 := Tryd.isAgg86
  z75 := Tryd.sizeOf86
  v75 := Tryd.zeroValue86
  t76 := Tryd.underlying87
  a76 := Tryd.isAgg87
  z76 := Tryd.sizeOf87
  v76 := Tryd.zeroValue87
  t127 := Tryd.underlying95
  a127 := Tryd.isAgg95
  z127 := Tryd.sizeOf95
  v127 := Tryd.zeroValue95
  t164 := Tryd.underlying104
  a164 := Tryd.isAgg104
  z164 := Tryd.sizeOf104
  v164 := Tryd.zeroValue104 }
theorem Tryd.Builder_Extra_156 : Builder.Extra Tryd.prog Tryd.lays156_ren := {
  sizeBuilder := by kernel_rfl
  liesBuilder := by kernel_rfl
  t5 := Tryd.underlying5
  a5 := Tryd.isAgg5
  z5 := Tryd.sizeOf5
  v5 := Tryd.zeroValue5
  infoByte := by kernel_rfl
  cellsByte := by kernel_rfl
  sizeByte := by kernel_rfl
  neB5 := by decide }
open Go.RowKit in
/-- No element: the empty string; the world is as it was. (Whatever the slice's address and capacity: a nil slice too.) (LAID: no walk: one application.) -/
theorem Tryd.strings_Join_none (a : Option Addr) (c : Nat) (sep : ByteArray) (w : World) :
    Calls Tryd.prog 52 #[.slice a 0 c, .string sep] w fun e w' => e = .returned (.string ⟨#[]⟩) ∧ w' = w := Any.strings_Join_none Tryd.lays156 Tryd.Builder_Extra_156 a c sep w
open Go.RowKit in
/-- strings.Join: "Join concatenates the elements of its first argument to create a single string. The separator string sep is placed between elements in the resulting string.": HOWEVER MANY ELEMENTS. Below the heap's end the world is as it was. (LAID: no walk: one application.) -/
theorem Tryd.strings_Join (bk o c : Nat) (xs : List ByteArray) (sep : ByteArray) (w : World) (hcells : ∀ (j : Nat) x, xs[j]? = some x → w.cell? ⟨bk, o + j, none⟩ = some (.string x)) (hbk : bk < w.heap.size) (hN : xs.length ≤ 140737488355328) (hcap : xs.length ≤ c) (hlen : (Lib.join (xs.map (·.data.toList)) sep.data.toList).length ≤ 140737488355328) :
    Calls Tryd.prog 52 #[.slice (some ⟨bk, o, none⟩) xs.length c, .string sep] w fun e w' => e = .returned (.string ⟨(Lib.join (xs.map (·.data.toList)) sep.data.toList).toArray⟩) ∧ Below w.heap.size w w' := Any.strings_Join Tryd.lays156 Tryd.Builder_Extra_156 bk o c xs sep w hcells hbk hN hcap hlen
def Tryd.laysM246_ren : Go.Shelf.Ren := ⟨fun | 246 => 75 | 283 => 81 | 284 => 82 | 285 => 83 | 286 => 84 | 129 => 86 | 317 => 85 | 318 => 87 | 319 => 88 | 320 => 89 | 337 => 90 | 338 => 91 | n => n, fun | 2 => 2 | 3 => 3 | 9 => 9 | 4 => 4 | 171 => 107 | 0 => 0 | 53 => 101 | 37 => 22 | 5 => 5 | 173 => 110 | 212 => 113 | 51 => 98 | 20 => 20 | 213 => 114 | 46 => 91 | 232 => 117 | 233 => 118 | n => n, fun | 17 => 3 | 18 => 4 | 19 => 5 | n => n⟩
theorem Tryd.laysM246 : Go.Proofs.LaysM.n246 Tryd.prog Tryd.laysM246_ren := {
  mixed := by kernel_rfl
  f129 := Tryd.func86.trans (congrArg some (by kernel_rfl))
  f246 := Tryd.func75.trans (congrArg some (by kernel_rfl))
  f283 := Tryd.func81.trans (congrArg some (by kernel_rfl))
  f284 := Tryd.func82.trans (congrArg some (by kernel_rfl))
  f285 := Tryd.func83.trans (congrArg some (by kernel_rfl))
  f286 := Tryd.func84.trans (congrArg some (by kernel_rfl))
  f317 := Tryd.func85.trans (congrArg some (by kernel_rfl))
  f318 := Tryd.func87.trans (congrArg some (by kernel_rfl))
  f319 := Tryd.func88.trans (congrArg some (by kernel_rfl))
  f320 := Tryd.func89.trans (congrArg some (by kernel_rfl))
  f337 := Tryd.func90.trans (congrArg some (by kernel_rfl))
  f338 := Tryd.func91.trans (congrArg some (by kernel_rfl))
  t0 := Tryd.underlying0
  a0 := Tryd.isAgg0
  z0 := Tryd.sizeOf0
  v0 := Tryd.zeroValue0
  t2 := Tryd.underlying2
  a2 := Tryd.isAgg2
  z2 := Tryd.sizeOf2
  v2 := Tryd.zeroValue2
  t3 := Tryd.underlying3
  a3 := Tryd.isAgg3
  z3 := Tryd.sizeOf3
  v3 := Tryd.zeroValue3
  t4 := Tryd.underlying4
  a4 := Tryd.isAgg4
  z4 := Tryd.sizeOf4
  v4 := Tryd.zeroValue4
  t5 := Tryd.underlying5
  a5 := Tryd.isAgg5
  z5 := Tryd.sizeOf5
  v5 := Tryd.zeroValue5
  t9 := Tryd.underlying9
  a9 := Tryd.isAgg9
  z9 := Tryd.sizeOf9
  v9 := Tryd.zeroValue9
  t20 := Tryd.underlying20
  a20 := Tryd.isAgg20
  z20 := Tryd.sizeOf20
  v20 := Tryd.zeroValue20
  t37 := Tryd.underlying22
  a37 := Tryd.isAgg22
  z37 := Tryd.sizeOf22
  v37 := Tryd.zeroValue22
  t46 := Tryd.underlying91
  a46 := Tryd.isAgg91
  z46 := Tryd.sizeOf91
  v46 := Tryd.zeroValue91
  t51 := Tryd.underlying98
  a51 := Tryd.isAgg98
  z51 := Tryd.sizeOf98
  v51 := Tryd.zeroValue98
  t53 := Tryd.underlying101
  a53 := Tryd.isAgg101
  z53 := Tryd.sizeOf101
  v53 := Tryd.zeroValue101
  t171 := Tryd.underlying107
  a171 := Tryd.isAgg107
  z171 := Tryd.sizeOf107
  v171 := Tryd.zeroValue107
  t173 := Tryd.underlying110
  a173 := Tryd.isAgg110
  z173 := Tryd.sizeOf110
  v173 := Tryd.zeroValue110
  t212 := Tryd.underlying113
  a212 := Tryd.isAgg113
  z212 := Tryd.sizeOf113
  v212 := Tryd.zeroValue113
  t213 := Tryd.underlying114
  a213 := Tryd.isAgg114
  z213 := Tryd.sizeOf114
  t232 := Tryd.underlying117
  a232 := Tryd.isAgg117
  z232 := Tryd.sizeOf117
  v232 := Tryd.zeroValue117
  t233 := Tryd.underlying118
  a233 := Tryd.isAgg118
  z233 := Tryd.sizeOf118
  v233 := Tryd.zeroValue118
  g17 := by kernel_rfl
  g18 := by kernel_rfl
  g19 := by kernel_rfl
  i0 := by kernel_rfl
  i2 := by kernel_rfl
  i3 := by kernel_rfl
  i4 := by kernel_rfl
  i5 := by kernel_rfl
  i9 := by kernel_rfl
  i20 := by kernel_rfl
  i37 := by kernel_rfl
  i46 := by kernel_rfl
  i51 := by kernel_rfl
  i53 := by kernel_rfl
  i171 := by kernel_rfl
  i173 := by kernel_rfl
  i212 := by kernel_rfl
  i232 := by kernel_rfl
  i233 := by kernel_rfl
  m17 := by kernel_rfl
  m18 := by kernel_rfl
  m19 := by kernel_rfl }
open Go.RowKit Go.Sort Go.Lib in
/-- internal/strconv.FormatInt: "FormatInt returns the string representation of i in the given base": AT BASE 10: i's decimal numeral, for every int64. The world behind the call: the world before it, new blocks behind the heap, draws. (LAID: no walk: one application.) -/
theorem Tryd.internal_strconv_FormatInt_10 (n : Int) (h0 : -9223372036854775808 ≤ n) (h1 : n ≤ 9223372036854775807) (w : World) (htab : Lib.TabIs Tryd.prog w "internal/strconv.uint64pow10" .u64 Lib.pow10Tab) :
    Calls Tryd.prog 75 #[.int .i64 n, .int .i64 10] w fun e w' => e = .returned (.string ⟨(Lib.itoa n).toArray⟩) ∧ ∃ k os, w' = grow (w.drewN k) os := Any.internal_strconv_FormatInt_10 Tryd.laysM246 n h0 h1 w htab
def Tryd.lays246_ren : Go.Shelf.Ren := ⟨fun | 246 => 75 | 283 => 81 | 284 => 82 | 285 => 83 | 286 => 84 | 129 => 86 | 317 => 85 | 318 => 87 | 319 => 88 | 320 => 89 | 337 => 90 | 338 => 91 | n => n, fun | 2 => 2 | 3 => 3 | 9 => 9 | 4 => 4 | 171 => 107 | 0 => 0 | 53 => 101 | 37 => 22 | 5 => 5 | 173 => 110 | 212 => 113 | 51 => 98 | 20 => 20 | 213 => 114 | 46 => 91 | 232 => 117 | 233 => 118 | n => n, fun | 17 => 3 | 18 => 4 | 19 => 5 | n => n⟩
theorem Tryd.lays246 : Go.Proofs.Lays.n246 Tryd.prog Tryd.lays246_ren := {
  mixed := by kernel_rfl
  f129 := Tryd.func86.trans (congrArg some (by kernel_rfl))
  f246 := Tryd.func75.trans (congrArg some (by kernel_rfl))
  f283 := Tryd.func81.trans (congrArg some (by kernel_rfl))
  f284 := Tryd.func82.trans (congrArg some (by kernel_rfl))
  f285 := Tryd.func83.trans (congrArg some (by kernel_rfl))
  f286 := Tryd.func84.trans (congrArg some (by kernel_rfl))
  f317 := Tryd.func85.trans (congrArg some (by kernel_rfl))
  f318 := Tryd.func87.trans (congrArg some (by kernel_rfl))
  f319 := Tryd.func88.trans (congrArg some (by kernel_rfl))
  f320 := Tryd.func89.trans (congrArg some (by kernel_rfl))
  f337 := Tryd.func90.trans (congrArg some (by kernel_rfl))
  f338 := Tryd.func91.trans (congrArg some (by kernel_rfl))
  t0 := Tryd.underlying0
  a0 := Tryd.isAgg0
  z0 := Tryd.sizeOf0
  v0 := Tryd.zeroValue0
  t2 := Tryd.underlying2
  a2 := Tryd.isAgg2
  z2 := Tryd.sizeOf2
  v2 := Tryd.zeroValue2
  t3 := Tryd.underlying3
  a3 := Tryd.isAgg3
  z3 := Tryd.sizeOf3
  v3 := Tryd.zeroValue3
  t4 := Tryd.underlying4
  a4 := Tryd.isAgg4
  z4 := Tryd.sizeOf4
  v4 := Tryd.zeroValue4
  t5 := Tryd.underlying5
  a5 := Tryd.isAgg5
  z5 := Tryd.sizeOf5
  v5 := Tryd.zeroValue5
  t9 := Tryd.underlying9
  a9 := Tryd.isAgg9
  z9 := Tryd.sizeOf9
  v9 := Tryd.zeroValue9
  t20 := Tryd.underlying20
  a20 := Tryd.isAgg20
  z20 := Tryd.sizeOf20
  v20 := Tryd.zeroValue20
  t37 := Tryd.underlying22
  a37 := Tryd.isAgg22
  z37 := Tryd.sizeOf22
  v37 := Tryd.zeroValue22
  t46 := Tryd.underlying91
  a46 := Tryd.isAgg91
  z46 := Tryd.sizeOf91
  v46 := Tryd.zeroValue91
  t51 := Tryd.underlying98
  a51 := Tryd.isAgg98
  z51 := Tryd.sizeOf98
  v51 := Tryd.zeroValue98
  t53 := Tryd.underlying101
  a53 := Tryd.isAgg101
  z53 := Tryd.sizeOf101
  v53 := Tryd.zeroValue101
  t171 := Tryd.underlying107
  a171 := Tryd.isAgg107
  z171 := Tryd.sizeOf107
  v171 := Tryd.zeroValue107
  t173 := Tryd.underlying110
  a173 := Tryd.isAgg110
  z173 := Tryd.sizeOf110
  v173 := Tryd.zeroValue110
  t212 := Tryd.underlying113
  a212 := Tryd.isAgg113
  z212 := Tryd.sizeOf113
  v212 := Tryd.zeroValue113
  t213 := Tryd.underlying114
  a213 := Tryd.isAgg114
  z213 := Tryd.sizeOf114
  t232 := Tryd.underlying117
  a232 := Tryd.isAgg117
  z232 := Tryd.sizeOf117
  v232 := Tryd.zeroValue117
  t233 := Tryd.underlying118
  a233 := Tryd.isAgg118
  z233 := Tryd.sizeOf118
  v233 := Tryd.zeroValue118
  g17 := by kernel_rfl
  g18 := by kernel_rfl
  g19 := by kernel_rfl }
open Go.RowKit Go.Sort Go.Lib in
/-- THE ROAD WITHOUT THE TABLE: 0 <= i < 100: two constants are read, nothing is laid: no premise on the world, and the world is as it was. (LAID: no walk: one application.) -/
theorem Tryd.internal_strconv_FormatInt_10_small (i : Nat) (hi : i < 100) (w : World) :
    Calls Tryd.prog 75 #[.int .i64 i, .int .i64 10] w fun e w' => e = .returned (.string ⟨(Lib.decDigits i).toArray⟩) ∧ w' = w := Any.internal_strconv_FormatInt_10_small Tryd.lays246 i hi w
def Tryd.laysM243_ren : Go.Shelf.Ren := ⟨fun | 243 => 69 | 246 => 75 | 283 => 81 | 284 => 82 | 285 => 83 | 286 => 84 | 129 => 86 | 317 => 85 | 318 => 87 | 319 => 88 | 320 => 89 | 337 => 90 | 338 => 91 | n => n, fun | 3 => 3 | 9 => 9 | 2 => 2 | 4 => 4 | 171 => 107 | 0 => 0 | 53 => 101 | 37 => 22 | 5 => 5 | 173 => 110 | 212 => 113 | 51 => 98 | 20 => 20 | 213 => 114 | 46 => 91 | 232 => 117 | 233 => 118 | n => n, fun | 17 => 3 | 18 => 4 | 19 => 5 | n => n⟩
theorem Tryd.laysM243 : Go.Proofs.LaysM.n243 Tryd.prog Tryd.laysM243_ren := {
  mixed := by kernel_rfl
  f129 := Tryd.func86.trans (congrArg some (by kernel_rfl))
  f243 := Tryd.func69.trans (congrArg some (by kernel_rfl))
  f246 := Tryd.func75.trans (congrArg some (by kernel_rfl))
  f283 := Tryd.func81.trans (congrArg some (by kernel_rfl))
  f284 := Tryd.func82.trans (congrArg some (by kernel_rfl))
  f285 := Tryd.func83.trans (congrArg some (by kernel_rfl))
  f286 := Tryd.func84.trans (congrArg some (by kernel_rfl))
  f317 := Tryd.func85.trans (congrArg some (by kernel_rfl))
  f318 := Tryd.func87.trans (congrArg some (by kernel_rfl))
  f319 := Tryd.func88.trans (congrArg some (by kernel_rfl))
  f320 := Tryd.func89.trans (congrArg some (by kernel_rfl))
  f337 := Tryd.func90.trans (congrArg some (by kernel_rfl))
  f338 := Tryd.func91.trans (congrArg some (by kernel_rfl))
  t0 := Tryd.underlying0
  a0 := Tryd.isAgg0
  z0 := Tryd.sizeOf0
  v0 := Tryd.zeroValue0
  t2 := Tryd.underlying2
  a2 := Tryd.isAgg2
  z2 := Tryd.sizeOf2
  v2 := Tryd.zeroValue2
  t3 := Tryd.underlying3
  a3 := Tryd.isAgg3
  z3 := Tryd.sizeOf3
  v3 := Tryd.zeroValue3
  t4 := Tryd.underlying4
  a4 := Tryd.isAgg4
  z4 := Tryd.sizeOf4
  v4 := Tryd.zeroValue4
  t5 := Tryd.underlying5
  a5 := Tryd.isAgg5
  z5 := Tryd.sizeOf5
  v5 := Tryd.zeroValue5
  t9 := Tryd.underlying9
  a9 := Tryd.isAgg9
  z9 := Tryd.sizeOf9
  v9 := Tryd.zeroValue9
  t20 := Tryd.underlying20
  a20 := Tryd.isAgg20
  z20 := Tryd.sizeOf20
  v20 := Tryd.zeroValue20
  t37 := Tryd.underlying22
  a37 := Tryd.isAgg22
  z37 := Tryd.sizeOf22
  v37 := Tryd.zeroValue22
  t46 := Tryd.underlying91
  a46 := Tryd.isAgg91
  z46 := Tryd.sizeOf91
  v46 := Tryd.zeroValue91
  t51 := Tryd.underlying98
  a51 := Tryd.isAgg98
  z51 := Tryd.sizeOf98
  v51 := Tryd.zeroValue98
  t53 := Tryd.underlying101
  a53 := Tryd.isAgg101
  z53 := Tryd.sizeOf101
  v53 := Tryd.zeroValue101
  t171 := Tryd.underlying107
  a171 := Tryd.isAgg107
  z171 := Tryd.sizeOf107
  v171 := Tryd.zeroValue107
  t173 := Tryd.underlying110
  a173 := Tryd.isAgg110
  z173 := Tryd.sizeOf110
  v173 := Tryd.zeroValue110
  t212 := Tryd.underlying113
  a212 := Tryd.isAgg113
  z212 := Tryd.sizeOf113
  v212 := Tryd.zeroValue113
  t213 := Tryd.underlying114
  a213 := Tryd.isAgg114
  z213 := Tryd.sizeOf114
  t232 := Tryd.underlying117
  a232 := Tryd.isAgg117
  z232 := Tryd.sizeOf117
  v232 := Tryd.zeroValue117
  t233 := Tryd.underlying118
  a233 := Tryd.isAgg118
  z233 := Tryd.sizeOf118
  v233 := Tryd.zeroValue118
  g17 := by kernel_rfl
  g18 := by kernel_rfl
  g19 := by kernel_rfl
  i0 := by kernel_rfl
  i2 := by kernel_rfl
  i3 := by kernel_rfl
  i4 := by kernel_rfl
  i5 := by kernel_rfl
  i9 := by kernel_rfl
  i20 := by kernel_rfl
  i37 := by kernel_rfl
  i46 := by kernel_rfl
  i51 := by kernel_rfl
  i53 := by kernel_rfl
  i171 := by kernel_rfl
  i173 := by kernel_rfl
  i212 := by kernel_rfl
  i232 := by kernel_rfl
  i233 := by kernel_rfl
  m17 := by kernel_rfl
  m18 := by kernel_rfl
  m19 := by kernel_rfl }
open Go.RowKit Go.Sort Go.Lib in
/-- internal/strconv.Itoa: "Itoa is equivalent to FormatInt(int64(i), 10).": i's decimal numeral, for every int. (LAID: no walk: one application.) -/
theorem Tryd.internal_strconv_Itoa (n : Int) (h0 : -9223372036854775808 ≤ n) (h1 : n ≤ 9223372036854775807) (w : World) (htab : Lib.TabIs Tryd.prog w "internal/strconv.uint64pow10" .u64 Lib.pow10Tab) :
    Calls Tryd.prog 69 #[.int .i64 n] w fun e w' => e = .returned (.string ⟨(Lib.itoa n).toArray⟩) ∧ ∃ k os, w' = grow (w.drewN k) os := Any.internal_strconv_Itoa Tryd.laysM243 n h0 h1 w htab
def Tryd.lays243_ren : Go.Shelf.Ren := ⟨fun | 243 => 69 | 246 => 75 | 283 => 81 | 284 => 82 | 285 => 83 | 286 => 84 | 129 => 86 | 317 => 85 | 318 => 87 | 319 => 88 | 320 => 89 | 337 => 90 | 338 => 91 | n => n, fun | 3 => 3 | 9 => 9 | 2 => 2 | 4 => 4 | 171 => 107 | 0 => 0 | 53 => 101 | 37 => 22 | 5 => 5 | 173 => 110 | 212 => 113 | 51 => 98 | 20 => 20 | 213 => 114 | 46 => 91 | 232 => 117 | 233 => 118 | n => n, fun | 17 => 3 | 18 => 4 | 19 => 5 | n => n⟩
theorem Tryd.lays243 : Go.Proofs.Lays.n243 Tryd.prog Tryd.lays243_ren := {
  mixed := by kernel_rfl
  f129 := Tryd.func86.trans (congrArg some (by kernel_rfl))
  f243 := Tryd.func69.trans (congrArg some (by kernel_rfl))
  f246 := Tryd.func75.trans (congrArg some (by kernel_rfl))
  f283 := Tryd.func81.trans (congrArg some (by kernel_rfl))
  f284 := Tryd.func82.trans (congrArg some (by kernel_rfl))
  f285 := Tryd.func83.trans (congrArg some (by kernel_rfl))
  f286 := Tryd.func84.trans (congrArg some (by kernel_rfl))
  f317 := Tryd.func85.trans (congrArg some (by kernel_rfl))
  f318 := Tryd.func87.trans (congrArg some (by kernel_rfl))
  f319 := Tryd.func88.trans (congrArg some (by kernel_rfl))
  f320 := Tryd.func89.trans (congrArg some (by kernel_rfl))
  f337 := Tryd.func90.trans (congrArg some (by kernel_rfl))
  f338 := Tryd.func91.trans (congrArg some (by kernel_rfl))
  t0 := Tryd.underlying0
  a0 := Tryd.isAgg0
  z0 := Tryd.sizeOf0
  v0 := Tryd.zeroValue0
  t2 := Tryd.underlying2
  a2 := Tryd.isAgg2
  z2 := Tryd.sizeOf2
  v2 := Tryd.zeroValue2
  t3 := Tryd.underlying3
  a3 := Tryd.isAgg3
  z3 := Tryd.sizeOf3
  v3 := Tryd.zeroValue3
  t4 := Tryd.underlying4
  a4 := Tryd.isAgg4
  z4 := Tryd.sizeOf4
  v4 := Tryd.zeroValue4
  t5 := Tryd.underlying5
  a5 := Tryd.isAgg5
  z5 := Tryd.sizeOf5
  v5 := Tryd.zeroValue5
  t9 := Tryd.underlying9
  a9 := Tryd.isAgg9
  z9 := Tryd.sizeOf9
  v9 := Tryd.zeroValue9
  t20 := Tryd.underlying20
  a20 := Tryd.isAgg20
  z20 := Tryd.sizeOf20
  v20 := Tryd.zeroValue20
  t37 := Tryd.underlying22
  a37 := Tryd.isAgg22
  z37 := Tryd.sizeOf22
  v37 := Tryd.zeroValue22
  t46 := Tryd.underlying91
  a46 := Tryd.isAgg91
  z46 := Tryd.sizeOf91
  v46 := Tryd.zeroValue91
  t51 := Tryd.underlying98
  a51 := Tryd.isAgg98
  z51 := Tryd.sizeOf98
  v51 := Tryd.zeroValue98
  t53 := Tryd.underlying101
  a53 := Tryd.isAgg101
  z53 := Tryd.sizeOf101
  v53 := Tryd.zeroValue101
  t171 := Tryd.underlying107
  a171 := Tryd.isAgg107
  z171 := Tryd.sizeOf107
  v171 := Tryd.zeroValue107
  t173 := Tryd.underlying110
  a173 := Tryd.isAgg110
  z173 := Tryd.sizeOf110
  v173 := Tryd.zeroValue110
  t212 := Tryd.underlying113
  a212 := Tryd.isAgg113
  z212 := Tryd.sizeOf113
  v212 := Tryd.zeroValue113
  t213 := Tryd.underlying114
  a213 := Tryd.isAgg114
  z213 := Tryd.sizeOf114
  t232 := Tryd.underlying117
  a232 := Tryd.isAgg117
  z232 := Tryd.sizeOf117
  v232 := Tryd.zeroValue117
  t233 := Tryd.underlying118
  a233 := Tryd.isAgg118
  z233 := Tryd.sizeOf118
  v233 := Tryd.zeroValue118
  g17 := by kernel_rfl
  g18 := by kernel_rfl
  g19 := by kernel_rfl }
open Go.RowKit Go.Sort Go.Lib in
/-- THE ROAD WITHOUT THE TABLE: 0 <= i < 100. (LAID: no walk: one application.) -/
theorem Tryd.internal_strconv_Itoa_small (i : Nat) (hi : i < 100) (w : World) :
    Calls Tryd.prog 69 #[.int .i64 i] w fun e w' => e = .returned (.string ⟨(Lib.decDigits i).toArray⟩) ∧ w' = w := Any.internal_strconv_Itoa_small Tryd.lays243 i hi w
def Tryd.laysM171_ren : Go.Shelf.Ren := ⟨fun | 171 => 54 | 243 => 69 | 246 => 75 | 283 => 81 | 284 => 82 | 285 => 83 | 286 => 84 | 129 => 86 | 317 => 85 | 318 => 87 | 319 => 88 | 320 => 89 | 337 => 90 | 338 => 91 | n => n, fun | 3 => 3 | 9 => 9 | 2 => 2 | 4 => 4 | 171 => 107 | 0 => 0 | 53 => 101 | 37 => 22 | 5 => 5 | 173 => 110 | 212 => 113 | 51 => 98 | 20 => 20 | 213 => 114 | 46 => 91 | 232 => 117 | 233 => 118 | n => n, fun | 17 => 3 | 18 => 4 | 19 => 5 | n => n⟩
theorem Tryd.laysM171 : Go.Proofs.LaysM.n171 Tryd.prog Tryd.laysM171_ren := {
  mixed := by kernel_rfl
  f129 := Tryd.func86.trans (congrArg some (by kernel_rfl))
  f171 := Tryd.func54.trans (congrArg some (by kernel_rfl))
  f243 := Tryd.func69.trans (congrArg some (by kernel_rfl))
  f246 := Tryd.func75.trans (congrArg some (by kernel_rfl))
  f283 := Tryd.func81.trans (congrArg some (by kernel_rfl))
  f284 := Tryd.func82.trans (congrArg some (by kernel_rfl))
  f285 := Tryd.func83.trans (congrArg some (by kernel_rfl))
  f286 := Tryd.func84.trans (congrArg some (by kernel_rfl))
  f317 := Tryd.func85.trans (congrArg some (by kernel_rfl))
  f318 := Tryd.func87.trans (congrArg some (by kernel_rfl))
  f319 := Tryd.func88.trans (congrArg some (by kernel_rfl))
  f320 := Tryd.func89.trans (congrArg some (by kernel_rfl))
  f337 := Tryd.func90.trans (congrArg some (by kernel_rfl))
  f338 := Tryd.func91.trans (congrArg some (by kernel_rfl))
  t0 := Tryd.underlying0
  a0 := Tryd.isAgg0
  z0 := Tryd.sizeOf0
  v0 := Tryd.zeroValue0
  t2 := Tryd.underlying2
  a2 := Tryd.isAgg2
  z2 := Tryd.sizeOf2
  v2 := Tryd.zeroValue2
  t3 := Tryd.underlying3
  a3 := Tryd.isAgg3
  z3 := Tryd.sizeOf3
  v3 := Tryd.zeroValue3
  t4 := Tryd.underlying4
  a4 := Tryd.isAgg4
  z4 := Tryd.sizeOf4
  v4 := Tryd.zeroValue4
  t5 := Tryd.underlying5
  a5 := Tryd.isAgg5
  z5 := Tryd.sizeOf5
  v5 := Tryd.zeroValue5
  t9 := Tryd.underlying9
  a9 := Tryd.isAgg9
  z9 := Tryd.sizeOf9
  v9 := Tryd.zeroValue9
  t20 := Tryd.underlying20
  a20 := Tryd.isAgg20
  z20 := Tryd.sizeOf20
  v20 := Tryd.zeroValue20
  t37 := Tryd.underlying22
  a37 := Tryd.isAgg22
  z37 := Tryd.sizeOf22
  v37 := Tryd.zeroValue22
  t46 := Tryd.underlying91
  a46 := Tryd.isAgg91
  z46 := Tryd.sizeOf91
  v46 := Tryd.zeroValue91
  t51 := Tryd.underlying98
  a51 := Tryd.isAgg98
  z51 := Tryd.sizeOf98
  v51 := Tryd.zeroValue98
  t53 := Tryd.underlying101
  a53 := Tryd.isAgg101
  z53 := Tryd.sizeOf101
  v53 := Tryd.zeroValue101
  t171 := Tryd.underlying107
  a171 := Tryd.isAgg107
  z171 := Tryd.sizeOf107
  v171 := Tryd.zeroValue107
  t173 := Tryd.underlying110
  a173 := Tryd.isAgg110
  z173 := Tryd.sizeOf110
  v173 := Tryd.zeroValue110
  t212 := Tryd.underlying113
  a212 := Tryd.isAgg113
  z212 := Tryd.sizeOf113
  v212 := Tryd.zeroValue113
  t213 := Tryd.underlying114
  a213 := Tryd.isAgg114
  z213 := Tryd.sizeOf114
  t232 := Tryd.underlying117
  a232 := Tryd.isAgg117
  z232 := Tryd.sizeOf117
  v232 := Tryd.zeroValue117
  t233 := Tryd.underlying118
  a233 := Tryd.isAgg118
  z233 := Tryd.sizeOf118
  v233 := Tryd.zeroValue118
  g17 := by kernel_rfl
  g18 := by kernel_rfl
  g19 := by kernel_rfl
  i0 := by kernel_rfl
  i2 := by kernel_rfl
  i3 := by kernel_rfl
  i4 := by kernel_rfl
  i5 := by kernel_rfl
  i9 := by kernel_rfl
  i20 := by kernel_rfl
  i37 := by kernel_rfl
  i46 := by kernel_rfl
  i51 := by kernel_rfl
  i53 := by kernel_rfl
  i171 := by kernel_rfl
  i173 := by kernel_rfl
  i212 := by kernel_rfl
  i232 := by kernel_rfl
  i233 := by kernel_rfl
  m17 := by kernel_rfl
  m18 := by kernel_rfl
  m19 := by kernel_rfl }
open Go.RowKit Go.Sort Go.Lib in
/-- strconv.Itoa: "Itoa is equivalent to FormatInt(int64(i), 10).": i's DECIMAL NUMERAL ('Lib.itoa': a '-' where i is negative, then the digits), FOR EVERY int. The world behind the call: the world before it, new blocks behind the heap (the library's 'var a [24]byte'), draws. (LAID: no walk: one application.) -/
theorem Tryd.strconv_Itoa (n : Int) (h0 : -9223372036854775808 ≤ n) (h1 : n ≤ 9223372036854775807) (w : World) (htab : Lib.TabIs Tryd.prog w "internal/strconv.uint64pow10" .u64 Lib.pow10Tab) :
    Calls Tryd.prog 54 #[.int .i64 n] w fun e w' => e = .returned (.string ⟨(Lib.itoa n).toArray⟩) ∧ ∃ k os, w' = grow (w.drewN k) os := Any.strconv_Itoa Tryd.laysM171 n h0 h1 w htab
def Tryd.lays171_ren : Go.Shelf.Ren := ⟨fun | 171 => 54 | 243 => 69 | 246 => 75 | 283 => 81 | 284 => 82 | 285 => 83 | 286 => 84 | 129 => 86 | 317 => 85 | 318 => 87 | 319 => 88 | 320 => 89 | 337 => 90 | 338 => 91 | n => n, fun | 3 => 3 | 9 => 9 | 2 => 2 | 4 => 4 | 171 => 107 | 0 => 0 | 53 => 101 | 37 => 22 | 5 => 5 | 173 => 110 | 212 => 113 | 51 => 98 | 20 => 20 | 213 => 114 | 46 => 91 | 232 => 117 | 233 => 118 | n => n, fun | 17 => 3 | 18 => 4 | 19 => 5 | n => n⟩
theorem Tryd.lays171 : Go.Proofs.Lays.n171 Tryd.prog Tryd.lays171_ren := {
  mixed := by kernel_rfl
  f129 := Tryd.func86.trans (congrArg some (by kernel_rfl))
  f171 := Tryd.func54.trans (congrArg some (by kernel_rfl))
  f243 := Tryd.func69.trans (congrArg some (by kernel_rfl))
  f246 := Tryd.func75.trans (congrArg some (by kernel_rfl))
  f283 := Tryd.func81.trans (congrArg some (by kernel_rfl))
  f284 := Tryd.func82.trans (congrArg some (by kernel_rfl))
  f285 := Tryd.func83.trans (congrArg some (by kernel_rfl))
  f286 := Tryd.func84.trans (congrArg some (by kernel_rfl))
  f317 := Tryd.func85.trans (congrArg some (by kernel_rfl))
  f318 := Tryd.func87.trans (congrArg some (by kernel_rfl))
  f319 := Tryd.func88.trans (congrArg some (by kernel_rfl))
  f320 := Tryd.func89.trans (congrArg some (by kernel_rfl))
  f337 := Tryd.func90.trans (congrArg some (by kernel_rfl))
  f338 := Tryd.func91.trans (congrArg some (by kernel_rfl))
  t0 := Tryd.underlying0
  a0 := Tryd.isAgg0
  z0 := Tryd.sizeOf0
  v0 := Tryd.zeroValue0
  t2 := Tryd.underlying2
  a2 := Tryd.isAgg2
  z2 := Tryd.sizeOf2
  v2 := Tryd.zeroValue2
  t3 := Tryd.underlying3
  a3 := Tryd.isAgg3
  z3 := Tryd.sizeOf3
  v3 := Tryd.zeroValue3
  t4 := Tryd.underlying4
  a4 := Tryd.isAgg4
  z4 := Tryd.sizeOf4
  v4 := Tryd.zeroValue4
  t5 := Tryd.underlying5
  a5 := Tryd.isAgg5
  z5 := Tryd.sizeOf5
  v5 := Tryd.zeroValue5
  t9 := Tryd.underlying9
  a9 := Tryd.isAgg9
  z9 := Tryd.sizeOf9
  v9 := Tryd.zeroValue9
  t20 := Tryd.underlying20
  a20 := Tryd.isAgg20
  z20 := Tryd.sizeOf20
  v20 := Tryd.zeroValue20
  t37 := Tryd.underlying22
  a37 := Tryd.isAgg22
  z37 := Tryd.sizeOf22
  v37 := Tryd.zeroValue22
  t46 := Tryd.underlying91
  a46 := Tryd.isAgg91
  z46 := Tryd.sizeOf91
  v46 := Tryd.zeroValue91
  t51 := Tryd.underlying98
  a51 := Tryd.isAgg98
  z51 := Tryd.sizeOf98
  v51 := Tryd.zeroValue98
  t53 := Tryd.underlying101
  a53 := Tryd.isAgg101
  z53 := Tryd.sizeOf101
  v53 := Tryd.zeroValue101
  t171 := Tryd.underlying107
  a171 := Tryd.isAgg107
  z171 := Tryd.sizeOf107
  v171 := Tryd.zeroValue107
  t173 := Tryd.underlying110
  a173 := Tryd.isAgg110
  z173 := Tryd.sizeOf110
  v173 := Tryd.zeroValue110
  t212 := Tryd.underlying113
  a212 := Tryd.isAgg113
  z212 := Tryd.sizeOf113
  v212 := Tryd.zeroValue113
  t213 := Tryd.underlying114
  a213 := Tryd.isAgg114
  z213 := Tryd.sizeOf114
  t232 := Tryd.underlying117
  a232 := Tryd.isAgg117
  z232 := Tryd.sizeOf117
  v232 := Tryd.zeroValue117
  t233 := Tryd.underlying118
  a233 := Tryd.isAgg118
  z233 := Tryd.sizeOf118
  v233 := Tryd.zeroValue118
  g17 := by kernel_rfl
  g18 := by kernel_rfl
  g19 := by kernel_rfl }
open Go.RowKit Go.Sort Go.Lib in
/-- THE ROAD WITHOUT THE TABLE: 0 <= i < 100: NO PREMISE ON THE WORLD, AND THE WORLD IS AS IT WAS: a row that keeps its argument in that range need list no table ('laid = []'). (LAID: no walk: one application.) -/
theorem Tryd.strconv_Itoa_small (i : Nat) (hi : i < 100) (w : World) :
    Calls Tryd.prog 54 #[.int .i64 i] w fun e w' => e = .returned (.string ⟨(Lib.decDigits i).toArray⟩) ∧ w' = w := Any.strconv_Itoa_small Tryd.lays171 i hi w
def Tryd.lays264_ren : Go.Shelf.Ren := ⟨fun | 264 => 77 | n => n, fun | 53 => 101 | 46 => 91 | n => n, fun | n => n⟩
theorem Tryd.lays264 : Go.Proofs.Lays.n264 Tryd.prog Tryd.lays264_ren := {
  mixed := by kernel_rfl
  f264 := Tryd.func77.trans (congrArg some (by kernel_rfl))
  t46 := Tryd.underlying91
  a46 := Tryd.isAgg91
  z46 := Tryd.sizeOf91
  v46 := Tryd.zeroValue91
  t53 := Tryd.underlying101
  a53 := Tryd.isAgg101
  z53 := Tryd.sizeOf101
  v53 := Tryd.zeroValue101 }
open Go.RowKit Go.Lib in
theorem Tryd.bits_Mul64 (x y : Nat) (hx : x < 18446744073709551616) (hy : y < 18446744073709551616) (w : World) :
    Calls Tryd.prog 77 #[.int .u64 x, .int .u64 y] w fun e w' => e = .returned (.tuple #[.int .u64 ((x * y / 18446744073709551616 : Nat) : Int), .int .u64 ((x * y % 18446744073709551616 : Nat) : Int)]) ∧ w' = w := Any.bits_Mul64 Tryd.lays264 x y hx hy w
def Tryd.lays212_ren : Go.Shelf.Ren := ⟨fun | 212 => 70 | 263 => 76 | 264 => 77 | n => n, fun | 46 => 91 | 51 => 98 | 146 => 99 | 53 => 101 | 148 => 102 | n => n, fun | n => n⟩
theorem Tryd.lays212 : Go.Proofs.Lays.n212 Tryd.prog Tryd.lays212_ren := {
  mixed := by kernel_rfl
  f212 := Tryd.func70.trans (congrArg some (by kernel_rfl))
  f263 := Tryd.func76.trans (congrArg some (by kernel_rfl))
  f264 := Tryd.func77.trans (congrArg some (by kernel_rfl))
  t46 := Tryd.underlying91
  a46 := Tryd.isAgg91
  z46 := Tryd.sizeOf91
  v46 := Tryd.zeroValue91
  t51 := Tryd.underlying98
  a51 := Tryd.isAgg98
  z51 := Tryd.sizeOf98
  v51 := Tryd.zeroValue98
  t53 := Tryd.underlying101
  a53 := Tryd.isAgg101
  z53 := Tryd.sizeOf101
  v53 := Tryd.zeroValue101
  t146 := Tryd.underlying99
  a146 := Tryd.isAgg99
  z146 := Tryd.sizeOf99
  v146 := Tryd.zeroValue99
  t148 := Tryd.underlying102
  a148 := Tryd.isAgg102
  z148 := Tryd.sizeOf102
  v148 := Tryd.zeroValue102 }
open Go.RowKit Go.Lib in
/-- math/bits.Mul: "Mul returns the full-width product of x and y": on a machine of 64 bits: Mul64's. (LAID: no walk: one application.) -/
theorem Tryd.bits_Mul (x y : Nat) (hx : x < 18446744073709551616) (hy : y < 18446744073709551616) (w : World) :
    Calls Tryd.prog 70 #[.int .u64 x, .int .u64 y] w fun e w' => e = .returned (.tuple #[.int .u64 ((x * y / 18446744073709551616 : Nat) : Int), .int .u64 ((x * y % 18446744073709551616 : Nat) : Int)]) ∧ w' = w := Any.bits_Mul Tryd.lays212 x y hx hy w
def Tryd.lays105_ren : Go.Shelf.Ren := ⟨fun | 105 => 62 | 212 => 70 | 99 => 71 | 165 => 63 | 166 => 64 | 170 => 72 | 169 => 65 | 263 => 76 | 264 => 77 | 206 => 78 | 240 => 73 | 241 => 74 | 276 => 79 | 277 => 80 | n => n, fun | 9 => 9 | 3 => 3 | 4 => 4 | 20 => 20 | 0 => 0 | 46 => 91 | 109 => 92 | 5 => 5 | 72 => 83 | 76 => 87 | 51 => 98 | 146 => 99 | 53 => 101 | 148 => 102 | 70 => 81 | 37 => 22 | 75 => 86 | 127 => 95 | 164 => 104 | 80 => 46 | n => n, fun | n => n⟩
theorem Tryd.lays105 : Go.Proofs.Lays.n105 Tryd.prog Tryd.lays105_ren := {
  mixed := by kernel_rfl
  f99 := Tryd.func71.trans (congrArg some (by kernel_rfl))
  f105 := Tryd.func62.trans (congrArg some (by kernel_rfl))
  f165 := Tryd.func63.trans (congrArg some (by kernel_rfl))
  f166 := Tryd.func64.trans (congrArg some (by kernel_rfl))
  f169 := Tryd.func65.trans (congrArg some (by kernel_rfl))
  f170 := Tryd.func72.trans (congrArg some (by kernel_rfl))
  f206 := Tryd.func78.trans (congrArg some (by kernel_rfl))
  f212 := Tryd.func70.trans (congrArg some (by kernel_rfl))
  f240 := Tryd.func73.trans (congrArg some (by kernel_rfl))
  f241 := Tryd.func74.trans (congrArg some (by kernel_rfl))
  f263 := Tryd.func76.trans (congrArg some (by kernel_rfl))
  f264 := Tryd.func77.trans (congrArg some (by kernel_rfl))
  f276 := Tryd.func79.trans (congrArg some (by kernel_rfl))
  f277 := Tryd.func80.trans (congrArg some (by kernel_rfl))
  t0 := Tryd.underlying0
  a0 := Tryd.isAgg0
  z0 := Tryd.sizeOf0
  v0 := Tryd.zeroValue0
  t3 := Tryd.underlying3
  a3 := Tryd.isAgg3
  z3 := Tryd.sizeOf3
  v3 := Tryd.zeroValue3
  t4 := Tryd.underlying4
  a4 := Tryd.isAgg4
  z4 := Tryd.sizeOf4
  v4 := Tryd.zeroValue4
  t5 := Tryd.underlying5
  a5 := Tryd.isAgg5
  z5 := Tryd.sizeOf5
  v5 := Tryd.zeroValue5
  t9 := Tryd.underlying9
  a9 := Tryd.isAgg9
  z9 := Tryd.sizeOf9
  v9 := Tryd.zeroValue9
  t20 := Tryd.underlying20
  a20 := Tryd.isAgg20
  z20 := Tryd.sizeOf20
  v20 := Tryd.zeroValue20
  t37 := Tryd.underlying22
  a37 := Tryd.isAgg22
  z37 := Tryd.sizeOf22
  v37 := Tryd.zeroValue22
  t46 := Tryd.underlying91
  a46 := Tryd.isAgg91
  z46 := Tryd.sizeOf91
  v46 := Tryd.zeroValue91
  t51 := Tryd.underlying98
  a51 := Tryd.isAgg98
  z51 := Tryd.sizeOf98
  v51 := Tryd.zeroValue98
  t53 := Tryd.underlying101
  a53 := Tryd.isAgg101
  z53 := Tryd.sizeOf101
  v53 := Tryd.zeroValue101
  t70 := Tryd.underlying81
  a70 := Tryd.isAgg81
  z70 := Tryd.sizeOf81
  v70 := Tryd.zeroValue81
  t72 := Tryd.underlying83
  a72 := Tryd.isAgg83
  z72 := Tryd.sizeOf83
  v72 := Tryd.zeroValue83
  t75 := Tryd.underlying86
  a75 := Tryd.isAgg86
  z75 := Tryd.sizeOf86
  v75 := Tryd.zeroValue86
  t76 := Tryd.underlying87
  a76 := Tryd.isAgg87
  z76 := Tryd.sizeOf87
  v76 := Tryd.zeroValue87
  t109 := Tryd.underlying92
  a109 := Tryd.isAgg92
  z109 := Tryd.sizeOf92
  v109 := Tryd.zeroValue92
  t127 := Tryd.underlying95
  a127 := Tryd.isAgg95
  z127 := Tryd.sizeOf95
  v127 := Tryd.zeroValue95
  t146 := Tryd.underlying99
  a146 := Tryd.isAgg99
  z146 := Tryd.sizeOf99
  v146 := Tryd.zeroValue99
  t148 := Tryd.underlying102
  a148 := Tryd.isAgg102
  z148 := Tryd.sizeOf102
  v148 := Tryd.zeroValue102
  t164 := Tryd.underlying104
  a164 := Tryd.isAgg104
  z164 := Tryd.sizeOf104
  v164 := Tryd.zeroValue104 }
theorem Tryd.Builder_Extra_105 : Builder.Extra Tryd.prog Tryd.lays105_ren := {
  sizeBuilder := by kernel_rfl
  liesBuilder := by kernel_rfl
  t5 := Tryd.underlying5
  a5 := Tryd.isAgg5
  z5 := Tryd.sizeOf5
  v5 := Tryd.zeroValue5
  infoByte := by kernel_rfl
  cellsByte := by kernel_rfl
  sizeByte := by kernel_rfl
  neB5 := by decide }
open Go.RowKit Go.Lib in
/-- THE MAIN CASE: at least two copies of a string that is not empty. (LAID: no walk: one application.) -/
theorem Tryd.strings_Repeat_main (s : ByteArray) (c : Nat) (w : World) (hc2 : 2 ≤ c) (hc : c ≤ 9223372036854775807) (hlen : s.size * c ≤ 140737488355328) (h0 : 0 < s.size) :
    Calls Tryd.prog 62 #[.string s, .int .i64 c] w fun e w' => e = .returned (.string ⟨(Lib.repeatL s.data.toList c).toArray⟩) ∧ Below w.heap.size w w' := Any.strings_Repeat_main Tryd.lays105 Tryd.Builder_Extra_105 s c w hc2 hc hlen h0
open Go.RowKit Go.Lib in
theorem Tryd.strings_Repeat_zero (s : ByteArray) (w : World) :
    Calls Tryd.prog 62 #[.string s, .int .i64 0] w fun e w' => e = .returned (.string ⟨#[]⟩) ∧ w' = w := Any.strings_Repeat_zero Tryd.lays105 s w
open Go.RowKit Go.Lib in
theorem Tryd.strings_Repeat_one (s : ByteArray) (w : World) :
    Calls Tryd.prog 62 #[.string s, .int .i64 1] w fun e w' => e = .returned (.string s) ∧ w' = w := Any.strings_Repeat_one Tryd.lays105 s w
open Go.RowKit Go.Lib in
/-- Copies of the empty string. (LAID: no walk: one application.) -/
theorem Tryd.strings_Repeat_empty (s : ByteArray) (c : Nat) (w : World) (hc2 : 2 ≤ c) (hc : c ≤ 9223372036854775807) (h0 : s.size = 0) :
    Calls Tryd.prog 62 #[.string s, .int .i64 c] w fun e w' => e = .returned (.string ⟨#[]⟩) ∧ w' = w := Any.strings_Repeat_empty Tryd.lays105 s c w hc2 hc h0
open Go.RowKit Go.Lib in
/-- count < 0: "It panics if count is negative". (LAID: no walk: one application.) -/
theorem Tryd.strings_Repeat_negative (s : ByteArray) (c : Int) (w : World) (hc : c < 0) :
    Calls Tryd.prog 62 #[.string s, .int .i64 c] w fun e w' => e = .panicked [{ v := repeatPanic Tryd.lays105_ren "strings: negative Repeat count", recovered := false }] ∧ w' = w := Any.strings_Repeat_negative Tryd.lays105 s c w hc
open Go.RowKit Go.Lib in
/-- len(s) * count is no int: ".. or if the result of (len(s) * count) overflows". (LAID: no walk: one application.) -/
theorem Tryd.strings_Repeat_overflow (s : ByteArray) (c : Nat) (w : World) (hc : c ≤ 9223372036854775807) (hs : s.size ≤ 9223372036854775807) (hbig : 9223372036854775807 < s.size * c) :
    Calls Tryd.prog 62 #[.string s, .int .i64 c] w fun e w' => e = .panicked [{ v := repeatPanic Tryd.lays105_ren "strings: Repeat output length overflow", recovered := false }] ∧ w' = w := Any.strings_Repeat_overflow Tryd.lays105 s c w hc hs hbig
open Go.RowKit Go.Lib in
/-- **strings.Repeat: count ≥ 0, the result within one allocation: count copies of s.** (LAID: no walk: one application.) -/
theorem Tryd.strings_Repeat (s : ByteArray) (c : Nat) (w : World) (hc : c ≤ 9223372036854775807) (hlen : s.size * c ≤ 140737488355328) :
    Calls Tryd.prog 62 #[.string s, .int .i64 c] w fun e w' => e = .returned (.string ⟨(Lib.repeatL s.data.toList c).toArray⟩) ∧ Below w.heap.size w w' := Any.strings_Repeat Tryd.lays105 Tryd.Builder_Extra_105 s c w hc hlen
end Go.Proofs

/- A slice of integers that a call made by append: its block may hold spare places. -/
namespace Go.Proofs.YtalnojpdkiimpaaDoor
open Go.RowKit
set_option linter.unusedVariables false
set_option maxRecDepth 100000
/-- a block whose first n cells are these integers -/
def Row (w : World) (b n : Nat) (f : Nat → Int) : Prop := ∃ c : Array Value, w.heap[b]? = some (.cells c 3 (0, 0)) ∧ ∀ k, k < n → c[k]? = some (.int .i64 (f k))
theorem Row.lt {w : World} {b n : Nat} {f : Nat → Int} (h : Row w b n f) : b < w.heap.size := by obtain ⟨c, h, _⟩ := h; exact lt_of_block' h
theorem Row.cell {w : World} {b n : Nat} {f : Nat → Int} (h : Row w b n f) (k : Nat) (hk : k < n) : w.cell? ⟨b, k, none⟩ = some (.int .i64 (f k)) := by
  obtain ⟨c, h, hc⟩ := h; exact cell_at h (hc k hk)
theorem Row.frozen {w : World} {b n : Nat} {f : Nat → Int} (h : Row w b n f) (k : Nat) : w.frozen? ⟨b, k, none⟩ = false := by
  obtain ⟨c, h, hc⟩ := h; simp [World.frozen?, h]
theorem Row.congr {w : World} {b n : Nat} {f g : Nat → Int} (h : Row w b n f) (e : ∀ k, k < n → f k = g k) : Row w b n g := by
  obtain ⟨c, h, hc⟩ := h; exact ⟨c, h, fun k hk => by rw [hc k hk, e k hk]⟩
theorem Row.ls {w : World} {b n : Nat} {f : Nat → Int} (h : Row w b n f) : Ls w (some ⟨b, 0, none⟩) n f := fun k hk =>
  ⟨b, 0, rfl, h.lt, by rw [Nat.zero_add]; exact h.cell k hk⟩
theorem Row.keep {w w' : World} {b n : Nat} {f : Nat → Int} (h : Row w b n f) (e : w'.heap[b]? = w.heap[b]?) : Row w' b n f := by
  obtain ⟨c, h, hc⟩ := h; exact ⟨c, e.trans h, hc⟩
theorem Row.below {w w' : World} {b n : Nat} {f : Nat → Int} (h : Row w b n f) (g : Below w.heap.size w w') : Row w' b n f := h.keep (g.block b h.lt)
theorem Row.set_ {w : World} {b n : Nat} {f : Nat → Int} (h : Row w b n f) (k : Nat) (x : Int) : Row (w.setCell ⟨b, k, none⟩ (.int .i64 x)) b n (fun j => if j = k then x else f j) := by
  obtain ⟨c, h, hc⟩ := h
  refine ⟨_, heap_setCell_same w b k _ _ _ h, fun j hj => ?_⟩
  have hj' := (Array.getElem?_eq_some_iff.1 (hc j hj)).1
  by_cases e : j = k
  · subst e; simp [hj']
  · rw [Array.getElem?_setIfInBounds_ne (Ne.symm e)]
    simp only [if_neg e]
    exact hc j hj
theorem Own.row {w : World} {b n : Nat} {f : Nat → Int} (h : Own w b n f) : Row w b n f := ⟨_, h, fun k hk => by rw [List.getElem?_toArray]; exact intCells_at f n k hk⟩
/-- a slice that a call made -/
def Rsp (w : World) (lo hi : Nat) (a : Option Addr) (n : Nat) (f : Nat → Int) : Prop := n = 0 ∨ ∃ b, a = some ⟨b, 0, none⟩ ∧ lo ≤ b ∧ b < hi ∧ Row w b n f
theorem Res.rsp {w : World} {lo hi n : Nat} {a : Option Addr} {f : Nat → Int} (h : Res w lo hi a n f) : Rsp w lo hi a n f := by
  rcases h with rfl | ⟨b, rfl, h1, h2, h⟩
  · exact .inl rfl
  · exact .inr ⟨b, rfl, h1, h2, h.row⟩
theorem Rsp.ls {w : World} {lo hi n : Nat} {a : Option Addr} {f : Nat → Int} (h : Rsp w lo hi a n f) : Ls w a n f := by
  rcases h with rfl | ⟨b, rfl, _, _, h⟩
  · exact Ls.none_ _ _ _
  · exact h.ls
theorem Rsp.congr {w : World} {lo hi n : Nat} {a : Option Addr} {f g : Nat → Int} (h : Rsp w lo hi a n f) (e : ∀ k, k < n → f k = g k) : Rsp w lo hi a n g := by
  rcases h with rfl | ⟨b, rfl, h1, h2, h⟩
  · exact .inl rfl
  · exact .inr ⟨b, rfl, h1, h2, h.congr e⟩
theorem Rsp.mono {w : World} {lo hi lo' hi' n : Nat} {a : Option Addr} {f : Nat → Int} (h : Rsp w lo hi a n f) (h1 : lo' ≤ lo) (h2 : hi ≤ hi') : Rsp w lo' hi' a n f := by
  rcases h with rfl | ⟨b, rfl, g1, g2, h⟩
  · exact .inl rfl
  · exact .inr ⟨b, rfl, by omega, by omega, h⟩
theorem Rsp.below {w w' : World} {lo hi n : Nat} {a : Option Addr} {f : Nat → Int} (h : Rsp w lo hi a n f) (g : Below w.heap.size w w') : Rsp w' lo hi a n f := by
  rcases h with rfl | ⟨b, rfl, h1, h2, h⟩
  · exact .inl rfl
  · exact .inr ⟨b, rfl, h1, h2, h.below g⟩
theorem Rsp.mid {w w' : World} {lo hi lo' hi' n : Nat} {a : Option Addr} {f : Nat → Int} (h : Rsp w lo hi a n f) (g : Mid lo' hi' w w') (hd : hi ≤ lo' ∨ hi' ≤ lo) : Rsp w' lo hi a n f := by
  rcases h with rfl | ⟨b, rfl, h1, h2, h⟩
  · exact .inl rfl
  · exact .inr ⟨b, rfl, h1, h2, h.keep (g.block b (by omega))⟩
theorem Rsp.none_ (w : World) (lo hi : Nat) (a : Option Addr) (f : Nat → Int) : Rsp w lo hi a 0 f := .inl rfl
/-- a row grown by append -/
theorem Rsp.of_own {w : World} {base n : Nat} {v : Value} {ys : List Int} (h : w.ownsRow base 3 1 v n (ys.map (Value.int .i64))) :
    ∃ a cap, v = .slice a n cap ∧ n = ys.length ∧ Rsp w base w.heap.size a n (fun k => ys.getD k 0) := by
  have hl := h.1
  rw [List.length_map, Nat.mul_one] at hl
  rcases h.2 with ⟨rfl, rfl⟩ | ⟨g, cap, cur, rfl, hb, hg, h1, h2, h3, h4⟩
  · exact ⟨none, 0, rfl, hl.symm, .inl rfl⟩
  · refine ⟨_, _, rfl, hl.symm, .inr ⟨g, rfl, hb, lt_of_block' hg, cur, hg, fun k hk => ?_⟩⟩
    have e : (cur.toList.take (n * 1))[k]? = (ys.map (Value.int .i64))[k]? := by rw [h4]
    rw [List.getElem?_take_of_lt (by omega), List.getElem?_map, Array.getElem?_toList] at e
    rw [e, List.getElem?_eq_getElem (by omega)]
    simp [List.getD_eq_getElem?_getD, List.getElem?_eq_getElem (show k < ys.length by omega)]
/-- the answer of a call that returns a list and a bool -/
def RowR (w w' : World) (f : Nat → Int) (n : Nat) (ok : Bool) (e : Ending) : Prop :=
  ∃ (a : Option Addr) (m c : Nat), e = .returned (.tuple #[.slice a m c, .bool ok]) ∧ m = (if ok = true then n else 0) ∧ Rsp w' w.heap.size w'.heap.size a m f ∧ Below w.heap.size w w'
end Go.Proofs.YtalnojpdkiimpaaDoor

/- The model's chapter 2 (package spec): l2Pile, l2Of, l2Value. -/
namespace Go.Proofs.YtalnojpdkiimpaaDoor
open Go.RowKit
set_option linter.unusedVariables false
set_option maxRecDepth 100000
theorem Mid.bel0 {B : Nat} {w w' : World} (h : Mid 0 0 w w') : Below B w w' := ⟨h.os, h.tape, h.output, Nat.le_of_eq h.size.symm, fun k hk => h.block k (by omega)⟩
theorem Mid.trans {lo hi : Nat} {a b c : World} (h : Mid lo hi a b) (k : Mid lo hi b c) : Mid lo hi a c := ⟨k.os.trans h.os, k.tape.trans h.tape, k.output.trans h.output, k.size.trans h.size, fun i hi => (k.block i hi).trans (h.block i hi)⟩
/-- a list is a pile of a system -/
def pilB (f : Nat → Int) (n : Nat) (p : Nat → Int) (m : Nat) : Bool := sysB f n && decide (m = n ∧ ∀ j, j < m → 0 ≤ p j ∧ p j ≤ 1000000)
theorem pilB_spec {f : Nat → Int} {n : Nat} {p : Nat → Int} {m : Nat} : pilB f n p m = true ↔ sysB f n = true ∧ m = n ∧ ∀ j, j < m → 0 ≤ p j ∧ p j ≤ 1000000 := by
  unfold pilB
  rw [Bool.and_eq_true, decide_eq_true_eq]
theorem pilB_sys {f : Nat → Int} {n : Nat} {p : Nat → Int} {m : Nat} (h : pilB f n p m = true) : SysF f n ∧ n ≤ 6 ∧ (∀ j, j < n → f j ≤ 1000000) ∧ m = n ∧ (∀ j, j < n → 0 ≤ p j) ∧ ∀ j, j < n → p j ≤ 1000000 := by
  obtain ⟨h1, rfl, h2⟩ := pilB_spec.1 h
  obtain ⟨a, b, c⟩ := sysB_sys h1
  exact ⟨a, b, c, rfl, fun j hj => (h2 j hj).1, fun j hj => (h2 j hj).2⟩
theorem Own.from {w : World} {b n k : Nat} {f : Nat → Int} (h : Own w b n (fun j => if k + 1 ≤ j then f j else 0)) : Own (w.setCell ⟨b, k, none⟩ (.int .i64 (f k))) b n (fun j => if k ≤ j then f j else 0) :=
  (h.set_ k (f k)).congr fun j hj => by
    by_cases e : j = k
    · subst e; simp
    · rw [if_neg e]
      by_cases h2 : k + 1 ≤ j
      · rw [if_pos h2, if_pos (by omega)]
      · rw [if_neg h2, if_neg (by omega)]
/-- a loop down from k - 1 to 0 -/
def DownIx (k : Nat) (i : Value) : Prop := (k = 0 ∧ i = .int .i64 (-1)) ∨ ∃ j : Nat, k = j + 1 ∧ i = .int .i64 (j : Nat)
theorem downIx_mk (k : Nat) : DownIx k (.int .i64 ((k : Int) - 1)) := by
  rcases k with _ | j
  · exact .inl ⟨rfl, rfl⟩
  · exact .inr ⟨j, rfl, by rw [show ((j + 1 : Nat) : Int) - 1 = (j : Int) by omega]⟩
end Go.Proofs.YtalnojpdkiimpaaDoor

/- The model's chapter 4 (package spec): PlaceDays, PlaceFrom, l4Places, PlaceDigits, PlaceNumber. -/
namespace Go.Proofs.YtalnojpdkiimpaaDoor
open Go.RowKit
set_option linter.unusedVariables false
set_option maxRecDepth 100000
def daysF (n : Int) (k : Nat) : Int := if k = 0 then n / 144000 else if k = 1 then n / 7200 % 20 else if k = 2 then n / 360 % 20 else if k = 3 then n / 20 % 18 else n % 20
def daysB (n : Int) : Bool := decide (0 ≤ n ∧ n ≤ 2879999)
/-- is number j of a count of days as told? -/
def dayOk (f : Nat → Int) (j : Nat) : Prop := 0 ≤ f j ∧ f j ≤ 19 ∧ (j = 3 → f j ≤ 17)
def fromB (f : Nat → Int) (n : Nat) : Bool := decide (n = 5) && decide (0 ≤ f 0 ∧ f 0 ≤ 19 ∧ 0 ≤ f 1 ∧ f 1 ≤ 19 ∧ 0 ≤ f 2 ∧ f 2 ≤ 19 ∧ 0 ≤ f 3 ∧ f 3 ≤ 17 ∧ 0 ≤ f 4 ∧ f 4 ≤ 19)
theorem fromB_iff (f : Nat → Int) (n : Nat) : fromB f n = true ↔ n = 5 ∧ ∀ j, j < 5 → dayOk f j := by
  unfold fromB dayOk
  rw [Bool.and_eq_true, decide_eq_true_eq, decide_eq_true_eq]
  constructor
  · rintro ⟨h, h0⟩
    refine ⟨h, fun j hj => ?_⟩
    rcases (show j = 0 ∨ j = 1 ∨ j = 2 ∨ j = 3 ∨ j = 4 by omega) with rfl | rfl | rfl | rfl | rfl <;> refine ⟨by omega, by omega, by omega⟩
  · rintro ⟨h, h0⟩
    have := h0 0 (by omega); have := h0 1 (by omega); have := h0 2 (by omega); have := h0 3 (by omega); have := h0 4 (by omega)
    refine ⟨h, by omega⟩
def fromV (f : Nat → Int) : Int := 144000 * f 0 + 7200 * f 1 + 360 * f 2 + 20 * f 3 + f 4
def fromR (f : Nat → Int) (n : Nat) : Value := if fromB f n = true then .tuple #[.int .i64 (fromV f), .bool true] else .tuple #[.int .i64 0, .bool false]
theorem fromR_yes (f : Nat → Int) (n : Nat) (h : fromB f n = true) : fromR f n = .tuple #[.int .i64 (fromV f), .bool true] := by unfold fromR; rw [if_pos h]
theorem fromR_no (f : Nat → Int) (n : Nat) (h : ¬ fromB f n = true) : fromR f n = .tuple #[.int .i64 0, .bool false] := by unfold fromR; rw [if_neg h]
/-- are these places? -/
def plcB (f : Nat → Int) (n : Nat) : Bool := decide (1 ≤ n ∧ n ≤ 6 ∧ ∀ j, j < n → 2 ≤ f j ∧ f j ≤ 100)
theorem plcB_iff (f : Nat → Int) (n : Nat) : plcB f n = true ↔ 1 ≤ n ∧ n ≤ 6 ∧ ∀ j, j < n → 2 ≤ f j ∧ f j ≤ 100 := by unfold plcB; rw [decide_eq_true_eq]
def plcV (f : Nat → Int) (n : Nat) : Int := if plcB f n = true then prd f n else 0
theorem prd_small (f : Nat → Int) (n k : Nat) (h : ∀ j, j < n → 2 ≤ f j ∧ f j ≤ 100) (hk : k ≤ n) (h6 : k ≤ 6) : 1 ≤ prd f k ∧ prd f k ≤ 1000000000000 := by
  refine ⟨prd_pos f n (fun j hj => (h j hj).1) k hk, Int.le_trans (prd_bound f n h k hk) ?_⟩
  rcases (show k = 0 ∨ k = 1 ∨ k = 2 ∨ k = 3 ∨ k = 4 ∨ k = 5 ∨ k = 6 by omega) with rfl | rfl | rfl | rfl | rfl | rfl | rfl <;> decide
end Go.Proofs.YtalnojpdkiimpaaDoor

/- The model's chapter 4 (package spec): PlaceDigits, PlaceNumber. -/
namespace Go.Proofs.YtalnojpdkiimpaaDoor
open Go.RowKit
set_option linter.unusedVariables false
set_option maxRecDepth 100000
/-- does PlaceDigits give digits? -/
def digB (f : Nat → Int) (n : Nat) (N : Int) : Bool := decide (0 ≤ N ∧ N ≤ plcV f n - 1)
theorem digB_iff (f : Nat → Int) (n : Nat) (N : Int) : digB f n N = true ↔ plcB f n = true ∧ 0 ≤ N ∧ N < prd f n := by
  unfold digB plcV
  rw [decide_eq_true_eq]
  constructor
  · rintro ⟨h0, h1⟩
    split at h1
    · rename_i h; exact ⟨h, h0, by omega⟩
    · omega
  · rintro ⟨h, h0, h1⟩
    rw [if_pos h]
    exact ⟨h0, by omega⟩
theorem lft_le (p : Nat → Int) (n : Nat) (N : Int) (h : ∀ k, k < n → 2 ≤ p k) (h0 : 0 ≤ N) : ∀ j, j ≤ n → 0 ≤ lft p n N j ∧ lft p n N j ≤ N := by
  intro j
  induction j with
  | zero => intro _; exact ⟨h0, Int.le_refl _⟩
  | succ j ih =>
    intro hj
    obtain ⟨a, b⟩ := ih (by omega)
    have hp := h (n - 1 - j) (by omega)
    simp only [lft]
    refine ⟨Int.ediv_nonneg a (by omega), Int.le_trans (Int.ediv_le_self _ a) b⟩
/-- does PlaceNumber give a number? -/
def numB4 (f : Nat → Int) (n : Nat) (d : Nat → Int) (m : Nat) : Bool := plcB f n && (decide (m = n) && decide (∀ j, j < n → 0 ≤ d j ∧ d j ≤ f j - 1))
theorem numB4_iff (f : Nat → Int) (n : Nat) (d : Nat → Int) (m : Nat) : numB4 f n d m = true ↔ plcB f n = true ∧ m = n ∧ ∀ j, j < n → 0 ≤ d j ∧ d j ≤ f j - 1 := by
  unfold numB4
  rw [Bool.and_eq_true, Bool.and_eq_true, decide_eq_true_eq, decide_eq_true_eq]
def numR4 (f : Nat → Int) (n : Nat) (d : Nat → Int) (m : Nat) : Value := if numB4 f n d m = true then .tuple #[.int .i64 (dnum f d n), .bool true] else .tuple #[.int .i64 0, .bool false]
theorem numR4_yes {f : Nat → Int} {n : Nat} {d : Nat → Int} {m : Nat} (h : numB4 f n d m = true) : numR4 f n d m = .tuple #[.int .i64 (dnum f d n), .bool true] := by unfold numR4; rw [if_pos h]
theorem numR4_no {f : Nat → Int} {n : Nat} {d : Nat → Int} {m : Nat} (h : ¬ numB4 f n d m = true) : numR4 f n d m = .tuple #[.int .i64 0, .bool false] := by unfold numR4; rw [if_neg h]
end Go.Proofs.YtalnojpdkiimpaaDoor

/- Chapter 4, plain: how the program finds digits, texts, parts and readings. -/
namespace Go.Proofs.YtalnojpdkiimpaaDoor
set_option linter.unusedVariables false
set_option maxRecDepth 100000
theorem repeat_many (c : UInt8) (k : Nat) : Lib.repeatL [c] k = many [c] k := by
  induction k with
  | zero => simp [Lib.repeatL, many]
  | succ k ih => rw [many_succ, ← ih]; rfl
/-- what stands behind the tens -/
def onesOf (l : List UInt8) : List UInt8 := Lib.trimLeftS l [60]
/-- tens and ones as the program counts them -/
def rdv (l : List UInt8) : Nat := 10 * (l.length - (onesOf l).length) + (onesOf l).length
def rdo (l : List UInt8) : Option Nat := if l = [46] then some 0 else if rdv l < 60 ∧ cdig (rdv l) = l then some (rdv l) else none
theorem ones_le (l : List UInt8) : (onesOf l).length ≤ l.length := by
  unfold onesOf Lib.trimLeftS
  exact (List.dropWhile_sublist _).length_le
theorem ones_cdig (a b : Nat) : onesOf (many [60] a ++ many [89] b) = many [89] b := by
  unfold onesOf Lib.trimLeftS
  induction a with
  | zero =>
    rw [many_zero, List.nil_append]
    cases b with
    | zero => rfl
    | succ b => rw [many_succ]; rfl
  | succ a ih => rw [many_succ, List.append_assoc, List.singleton_append, List.dropWhile_cons_of_pos (by decide)]; exact ih
theorem rdo_iff (l : List UInt8) (d : Nat) : rdo l = some d ↔ d < 60 ∧ cdig d = l := by
  unfold rdo
  constructor
  · intro h
    split at h
    · rename_i e; cases h; exact ⟨by omega, e.symm⟩
    · split at h
      · rename_i e; cases h; exact e
      · cases h
  · rintro ⟨h, rfl⟩
    by_cases hd : d = 0
    · subst hd; rfl
    · have hne : cdig d ≠ [46] := fun e => by
        rcases cdig_mem d 46 (by rw [e]; simp) with h' | ⟨_, h' | h'⟩
        · exact hd h'.1
        · exact absurd h' (by decide)
        · exact absurd h' (by decide)
      have hv : rdv (cdig d) = d := by
        unfold rdv cdig
        rw [if_neg hd, ones_cdig, List.length_append, many_length, many_length]
        simp only [List.length_cons, List.length_nil]
        omega
      rw [if_neg hne, hv, if_pos ⟨h, rfl⟩]
theorem rdo_none (l : List UInt8) (h : ∀ d, d < 60 → cdig d ≠ l) : rdo l = none := by
  cases e : rdo l with
  | none => rfl
  | some d => exact absurd ((rdo_iff l d).1 e).2 (h d ((rdo_iff l d).1 e).1)
/-- the text of digits -/
theorem clay_join (n : Nat) : clay n = Lib.join ((digs n).map cdig) [32] := by
  induction n using Nat.strongRecOn with
  | ind n ih =>
    by_cases h : n < 60
    · rw [clay_low n h, digs_low n h, List.map_singleton, Lib.join_one]
    · rw [clay_high n h, digs_high n h, ih (n / 60) (by omega)]
      obtain ⟨x, r, e⟩ : ∃ x r, digs (n / 60) = x :: r := by
        cases e : digs (n / 60) with
        | nil => exact absurd e (digs_ne _)
        | cons x r => exact ⟨x, r, rfl⟩
      rw [e, List.cons_append, List.map_cons, List.map_cons, Lib.join_cons, Lib.join_cons, List.map_append]
      unfold Lib.joinTail
      simp
/-- the first place of a digit that is written -/
def zed (n : Nat) : Nat := if n < 60 then 3 else if n < 3600 then 2 else if n < 216000 then 1 else 0
theorem zed_le (n : Nat) : zed n ≤ 3 := by unfold zed; split <;> (try split) <;> (try split) <;> omega
/-- the digit at a place -/
def d4 (n k : Nat) : Nat := if k = 0 then n / 216000 % 60 else if k = 1 then n / 3600 % 60 else if k = 2 then n / 60 % 60 else n % 60
theorem d4_lt (n k : Nat) : d4 n k < 60 := by unfold d4; split <;> (try split) <;> (try split) <;> omega
theorem d4_zero (n k : Nat) (h : n < 12960000) (hk : k < zed n) : d4 n k = 0 := by
  unfold zed at hk
  unfold d4
  split at hk <;> (try split at hk) <;> (try split at hk) <;> split <;> (try split) <;> (try split) <;> omega
theorem d4_zed (n : Nat) (h : n < 12960000) (hz : zed n < 3) : d4 n (zed n) ≠ 0 := by
  rcases Nat.lt_or_ge n 60 with h1 | h1
  · unfold zed at hz; rw [if_pos h1] at hz; omega
  · rcases Nat.lt_or_ge n 3600 with h2 | h2
    · rw [show zed n = 2 by unfold zed; rw [if_neg (by omega), if_pos h2]]
      show n / 60 % 60 ≠ 0
      omega
    · rcases Nat.lt_or_ge n 216000 with h3 | h3
      · rw [show zed n = 1 by unfold zed; rw [if_neg (by omega), if_neg (by omega), if_pos h3]]
        show n / 3600 % 60 ≠ 0
        omega
      · rw [show zed n = 0 by unfold zed; rw [if_neg (by omega), if_neg (by omega), if_neg (by omega)]]
        show n / 216000 % 60 ≠ 0
        omega
theorem digs_d4 (n : Nat) (h : n < 12960000) : digs n = (List.range (4 - zed n)).map fun j => d4 n (zed n + j) := by
  unfold zed
  split
  · rename_i h1
    rw [digs_low n h1]
    simp [d4, List.range_succ]
    omega
  · rename_i h1
    rw [digs_high n h1]
    split
    · rename_i h2
      rw [digs_low _ (by omega)]
      simp [d4, List.range_succ]
      omega
    · rename_i h2
      rw [digs_high _ (by omega)]
      split
      · rename_i h3
        rw [digs_low _ (by omega)]
        simp [d4, List.range_succ]
        omega
      · rename_i h3
        rw [digs_high _ (by omega), digs_low _ (by omega)]
        simp [d4, List.range_succ]
        omega
theorem clay_d4 (n : Nat) (h : n < 12960000) : Lib.join ((List.range (4 - zed n)).map fun j => cdig (d4 n (zed n + j))) [32] = clay n := by
  rw [clay_join, digs_d4 n h, List.map_map]
  rfl
/-- the parts of a text between spaces, the last one with what is left -/
def prs : Nat → List UInt8 → List (List UInt8) := Lib.splitK [32] 0
theorem prs_zero (s : List UInt8) : prs 0 s = [s] := rfl
theorem prs_miss (k : Nat) (s : List UInt8) (h : (32 : UInt8) ∉ s) : prs k s = [s] := by
  cases k with
  | zero => rfl
  | succ k =>
    have e : Lib.index s [32] = -1 := by
      rw [Lib.index_one]
      rcases Int.lt_or_le (Lib.indexByte s 32) 0 with hn | hn
      · have := Lib.index_ge s [32]; rw [Lib.index_one] at this; omega
      · obtain ⟨o, ho⟩ := Int.eq_ofNat_of_zero_le hn
        exact absurd (List.mem_of_getElem? (Lib.indexByte_some ho).1) h
    unfold prs Lib.splitK
    rw [e]; rfl
theorem prs_hit (k : Nat) (x r : List UInt8) (h : (32 : UInt8) ∉ x) : prs (k + 1) (x ++ 32 :: r) = x :: prs k r := by
  have e : Lib.index (x ++ 32 :: r) [32] = (x.length : Nat) := by
    refine Lib.index_first (by simp) ?_ fun j hj => ?_
    · unfold Lib.occAt; rw [List.drop_left]; rfl
    · unfold Lib.occAt
      rw [List.drop_append_of_le_length (by omega)]
      have : x.drop j ≠ [] := by intro e; have := congrArg List.length e; simp at this; omega
      cases e2 : x.drop j with
      | nil => exact absurd e2 this
      | cons c t =>
        have hc : c ∈ x := List.mem_of_mem_drop (by rw [e2]; simp)
        have : c ≠ 32 := fun e => h (e ▸ hc)
        simp [List.isPrefixOf]
        exact fun e => this e.symm
  have hne : (((x.length : Nat) : Int) == -1) = false := by rw [beq_eq_false_iff_ne]; omega
  unfold prs
  rw [Lib.splitK, e, hne]
  simp
theorem prs_len (k : Nat) : ∀ s, 1 ≤ (prs k s).length ∧ (prs k s).length ≤ k + 1 := by
  induction k with
  | zero => intro s; rw [prs_zero]; simp
  | succ k ih =>
    intro s
    by_cases h : (32 : UInt8) ∈ s
    · obtain ⟨x, r, rfl, hx⟩ := List.eq_append_cons_of_mem h
      rw [prs_hit k x r hx, List.length_cons]
      have := ih r
      omega
    · rw [prs_miss _ s h]; simp
theorem join_tail (p : List UInt8) (r : List (List UInt8)) : Lib.joinTail [32] (p :: r) = 32 :: Lib.join (p :: r) [32] := by
  rw [Lib.join_cons]; unfold Lib.joinTail; simp
theorem prs_ne (k : Nat) (s : List UInt8) : ∃ p r, prs k s = p :: r := by
  cases e : prs k s with
  | nil => have := (prs_len k s).1; rw [e] at this; simp at this
  | cons p r => exact ⟨p, r, rfl⟩
theorem prs_join (k : Nat) : ∀ s, Lib.join (prs k s) [32] = s := by
  induction k with
  | zero => intro s; rw [prs_zero, Lib.join_one]
  | succ k ih =>
    intro s
    by_cases h : (32 : UInt8) ∈ s
    · obtain ⟨x, r, rfl, hx⟩ := List.eq_append_cons_of_mem h
      have e := ih r
      obtain ⟨p, q, hp⟩ := prs_ne k r
      rw [prs_hit k x r hx, Lib.join_cons]
      rw [hp] at e ⊢
      rw [join_tail, e]
    · rw [prs_miss _ s h, Lib.join_one]
theorem cdig_space (d : Nat) : (32 : UInt8) ∉ cdig d := fun h => by
  rcases cdig_mem d 32 h with ⟨_, h⟩ | ⟨_, h | h⟩ <;> exact absurd h (by decide)
theorem prs_digs : ∀ (ds : List Nat) (k : Nat), ds ≠ [] → ds.length ≤ k + 1 → prs k (Lib.join (ds.map cdig) [32]) = ds.map cdig
  | [], k, h, _ => absurd rfl h
  | [d], k, _, _ => by rw [List.map_singleton, Lib.join_one, prs_miss k _ (cdig_space d)]
  | d :: e :: r, k, _, hk => by
    obtain ⟨j, rfl⟩ : ∃ j, k = j + 1 := ⟨k - 1, by simp at hk; omega⟩
    have ih := prs_digs (e :: r) j (by simp) (by simp at hk ⊢; omega)
    rw [List.map_cons, Lib.join_cons]
    rw [List.map_cons] at ih ⊢
    rw [join_tail, prs_hit j _ _ (cdig_space d), ih]
theorem dfold_lt (ds : List Nat) : ∀ n, (∀ d ∈ ds, d < 60) → dfold n ds < (n + 1) * 60 ^ ds.length := by
  induction ds with
  | nil => intro n _; simp [dfold]
  | cons d r ih =>
    intro n h
    have h1 := h d (by simp)
    have h2 := ih (60 * n + d) (fun e he => h e (by simp [he]))
    show dfold (60 * n + d) r < _
    rw [List.length_cons, Nat.pow_succ]
    refine Nat.lt_of_lt_of_le h2 ?_
    rw [show (n + 1) * (60 ^ r.length * 60) = ((n + 1) * 60) * 60 ^ r.length by rw [Nat.mul_comm (60 ^ r.length), Nat.mul_assoc]]
    exact Nat.mul_le_mul_right _ (by omega)
theorem digs_head (n : Nat) : 1 ≤ n → ∃ d r, digs n = d :: r ∧ 1 ≤ d := by
  induction n using Nat.strongRecOn with
  | ind n ih =>
    intro h
    by_cases hn : n < 60
    · exact ⟨n, [], digs_low n hn, h⟩
    · obtain ⟨d, r, e, hd⟩ := ih (n / 60) (by omega) (by omega)
      exact ⟨d, r ++ [n % 60], by rw [digs_high n hn, e]; rfl, hd⟩
/-- how many spaces are cut at -/
def cuts (l : List UInt8) : Nat := min 4 (l.length + 1) - 1
theorem read_yes (l : List UInt8) (ds : List Nat) (h : ds.map cdig = prs (cuts l) l) (hd : ∀ d ∈ ds, d < 60) (h0 : ¬ (1 < ds.length ∧ ds.head? = some 0)) : dfold 0 ds ≤ 12959999 ∧ clay (dfold 0 ds) = l := by
  have hl := prs_len (cuts l) l
  rw [← h, List.length_map] at hl
  have hlen : ds.length ≤ 4 := by unfold cuts at hl; omega
  have hb := dfold_lt ds 0 hd
  have hb2 : 60 ^ ds.length ≤ 60 ^ 4 := Nat.pow_le_pow_right (by omega) hlen
  have hdg : digs (dfold 0 ds) = ds := by
    cases ds with
    | nil => simp at hl
    | cons d r =>
      by_cases hr : r = []
      · subst hr
        have := hd d (by simp)
        show digs (60 * 0 + d) = _
        rw [Nat.mul_zero, Nat.zero_add, digs_low d this]
      · refine fold_digs0 d r ?_ (hd d (by simp)) (fun e he => hd e (by simp [he]))
        rcases Nat.eq_zero_or_pos d with e | e
        · exact absurd ⟨by have := List.length_pos_iff.2 hr; simp; omega, by rw [e]; rfl⟩ h0
        · exact e
  refine ⟨by omega, ?_⟩
  rw [clay_join, hdg, h, prs_join]
theorem digs_len4 (n : Nat) (h : n < 12960000) : (digs n).length ≤ 4 := by
  rw [digs_d4 n h, List.length_map, List.length_range]
  omega
theorem lens_join (ds : List Nat) (h : ds ≠ []) : ds.length - 1 ≤ (Lib.join (ds.map cdig) [32]).length := by
  cases ds with
  | nil => exact absurd rfl h
  | cons d r =>
    rw [List.map_cons, Lib.join_length, List.length_map]
    simp
theorem read_no (l : List UInt8) (h : isC l = true) : ∃ ds : List Nat, ds.map cdig = prs (cuts l) l ∧ (∀ d ∈ ds, d < 60) ∧ ¬ (1 < ds.length ∧ ds.head? = some 0) := by
  obtain ⟨h1, h2⟩ := isC_of l h
  refine ⟨digs (cval l), ?_, digs_lt _, ?_⟩
  · have hj : Lib.join ((digs (cval l)).map cdig) [32] = l := by rw [← clay_join, h2]
    have hlj := lens_join (digs (cval l)) (digs_ne _)
    rw [hj] at hlj
    have h4 := digs_len4 (cval l) (by omega)
    have := prs_digs (digs (cval l)) (cuts l) (digs_ne _) (by unfold cuts; omega)
    rw [hj] at this
    exact this.symm
  · rintro ⟨a, b⟩
    by_cases h0 : cval l = 0
    · rw [h0, digs_low 0 (by omega)] at a; simp at a
    · obtain ⟨d, r, e, hd⟩ := digs_head (cval l) (by omega)
      rw [e] at b
      simp at b
      omega
/-- readings as the program finds them -/
def prt2 : Nat → List UInt8 → Nat → List Nat
  | _, [], n => [n]
  | 0, _ :: _, _ => []
  | f + 1, c :: s, n => (List.range (s.length + 1)).flatMap fun i => (rdo ((c :: s).take (i + 1))).elim [] fun d => prt2 f ((c :: s).drop (i + 1)) (60 * n + d)
theorem mem_piece (g : Nat → List Nat) (o : Option Nat) (x : Nat) : x ∈ o.elim [] g ↔ ∃ d, o = some d ∧ x ∈ g d := by
  cases o with
  | none => simp
  | some d => simp
theorem mem_prt2 (f : Nat) : ∀ (s : List UInt8) (n x : Nat), (46 : UInt8) ∉ s → (x ∈ prt2 f s n ↔ ∃ ds : List Nat, ds.length ≤ f ∧ (∀ d ∈ ds, 1 ≤ d ∧ d < 60) ∧ ds.flatMap cdig = s ∧ x = dfold n ds) := by
  have hne : ∀ d, d < 60 → cdig d ≠ [] := fun d h2 h => by have := cdig_len d h2; rw [h] at this; simp at this
  have hnil : ∀ (f n x : Nat), x ∈ ([n] : List Nat) ↔ ∃ ds : List Nat, ds.length ≤ f ∧ (∀ d ∈ ds, 1 ≤ d ∧ d < 60) ∧ ds.flatMap cdig = [] ∧ x = dfold n ds := fun f n x => by
    have := mem_prts f [] n x
    simpa [prts] using this
  induction f with
  | zero =>
    intro s n x hs
    cases s with
    | nil => simp only [prt2]; exact hnil 0 n x
    | cons c s =>
      simp only [prt2, List.not_mem_nil, false_iff]
      rintro ⟨ds, h1, h2, h3, h4⟩
      have : ds = [] := List.length_eq_zero_iff.1 (by omega)
      subst this
      simp at h3
  | succ f ih =>
    intro s n x hs
    cases s with
    | nil => simp only [prt2]; exact hnil (f + 1) n x
    | cons c s =>
      simp only [prt2, List.mem_flatMap, List.mem_range, mem_piece]
      constructor
      · rintro ⟨i, hi, d, hd, hx⟩
        obtain ⟨d1, d2⟩ := (rdo_iff _ _).1 hd
        rw [ih _ _ _ (fun h => hs (List.mem_of_mem_drop h))] at hx
        obtain ⟨ds, h1, h2, h3, h4⟩ := hx
        refine ⟨d :: ds, by simp; omega, ?_, ?_, h4⟩
        · intro e he
          rcases List.mem_cons.1 he with rfl | he
          · refine ⟨?_, d1⟩
            rcases Nat.eq_zero_or_pos e with rfl | h
            · exact absurd (List.mem_of_mem_take (i := i + 1) (by rw [← d2]; simp [cdig])) hs
            · exact h
          · exact h2 e he
        · rw [List.flatMap_cons, h3, d2, List.take_append_drop]
      · rintro ⟨ds, h1, h2, h3, h4⟩
        cases ds with
        | nil => simp at h3
        | cons d r =>
          have hd := h2 d (by simp)
          rw [List.flatMap_cons] at h3
          have hl := cdig_len d hd.2
          have hl2 := congrArg List.length h3
          simp only [List.length_append, List.length_cons] at hl2
          have ht : (c :: s).take ((cdig d).length - 1 + 1) = cdig d := by rw [← h3, show (cdig d).length - 1 + 1 = (cdig d).length by omega, List.take_left]
          have hdr : (c :: s).drop ((cdig d).length - 1 + 1) = r.flatMap cdig := by rw [← h3, show (cdig d).length - 1 + 1 = (cdig d).length by omega, List.drop_left]
          refine ⟨(cdig d).length - 1, by omega, d, (rdo_iff _ _).2 ⟨hd.2, ht.symm⟩, ?_⟩
          rw [hdr, ih _ _ _ (fun h => hs (by rw [← h3]; exact List.mem_append_right _ h))]
          exact ⟨r, by simp at h1; omega, fun e he => h2 e (by simp [he]), rfl, h4⟩
theorem prt2_nodup (f : Nat) : ∀ (s : List UInt8) (n : Nat), (46 : UInt8) ∉ s → (prt2 f s n).Pairwise (· ≠ ·) := by
  induction f with
  | zero =>
    intro s n _
    cases s with
    | nil => simp [prt2]
    | cons c s => simp [prt2]
  | succ f ih =>
    intro s n hs
    cases s with
    | nil => simp [prt2]
    | cons c s =>
      simp only [prt2]
      rw [List.pairwise_flatMap]
      refine ⟨fun i hi => ?_, ?_⟩
      · cases rdo ((c :: s).take (i + 1)) with
        | none => exact List.Pairwise.nil
        | some d => exact ih _ _ (fun h => hs (List.mem_of_mem_drop h))
      · have key : ∀ i x, x ∈ ((rdo ((c :: s).take (i + 1))).elim [] fun d => prt2 f ((c :: s).drop (i + 1)) (60 * n + d)) → ∃ d r, digs x = (if n = 0 then [] else digs n) ++ d :: r ∧ cdig d = (c :: s).take (i + 1) := by
          intro i x hx
          obtain ⟨d, hd, hx⟩ := (mem_piece _ _ _).1 hx
          obtain ⟨d1, d2⟩ := (rdo_iff _ _).1 hd
          have d0 : 1 ≤ d := by
            rcases Nat.eq_zero_or_pos d with rfl | h
            · exact absurd (List.mem_of_mem_take (i := i + 1) (by rw [← d2]; simp [cdig])) hs
            · exact h
          rw [mem_prt2 f _ _ _ (fun h => hs (List.mem_of_mem_drop h))] at hx
          obtain ⟨ds, h1, h2, h3, rfl⟩ := hx
          refine ⟨d, ds, ?_, d2⟩
          rw [fold_digs ds _ (by omega) (fun d hd => (h2 d hd).2), digs_snoc n d (by omega) (by omega)]
          simp
        refine List.Pairwise.imp_of_mem ?_ (List.pairwise_lt_range (n := s.length + 1))
        intro i j hi hj hlt x hx y hy e
        obtain ⟨d, r, hr, hd⟩ := key i x hx
        obtain ⟨d', t, ht, hd'⟩ := key j y hy
        rw [e, ht] at hr
        have := List.append_cancel_left hr
        simp only [List.cons.injEq] at this
        rw [this.1, hd] at hd'
        have hl := congrArg List.length hd'
        have hj' := List.mem_range.1 hj
        simp only [List.length_take, List.length_cons] at hl
        omega
/-- put in order -/
theorem prt2_sorted (s : List UInt8) (h0 : s ≠ []) (hs : (46 : UInt8) ∉ s) : ((prt2 3 s 0).map fun (n : Nat) => (n : Int)).mergeSort (fun x y => decide (x ≤ y)) = (rds s).map fun (n : Nat) => (n : Int) := by
  rw [← List.map_mergeSort (r := fun x y => decide (x ≤ y)) (fun a _ b _ => by simp)]
  refine congrArg (List.map _) ?_
  have hp := List.mergeSort_perm (prt2 3 s 0) (fun x y => decide (x ≤ y))
  refine asc_unique _ _ ?_ (rds_asc s) fun x => ?_
  · have h1 : ((prt2 3 s 0).mergeSort (fun x y => decide (x ≤ y))).Pairwise (fun a b => decide (a ≤ b) = true) := List.pairwise_mergeSort (by simp; omega) (by simp; omega) _
    have h2 : ((prt2 3 s 0).mergeSort (fun x y => decide (x ≤ y))).Pairwise (· ≠ ·) := (hp.pairwise_iff (fun h => h.symm)).2 (prt2_nodup 3 s 0 hs)
    exact (h1.and h2).imp fun ⟨a, b⟩ => by simp at a; omega
  · rw [hp.mem_iff, mem_prt2 3 s 0 x hs, ← mem_prts, mem_prts0 s h0]
end Go.Proofs.YtalnojpdkiimpaaDoor

/- The program's chapter 4: its places. -/
namespace Go.Proofs.YtalnojpdkiimpaaDoor
open Go.RowKit
set_option linter.unusedVariables false
set_option maxRecDepth 100000
theorem here4 (o : Oper) {P : Program} {w : World} {ops : Array Oper} {rest : List Oper} {a : Act} {Q : Exit → Act → World → Prop} (h : wpList P ops Q (o :: rest) a w) : wpList P ops Q (o :: rest) a w := h
def rep60 (k : Nat) : List Value := [.int .i64 60, .int .i64 (if 2 ≤ k then 60 else 0), .int .i64 (if 4 ≤ k then 60 else 0), .int .i64 (if 4 ≤ k then 60 else 0)]
theorem sz_int4 : (Tryd.prog.info? 3).map (·.size) = some 1 := by kernel_rfl
theorem cells_rep {w : World} (b k : Nat) (m : Nat) (h : w.heap[b]? = some (.cells (rep60 k).toArray 3 (0, 0))) (hm : m ≤ k) (h4 : m ≤ 2) :
    ∀ (j : Nat) v, (List.replicate m (Value.int .i64 60))[j]? = some v → w.cell? ((⟨b, 0, none⟩ : Addr).add j) = some v := by
  intro j v hv
  have hj : j < m := by
    rcases Nat.lt_or_ge j m with h | h
    · exact h
    · rw [List.getElem?_eq_none (by simpa using h)] at hv; cases hv
  have e : (⟨b, 0, none⟩ : Addr).add j = ⟨b, j, none⟩ := by unfold Addr.add; split <;> simp_all
  rw [e]
  refine cell_at h ?_
  rw [List.getElem?_toArray, ← hv]
  rcases (show j = 0 ∨ j = 1 by omega) with rfl | rfl
  · rw [List.getElem?_replicate, if_pos (by omega)]; rfl
  · rw [List.getElem?_replicate, if_pos (by omega)]; simp [rep60]; omega
theorem rep60_any (w : World) (b : Nat) (h : w.heap[b]? = some (.cells #[.int .i64 60] 3 (0, 0))) :
    Calls Tryd.prog 61 #[.slice (some ⟨b, 0, none⟩) 1 1, .int .i64 4] w fun e w' => e = .returned (.slice (some ⟨w.heap.size, 0, none⟩) 4 4) ∧ Own w' w.heap.size 4 (fun _ => 60) ∧ Below w.heap.size w w' := by
  have hmk : Sem.run Tryd.prog (Instr.makeSlice 71 (.int .i64 4) (.int .i64 4)) w = .ok (.slice (some ⟨w.heap.size, 0, none⟩) 4 4) (w.alloc (.cells #[.int .i64 0, .int .i64 0, .int .i64 0, .int .i64 0] 3)) := by kernel_rfl
  have M := Lib.hid (Tryd.bits_Mul 1 4 (by omega) (by omega) w)
  have hb0 := lt_of_block' h
  have H1 : Hid ((w.alloc (.cells #[.int .i64 0, .int .i64 0, .int .i64 0, .int .i64 0] 3)).heap[b]? = some (.cells #[.int .i64 60] 3 (0, 0))) := (Below.heap_alloc _ _ _ hb0).trans h
  have H2 := Lib.hid (heap_alloc_new w (.cells #[.int .i64 0, .int .i64 0, .int .i64 0, .int .i64 0] 3))
  have HB := Lib.hid ((Below.refl _ w).alloc (Nat.le_refl _) (.cells #[.int .i64 0, .int .i64 0, .int .i64 0, .int .i64 0] 3))
  go_enter Tryd.func61, Tryd.ntmps61
  go_wp2_with fail
  refine M.out.mono ?_
  rintro e w1 ⟨rfl, rfl⟩
  go_wp2_with (with_reducible refine here4 ⟨some 33, _, _, _, _, _⟩ ?_
               refine wpList_copy_splice rfl (.tmp 31) (.tmp 32) 71 71 rfl 3 Tryd.underlying71 sz_int4 (some ⟨w1.heap.size, 0, none⟩) (some ⟨b, 0, none⟩) 4 4 1 1 rfl rfl w1.heap.size 0 [.int .i64 0, .int .i64 0, .int .i64 0, .int .i64 0] 3 H2.out [.int .i64 60] rfl (fun _ => ⟨rfl, _, rfl, ?_⟩) (by decide) (by simp [Value.oneCell']) w1.heap.size w1 HB.out (Nat.le_refl _) ?_)
  · intro j v hv
    have e : (⟨b, 0, none⟩ : Addr).add j = ⟨b, j, none⟩ := by unfold Addr.add; split <;> simp_all
    rw [e]
    refine cell_at H1.out ?_
    rw [← hv]
    rcases j with _ | j <;> rfl
  · intro w2 hg2 hb2
    have HB2 := Lib.hid hb2; clear hb2
    go_wp2_with fail
    go_loopw [8] (fun x wr => ∃ k : Nat, (k = 1 ∨ k = 2 ∨ k = 4) ∧ x = .int .i64 k ∧ wr.heap[w1.heap.size]? = some (.cells (rep60 k).toArray 3 (0, 0)) ∧ Below w1.heap.size w1 wr) (fun x _ => 4 - (intOf x).toNat)
    case atStart => exact ⟨1, .inl rfl, rfl, hg2.out, HB2.out⟩
    case round =>
      clear hmk H1 H2 HB hg2 HB2
      obtain ⟨k, hk, rfl, hg, hb⟩ := hrel
      have Hg := Lib.hid hg; have Hb := Lib.hid hb; clear hg hb
      rcases hk with rfl | rfl | rfl
      · have Hc : Hid (∀ (j : Nat) v, ([.int .i64 60] : List Value)[j]? = some v → wr.drew.cell? ((⟨w1.heap.size, 0, none⟩ : Addr).add j) = some v) := cells_rep (w := wr.drew) w1.heap.size 1 1 Hg.out (by omega) (by omega)
        go_wp2_with fail
        go_region_law (refine step_copy_splice rfl (.tmp 41) (.tmp 44) 71 71 rfl 3 Tryd.underlying71 sz_int4 (some ⟨w1.heap.size, 1, none⟩) (some ⟨w1.heap.size, 0, none⟩) 3 3 1 4 (by simp [Act.eval, Act.put]) (by simp [Act.eval, Act.put]) w1.heap.size 1 (rep60 1) 3 Hg.out [.int .i64 60] rfl (fun _ => ⟨rfl, _, rfl, Hc.out⟩) (by decide) (by simp [Value.oneCell']) w1.heap.size w1 (Hb.out.trans ⟨rfl, rfl, rfl, Nat.le_refl _, fun _ _ => rfl⟩) (Nat.le_refl _) ?_; intro w3 hg3 hb3)
        all_goals
          have HB3 := Lib.hid hb3; clear hb3
          go_simp
          go_wp2_with fail
          go_roundw
          case rel => exact ⟨2, .inr (.inl rfl), by go_num, hg3.out, HB3.out⟩
          case measure => simp [intOf, show IntKind.i64.wrap 2 = 2 by decide]
      · have Hc : Hid (∀ (j : Nat) v, ([.int .i64 60, .int .i64 60] : List Value)[j]? = some v → wr.drew.cell? ((⟨w1.heap.size, 0, none⟩ : Addr).add j) = some v) := cells_rep (w := wr.drew) w1.heap.size 2 2 Hg.out (by omega) (by omega)
        go_wp2_with fail
        go_region_law (refine step_copy_splice rfl (.tmp 41) (.tmp 44) 71 71 rfl 3 Tryd.underlying71 sz_int4 (some ⟨w1.heap.size, 2, none⟩) (some ⟨w1.heap.size, 0, none⟩) 2 2 2 4 (by simp [Act.eval, Act.put]) (by simp [Act.eval, Act.put]) w1.heap.size 2 (rep60 2) 3 Hg.out [.int .i64 60, .int .i64 60] rfl (fun _ => ⟨rfl, _, rfl, Hc.out⟩) (by decide) (by simp [Value.oneCell']) w1.heap.size w1 (Hb.out.trans ⟨rfl, rfl, rfl, Nat.le_refl _, fun _ _ => rfl⟩) (Nat.le_refl _) ?_; intro w3 hg3 hb3)
        all_goals
          have HB3 := Lib.hid hb3; clear hb3
          go_simp
          go_wp2_with fail
          go_roundw
          case rel => exact ⟨4, .inr (.inr rfl), by go_num, hg3.out, HB3.out⟩
          case measure => simp [intOf, show IntKind.i64.wrap 4 = 4 by decide]
      · go_wp2_with fail
        go_ret
        exact ⟨rfl, Hg.out, Hb.out⟩
theorem clayPlaces_any (w : World) : Calls Tryd.prog 49 #[] w fun e w' => ∃ b, e = .returned (.slice (some ⟨b, 0, none⟩) 4 4) ∧ w.heap.size ≤ b ∧ b < w'.heap.size ∧ Own w' b 4 (fun _ => 60) ∧ Below w.heap.size w w' := by
  have R := Lib.hid (rep60_any (w.alloc (.cells #[.int .i64 60] 3)) w.heap.size (heap_alloc_new w _))
  go_enter Tryd.func49, Tryd.ntmps49
  go_wp2_with fail
  refine R.out.mono ?_
  rintro e w1 ⟨rfl, ho, hb⟩
  have HO := Lib.hid ho; have HB := Lib.hid hb; clear ho hb
  go_wp2_with fail
  go_ret
  have ho2 := HO.out
  rw [show (w.alloc (.cells #[.int .i64 60] 3)).heap.size = w.heap.size + 1 by simp] at ho2
  refine ⟨_, rfl, by simp, ho2.lt, ho2, ((Below.refl _ w).alloc (Nat.le_refl _) _).trans (HB.out.mono (by simp))⟩
def dayp (k : Nat) : Int := if k = 3 then 18 else 20
theorem lft_ge (p : Nat → Int) (n : Nat) (N : Int) (h : ∀ k, k < n → 2 ≤ p k) (h1 : prd p n ≤ N) : ∀ j, j ≤ n → prd p (n - j) ≤ lft p n N j := by
  intro j
  induction j with
  | zero => intro _; exact h1
  | succ j ih =>
    intro hj
    have a := ih (by omega)
    have hp := h (n - 1 - j) (by omega)
    rw [show n - j = (n - 1 - j) + 1 by omega] at a
    rw [show n - (j + 1) = n - 1 - j by omega]
    simp only [prd, lft] at a ⊢
    exact Int.le_ediv_of_mul_le (by omega) a
/-- has a number as many digits? -/
def dgB (p : Nat → Int) (n : Nat) (N : Int) : Bool := decide (0 ≤ N ∧ N < prd p n)
theorem lft_iff (p : Nat → Int) (n : Nat) (N : Int) (h : ∀ k, k < n → 2 ≤ p k) (h0 : 0 ≤ N) : N < prd p n ↔ ¬ 0 < lft p n N n := by
  constructor
  · intro h1; rw [lft_zero p n N h h0 h1]; omega
  · intro h1
    rcases Int.lt_or_le N (prd p n) with h2 | h2
    · exact h2
    · have := lft_ge p n N h h2 n (Nat.le_refl _)
      rw [Nat.sub_self] at this
      simp only [prd] at this
      omega
set_option maxHeartbeats 1000000 in
theorem digitsOf_any (a : Option Addr) (n c : Nat) (f : Nat → Int) (N : Int) (w : World) (h : Ls w a n f) (hn : n ≤ 10000000) (hp : ∀ k, k < n → 2 ≤ f k ∧ f k ≤ 100) (hN : N ≤ 9223372036854775807) :
    Calls Tryd.prog 50 #[.slice a n c, .int .i64 N] w fun e w' => RowR w w' (pdg f n N) n (dgB f n N) e := by
  obtain ⟨i0, hi, hz0, hz1, hz2⟩ := info_parts info_int
  have H := Lib.hid h; clear h
  by_cases hneg : N < 0
  · have HB : Hid (dgB f n N = false) := Lib.hid (decide_eq_false (by omega))
    go_enter Tryd.func50, Tryd.ntmps50
    go_wp2_with fail
    go_ret2
    exact ⟨_, _, _, by rw [HB.out]; rfl, by rw [HB.out]; rfl, Rsp.none_ _ _ _ _ _, Below.refl _ _⟩
  · have h0 : 0 ≤ N := by omega
    have P4 := Lib.hid hp
    have L := Lib.hid (lft_le f n N (fun k hk => (hp k hk).1) h0)
    have I := Lib.hid (lft_iff f n N (fun k hk => (hp k hk).1) h0)
    clear hp
    go_enter Tryd.func50, Tryd.ntmps50
    go_wp2_with (at_make; refine wpList_make_ints _ rfl _ _ 69 rfl i0 Tryd.underlying69 hi hz0 hz1 hz2 n (by omega) rfl rfl ?_; intro w1 hown hb hsz)
    have Hown := Lib.hid hown; have Hb := Lib.hid hb; have Hsz := Lib.hid hsz
    clear hown hb hsz
    go_loopw [1, 7] (fun x i wr => ∃ k : Nat, DownIx k i ∧ k ≤ n ∧ x = .int .i64 (lft f n N (n - k)) ∧ Own wr w.heap.size n (fun j => if k ≤ j then pdg f n N j else 0) ∧ Below w.heap.size w wr ∧ wr.heap.size = w.heap.size + 1) (fun _ i _ => (intOf i + 1).toNat)
    case atStart => exact ⟨n, downIx_mk n, by omega, by rw [Nat.sub_self]; rfl, Hown.out.congr fun j hj => by rw [if_neg (by omega)], Hb.out, Hsz.out⟩
    case round =>
      obtain ⟨k, hik, hk, rfl, hown, hbel, hsz⟩ := hrel
      have Ho := Lib.hid hown; have Hbe := Lib.hid hbel; have Hsz := Lib.hid hsz
      clear hsz
      rcases hik with ⟨rfl, rfl⟩ | ⟨k, rfl, rfl⟩
      · clear hown hbel
        rw [Nat.sub_zero]
        by_cases hgt : 0 < lft f n N n
        · have HB : Hid (dgB f n N = false) := Lib.hid (decide_eq_false fun h => by have := I.out.1 h.2; omega)
          generalize lft f n N n = r at *
          go_wp2_with fail
          go_ret2
          exact ⟨_, _, _, by rw [HB.out]; rfl, by rw [HB.out]; rfl, Rsp.none_ _ _ _ _ _, Hbe.out⟩
        · have HB : Hid (dgB f n N = true) := Lib.hid (decide_eq_true ⟨h0, I.out.2 (by omega)⟩)
          generalize lft f n N n = r at *
          go_wp2_with fail
          go_ret2
          refine ⟨_, n, n, by rw [HB.out]; rfl, by rw [HB.out, if_pos rfl], ?_, Hbe.out⟩
          exact Rsp.mono (Res.rsp (Ho.out.congr fun j hj => by simp).res) (Nat.le_refl _) (by rw [Hsz.out]; exact Nat.le_refl _)
      · obtain ⟨b, off, rfl, hb, hc⟩ := H.out k (by omega)
        have hc1 : wr.cell? ⟨b, off + k, none⟩ = some (.int .i64 (f k)) := (hbel.cell (p := ⟨b, off + k, none⟩) hb).trans hc
        obtain ⟨v0, hv0⟩ : ∃ v0, wr.cell? ⟨w.heap.size, k, none⟩ = some v0 := ⟨_, hown.cell k (by omega)⟩
        have hfr := hown.frozen k
        have hfp := P4.out k (by omega)
        obtain ⟨hr0, hr1⟩ := L.out (n - (k + 1)) (by omega)
        have hr2 := Int.le_trans hr1 hN
        have Hst : Hid (lft f n N (n - k) = lft f n N (n - (k + 1)) / f k) := Lib.hid (by rw [show n - k = (n - (k + 1)) + 1 by omega]; simp only [lft]; rw [show n - 1 - (n - (k + 1)) = k by omega])
        have Hpl : Hid (pdg f n N k = lft f n N (n - (k + 1)) % f k) := Lib.hid (by unfold pdg; rw [show n - 1 - k = n - (k + 1) by omega])
        have HO : Hid (Own (wr.setCell ⟨w.heap.size, k, none⟩ (.int .i64 (lft f n N (n - (k + 1)) % f k))) w.heap.size n (fun j => if k ≤ j then pdg f n N j else 0)) := by
          rw [← Hpl.out]; exact Ho.out.from
        have HB2 : Hid (Below w.heap.size w (wr.setCell ⟨w.heap.size, k, none⟩ (.int .i64 (lft f n N (n - (k + 1)) % f k)))) := Hbe.out.setCell (Nat.le_refl _) _
        have hc2 : (wr.setCell ⟨w.heap.size, k, none⟩ (.int .i64 (lft f n N (n - (k + 1)) % f k))).cell? ⟨b, off + k, none⟩ = some (.int .i64 (f k)) := (HB2.out.cell (p := ⟨b, off + k, none⟩) hb).trans hc
        clear hown hbel hc hr1
        generalize lft f n N (n - (k + 1)) = r at *
        generalize f k = v at *
        go_wp2_with fail
        go_roundw
        case rel => exact ⟨k, downIx_mk k, by omega, by rw [Hst.out], HO.out, HB2.out, by simp [World.setCell]; exact Hsz.out⟩
        case measure => simp [intOf]
end Go.Proofs.YtalnojpdkiimpaaDoor

/- The program's chapter 4: clayDigit, PlaceOf. -/
namespace Go.Proofs.YtalnojpdkiimpaaDoor
open Go.RowKit
set_option linter.unusedVariables false
set_option maxRecDepth 100000
theorem repeat_any (c : UInt8) (k : Int) (n : Nat) (hk : k = n) (w : World) (hn : n ≤ 1000) : Calls Tryd.prog 62 #[.string ⟨#[c]⟩, .int .i64 k] w fun e w' => e = .returned (.string ⟨(many [c] n).toArray⟩) ∧ Below w.heap.size w w' := by
  subst hk
  have h := Tryd.strings_Repeat ⟨#[c]⟩ n w (by omega) (by show 1 * n ≤ _; omega)
  rwa [show ((⟨#[c]⟩ : ByteArray).data.toList) = [c] from rfl, repeat_many] at h
theorem clayDigit_any (d : Nat) (w : World) (h : d < 60) : Calls Tryd.prog 51 #[.int .i64 d] w fun e w' => e = .returned (.string ⟨(cdig d).toArray⟩) ∧ Below w.heap.size w w' := by
  by_cases hz : d = 0
  · subst hz
    go_enter Tryd.func51, Tryd.ntmps51
    go_wp2_with fail
    go_ret
    exact ⟨rfl, Below.refl _ _⟩
  · have hq : ((d : Int) == 0) = false := by rw [beq_eq_false_iff_ne]; omega
    have C1 := Lib.hid (fun w1 : World => repeat_any 60 ((d : Int) / 10) (d / 10) (by omega) w1 (by omega))
    have C2 := Lib.hid (fun w1 : World => repeat_any 89 ((d : Int) % 10) (d % 10) (by omega) w1 (by omega))
    obtain ⟨L1, H1, b1⟩ : ∃ L : List UInt8, Hid (many [60] (d / 10) = L) ∧ L.length ≤ 9 := ⟨_, Lib.hid rfl, by rw [many_length]; simp; omega⟩
    obtain ⟨L2, H2, b2⟩ : ∃ L : List UInt8, Hid (many [89] (d % 10) = L) ∧ L.length ≤ 9 := ⟨_, Lib.hid rfl, by rw [many_length]; simp; omega⟩
    have Hf : Hid (cdig d = L1 ++ L2) := by
      show _ = _
      unfold cdig
      rw [if_neg hz, ← H1.out, ← H2.out]
    clear hz
    rw [H1.out] at C1
    rw [H2.out] at C2
    go_enter Tryd.func51, Tryd.ntmps51
    go_wp2_with fail
    refine (C1.out _).mono ?_
    rintro e w1 ⟨rfl, g1⟩
    have G1 := Lib.hid g1; clear g1
    go_wp2_with fail
    refine (C2.out _).mono ?_
    rintro e w2 ⟨rfl, g2⟩
    have G2 := Lib.hid (G1.out.trans (g2.mono G1.out.size)); clear g2
    go_wp2_with fail
    go_ret
    exact ⟨ret_bytes (by rw [Hf.out, bytes_append]), G2.out⟩
/-- the digits' answer, with its block -/
def DigR (w w' : World) (f : Nat → Int) (n : Nat) (ok : Bool) (e : Ending) : Prop :=
  (ok = true → e = .returned (.tuple #[.slice (some ⟨w.heap.size, 0, none⟩) n n, .bool true]) ∧ Own w' w.heap.size n f) ∧ (ok = false → e = .returned (.tuple #[.slice none 0 0, .bool false])) ∧ Below w.heap.size w w'
set_option maxHeartbeats 1000000 in
theorem digitsOf_own (a : Option Addr) (n c : Nat) (f : Nat → Int) (N : Int) (w : World) (h : Ls w a n f) (hn : n ≤ 10000000) (hp : ∀ k, k < n → 2 ≤ f k ∧ f k ≤ 100) (hN : N ≤ 9223372036854775807) :
    Calls Tryd.prog 50 #[.slice a n c, .int .i64 N] w fun e w' => DigR w w' (pdg f n N) n (dgB f n N) e := by
  obtain ⟨i0, hi, hz0, hz1, hz2⟩ := info_parts info_int
  have H := Lib.hid h; clear h
  by_cases hneg : N < 0
  · have HB : Hid (dgB f n N = false) := Lib.hid (decide_eq_false (by omega))
    go_enter Tryd.func50, Tryd.ntmps50
    go_wp2_with fail
    go_ret2
    exact ⟨(fun h => by rw [HB.out] at h; cases h), fun _ => rfl, Below.refl _ _⟩
  · have h0 : 0 ≤ N := by omega
    have P4 := Lib.hid hp
    have L := Lib.hid (lft_le f n N (fun k hk => (hp k hk).1) h0)
    have I := Lib.hid (lft_iff f n N (fun k hk => (hp k hk).1) h0)
    clear hp
    go_enter Tryd.func50, Tryd.ntmps50
    go_wp2_with (at_make; refine wpList_make_ints _ rfl _ _ 69 rfl i0 Tryd.underlying69 hi hz0 hz1 hz2 n (by omega) rfl rfl ?_; intro w1 hown hb hsz)
    have Hown := Lib.hid hown; have Hb := Lib.hid hb; have Hsz := Lib.hid hsz
    clear hown hb hsz
    go_loopw [1, 7] (fun x i wr => ∃ k : Nat, DownIx k i ∧ k ≤ n ∧ x = .int .i64 (lft f n N (n - k)) ∧ Own wr w.heap.size n (fun j => if k ≤ j then pdg f n N j else 0) ∧ Below w.heap.size w wr ∧ wr.heap.size = w.heap.size + 1) (fun _ i _ => (intOf i + 1).toNat)
    case atStart => exact ⟨n, downIx_mk n, by omega, by rw [Nat.sub_self]; rfl, Hown.out.congr fun j hj => by rw [if_neg (by omega)], Hb.out, Hsz.out⟩
    case round =>
      obtain ⟨k, hik, hk, rfl, hown, hbel, hsz⟩ := hrel
      have Ho := Lib.hid hown; have Hbe := Lib.hid hbel; have Hsz := Lib.hid hsz
      clear hsz
      rcases hik with ⟨rfl, rfl⟩ | ⟨k, rfl, rfl⟩
      · clear hown hbel
        rw [Nat.sub_zero]
        by_cases hgt : 0 < lft f n N n
        · have HB : Hid (dgB f n N = false) := Lib.hid (decide_eq_false fun h => by have := I.out.1 h.2; omega)
          generalize lft f n N n = r at *
          go_wp2_with fail
          go_ret2
          exact ⟨(fun h => by rw [HB.out] at h; cases h), fun _ => rfl, Hbe.out⟩
        · have HB : Hid (dgB f n N = true) := Lib.hid (decide_eq_true ⟨h0, I.out.2 (by omega)⟩)
          generalize lft f n N n = r at *
          go_wp2_with fail
          go_ret2
          exact ⟨fun _ => ⟨rfl, Ho.out.congr fun j hj => by simp⟩, (fun h => by rw [HB.out] at h; cases h), Hbe.out⟩
      · obtain ⟨b, off, rfl, hb, hc⟩ := H.out k (by omega)
        have hc1 : wr.cell? ⟨b, off + k, none⟩ = some (.int .i64 (f k)) := (hbel.cell (p := ⟨b, off + k, none⟩) hb).trans hc
        obtain ⟨v0, hv0⟩ : ∃ v0, wr.cell? ⟨w.heap.size, k, none⟩ = some v0 := ⟨_, hown.cell k (by omega)⟩
        have hfr := hown.frozen k
        have hfp := P4.out k (by omega)
        obtain ⟨hr0, hr1⟩ := L.out (n - (k + 1)) (by omega)
        have hr2 := Int.le_trans hr1 hN
        have Hst : Hid (lft f n N (n - k) = lft f n N (n - (k + 1)) / f k) := Lib.hid (by rw [show n - k = (n - (k + 1)) + 1 by omega]; simp only [lft]; rw [show n - 1 - (n - (k + 1)) = k by omega])
        have Hpl : Hid (pdg f n N k = lft f n N (n - (k + 1)) % f k) := Lib.hid (by unfold pdg; rw [show n - 1 - k = n - (k + 1) by omega])
        have HO : Hid (Own (wr.setCell ⟨w.heap.size, k, none⟩ (.int .i64 (lft f n N (n - (k + 1)) % f k))) w.heap.size n (fun j => if k ≤ j then pdg f n N j else 0)) := by
          rw [← Hpl.out]; exact Ho.out.from
        have HB2 : Hid (Below w.heap.size w (wr.setCell ⟨w.heap.size, k, none⟩ (.int .i64 (lft f n N (n - (k + 1)) % f k)))) := Hbe.out.setCell (Nat.le_refl _) _
        have hc2 : (wr.setCell ⟨w.heap.size, k, none⟩ (.int .i64 (lft f n N (n - (k + 1)) % f k))).cell? ⟨b, off + k, none⟩ = some (.int .i64 (f k)) := (HB2.out.cell (p := ⟨b, off + k, none⟩) hb).trans hc
        clear hown hbel hc hr1
        generalize lft f n N (n - (k + 1)) = r at *
        generalize f k = v at *
        go_wp2_with fail
        go_roundw
        case rel => exact ⟨k, downIx_mk k, by omega, by rw [Hst.out], HO.out, HB2.out, by simp [World.setCell]; exact Hsz.out⟩
        case measure => simp [intOf]
theorem s60_prd : prd (fun _ => (60 : Int)) 4 = 12960000 := by decide
theorem dgB_60 (N : Int) : dgB (fun _ => 60) 4 N = decide (0 ≤ N ∧ N ≤ 12959999) := by
  unfold dgB
  rw [s60_prd, decide_eq_decide]
  omega
theorem pdg_d4 (N k : Nat) (hk : k < 4) : pdg (fun _ => (60 : Int)) 4 N k = d4 N k := by
  rcases (show k = 0 ∨ k = 1 ∨ k = 2 ∨ k = 3 by omega) with rfl | rfl | rfl | rfl <;> simp [pdg, lft, d4] <;> omega
theorem info_str4 : (Tryd.prog.info? 9).map (fun i => (i.zero, i.size, i.bytes)) = some (some (.string ⟨#[]⟩), 1, 16) := by kernel_rfl
theorem info_vals {T : TypeId} {z : Value} {by_ : Nat} {P : Program} (h : (P.info? T).map (fun i => (i.zero, i.size, i.bytes)) = some (some z, 1, by_)) : ∃ i, P.info? T = some i ∧ i.zero = some z ∧ i.size = 1 ∧ i.bytes = by_ := by
  cases e : P.info? T with
  | none => rw [e] at h; cases h
  | some i =>
    rw [e] at h
    simp only [Option.map_some, Option.some.injEq, Prod.mk.injEq] at h
    exact ⟨i, rfl, h.1, h.2.1, h.2.2⟩
def lenV : Value → Nat
  | .slice _ n _ => n
  | _ => 0
/-- the text of a digit at a place, as a value -/
def sgn4 (N z j : Nat) : Value := .string ⟨(cdig (d4 N (z + j))).toArray⟩
theorem join4_any (N z m b : Nat) (w : World) (h : VRow 9 w b m (sgn4 N z)) (hm : m ≤ 4) (hN : N ≤ 12959999) (hj : Lib.join ((List.range m).map fun j => cdig (d4 N (z + j))) [32] = clay N) :
    Calls Tryd.prog 52 #[.slice (some ⟨b, 0, none⟩) m m, .string ⟨#[32]⟩] w fun e w' => e = .returned (.string ⟨(clay N).toArray⟩) ∧ Below w.heap.size w w' := by
  obtain ⟨xs, hxs⟩ : ∃ xs : List ByteArray, xs = (List.range m).map fun j => (⟨(cdig (d4 N (z + j))).toArray⟩ : ByteArray) := ⟨_, rfl⟩
  have hl : xs.length = m := by rw [hxs]; simp
  have hmap : xs.map (·.data.toList) = (List.range m).map fun j => cdig (d4 N (z + j)) := by rw [hxs, List.map_map]; rfl
  have hle := (clay_short N (by omega)).2
  have J := Tryd.strings_Join b 0 m xs ⟨#[32]⟩ w (fun j x hx => by
    have hjm : j < m := by
      rcases Nat.lt_or_ge j m with h | h
      · exact h
      · rw [List.getElem?_eq_none (by omega)] at hx; cases hx
    rw [Nat.zero_add, h.cell j hjm]
    rw [hxs] at hx
    simp [hjm] at hx
    unfold sgn4
    rw [hx]) h.lt (by omega) (by omega) (by rw [hmap]; show (Lib.join _ [32]).length ≤ _; rw [hj]; omega)
  rw [hl, hmap] at J
  rwa [show Lib.join ((List.range m).map fun j => cdig (d4 N (z + j))) (⟨#[32]⟩ : ByteArray).data.toList = clay N from hj] at J
set_option maxHeartbeats 1000000 in
theorem iPlaceOf_nat (N : Nat) (w : World) (hN : N ≤ 12959999) : Calls Tryd.prog 33 #[.int .i64 N] w fun e w' => e = .returned (.tuple #[.string ⟨(clay N).toArray⟩, .bool true]) ∧ Below w.heap.size w w' := by
  obtain ⟨i0, hi, hz0, hz1, hz2⟩ := info_vals info_str4
  have hok : dgB (fun _ => 60) 4 (N : Int) = true := by rw [dgB_60]; exact decide_eq_true (by omega)
  have HOK := Lib.hid hok; clear hok
  have hz3 := zed_le N
  have HZ0 := Lib.hid (fun k => d4_zero N k (by omega))
  have HZ1 := Lib.hid (d4_zed N (by omega))
  have HJ := Lib.hid (clay_d4 N (by omega))
  generalize hz : zed N = z at *
  have HZ := Lib.hid hz; clear hz
  obtain ⟨m, hm⟩ : ∃ m, m = 4 - z := ⟨_, rfl⟩
  rw [← hm] at HJ
  have HM := Lib.hid hm; clear hm
  have HN := Lib.hid hN; clear hN
  go_enter Tryd.func33, Tryd.ntmps33
  go_wp2_with fail
  refine (clayPlaces_any w).mono ?_
  rintro e w1 ⟨b, rfl, hb0, hb1, ho, hb⟩
  have HL := Lib.hid ho.row.ls; have HB := Lib.hid hb; clear ho hb hb0 hb1
  go_wp2_with fail
  refine (digitsOf_own _ 4 4 (fun _ => 60) N w1 HL.out (by omega) (fun _ _ => ⟨by omega, by omega⟩) (by have := HN.out; omega)).mono ?_
  rintro e w2 ⟨h1, h2, h3⟩
  obtain ⟨rfl, h4⟩ := h1 HOK.out
  have HD := Lib.hid h4; have HB2 := Lib.hid (HB.out.trans (h3.mono HB.out.size)); have HS := Lib.hid (show w.heap.size ≤ w1.heap.size from HB.out.size)
  clear h1 h2 h3 h4 HL
  have hd4 : Hid (∀ k, k < 4 → w2.cell? ⟨w1.heap.size, k, none⟩ = some (.int .i64 (d4 N k : Nat))) := Lib.hid fun k hk => by rw [HD.out.cell k hk, pdg_d4 N k hk]
  clear HD HB
  go_wp2_with fail
  go_loop [4] (fun v => ∃ k j : Nat, k + j = 4 ∧ k ≤ z ∧ v = .slice (some ⟨w1.heap.size, k, none⟩) j j) (fun v => lenV v)
  case atStart => exact ⟨0, 4, rfl, by omega, rfl⟩
  case round =>
    obtain ⟨k, j, hkj, hkz, rfl⟩ := hrel
    have hc := hd4.out k
    by_cases hlt : k < z
    · have hc' := hc (by omega)
      rw [HZ0.out k hlt] at hc'
      have t1 : decide ((j : Int) > 1) = true := decide_eq_true (by omega)
      clear hc
      go_wp2_with fail
      go_round
      case rel => exact ⟨k + 1, j - 1, by omega, by omega, by go_num⟩
      case measure => simp [lenV]; omega
    · obtain rfl : k = z := by omega
      obtain rfl : j = m := by have := HM.out; omega
      have hk4 : k + j ≤ 4 := by omega
      have hk5 : 4 ≤ k + j := by omega
      have hex : k = 3 ∧ decide ((j : Int) > 1) = false ∨ k < 3 ∧ decide ((j : Int) > 1) = true ∧ w2.cell? ⟨w1.heap.size, k, none⟩ = some (.int .i64 (d4 N k : Nat)) ∧ (((d4 N k : Nat) : Int) == 0) = false := by
        by_cases h3 : k = 3
        · exact .inl ⟨h3, decide_eq_false (by omega)⟩
        · exact .inr ⟨by omega, decide_eq_true (by omega), hc (by omega), by rw [beq_eq_false_iff_ne]; have := HZ1.out (by omega); omega⟩
      clear hc hlt HM hkj
      rcases hex with ⟨h3, t1⟩ | ⟨h3, t1, t2, t3⟩
      all_goals
        clear h3
        go_wp2_with (at_make; refine wpList_make_vals _ rfl _ _ 63 9 rfl (.string ⟨#[]⟩) rfl i0 Tryd.underlying63 hi hz0 hz1 (by omega) j (by omega) rfl rfl ?_; intro w3 hrow hb3 hsz3)
        have HR := Lib.hid hrow; have HB3 := Lib.hid hb3
        clear hrow hb3 hsz3
        go_loopw [33] (fun i wr => ∃ q : Nat, i = .int .i64 q ∧ q ≤ j ∧ VRow 9 wr w2.heap.size j (fun x => if x < q then sgn4 N k x else .string ⟨#[]⟩) ∧ Below w2.heap.size w2 wr) (fun i _ => j - (intOf i).toNat)
        case atStart => exact ⟨0, rfl, by omega, HR.out.congr fun x hx => by simp, HB3.out⟩
        case round =>
          clear HR HB3
          obtain ⟨q, rfl, hq, hrow, hbel⟩ := hrel
          have HR := Lib.hid hrow; have HBr := Lib.hid hbel
          clear hrow hbel
          by_cases hlt : q < j
          · have hcd : wr.cell? ⟨w1.heap.size, k + q, none⟩ = some (.int .i64 (d4 N (k + q) : Nat)) := (HBr.out.cell (p := ⟨w1.heap.size, k + q, none⟩) (World.block_lt_of_cell? w2 ⟨w1.heap.size, k + q, none⟩ (hd4.out (k + q) (by omega)))).trans (hd4.out (k + q) (by omega))
            have hd := d4_lt N (k + q)
            have C := Lib.hid (clayDigit_any (d4 N (k + q)) wr hd)
            have HG : Hid (sgn4 N k q = .string ⟨(cdig (d4 N (k + q))).toArray⟩) := rfl
            generalize d4 N (k + q) = y at *
            go_wp2_with fail
            refine C.out.mono ?_
            rintro e w4 ⟨rfl, g4⟩
            have hrow4 := HR.out.below g4
            have HB4 : Hid (Below w2.heap.size w2 w4) := HBr.out.trans (g4.mono HBr.out.size)
            have HR4 := Lib.hid hrow4
            obtain ⟨v0, hv0⟩ : ∃ v0, w4.cell? ⟨w2.heap.size, q, none⟩ = some v0 := ⟨_, hrow4.cell q hlt⟩
            have hfr := hrow4.frozen q
            have hup := hrow4.upto
            rw [HG.out] at hup
            have HU := Lib.hid hup
            have HS4 : Hid (Below w2.heap.size w2 (w4.setCell ⟨w2.heap.size, q, none⟩ (.string ⟨(cdig y).toArray⟩))) := HB4.out.setCell (Nat.le_refl _) _
            clear hup hrow4 g4 C HR
            generalize cdig y = L at *
            go_wp2_with fail
            go_roundw
            case rel => exact ⟨q + 1, by go_num, by omega, HU.out, HS4.out⟩
            case measure => simp [intOf]; omega
          · obtain rfl : q = j := by omega
            have JC := Lib.hid (join4_any N k q w2.heap.size wr (HR.out.congr fun x hx => by simp [hx]) (by omega) HN.out HJ.out)
            go_wp2_with fail
            refine JC.out.mono ?_
            rintro e w4 ⟨rfl, g4⟩
            have HF : Hid (Below w.heap.size w w4) := HB2.out.trans ((HBr.out.trans (g4.mono HBr.out.size)).mono HB2.out.size)
            clear g4
            go_wp2_with fail
            go_ret2
            exact ⟨rfl, HF.out⟩
theorem iPlaceOf_any (n : Int) (w : World) (hn : n ≤ 9223372036854775807) : Calls Tryd.prog 33 #[.int .i64 n] w fun e w' => e = .returned (placeOfR n) ∧ Below w.heap.size w w' := by
  by_cases h : 0 ≤ n ∧ n ≤ 12959999
  · obtain ⟨k, rfl⟩ := Int.eq_ofNat_of_zero_le h.1
    rw [placeOfR_yes k (by omega)]
    exact iPlaceOf_nat k w (by omega)
  · rw [placeOfR_no n h]
    have HOK : Hid (dgB (fun _ => 60) 4 n = false) := by show _ = _; rw [dgB_60]; exact decide_eq_false h
    clear h
    go_enter Tryd.func33, Tryd.ntmps33
    go_wp2_with fail
    refine (clayPlaces_any w).mono ?_
    rintro e w1 ⟨b, rfl, hb0, hb1, ho, hb⟩
    have HL := Lib.hid ho.row.ls; have HB := Lib.hid hb; clear ho hb hb0 hb1
    go_wp2_with fail
    refine (digitsOf_own _ 4 4 (fun _ => 60) n w1 HL.out (by omega) (fun _ _ => ⟨by omega, by omega⟩) hn).mono ?_
    rintro e w2 ⟨h1, h2, h3⟩
    obtain rfl := h2 HOK.out
    have HB2 := Lib.hid (HB.out.trans (h3.mono HB.out.size))
    clear h1 h2 h3 HL HB
    go_wp2_with fail
    go_ret2
    exact ⟨rfl, HB2.out⟩
end Go.Proofs.YtalnojpdkiimpaaDoor

/- The package-level table rankValues: what the condition gives the walks, and that it reads again behind the call. -/
namespace Go.Proofs.YtalnojpdkiimpaaDoor
open Go.ChangeShapes Go.WideShapes Go.ChangeAt Go.WideMaps Go.WideElems Go.RowKit
set_option linter.unusedVariables false
set_option maxRecDepth 100000
/-- the values of the ranks -/
def rnv (j : Nat) : Int := [1, 10, 100, 1000, 10000].getD j 0
/-- the table lies in its variable's block -/
def RV (w : World) : Prop := 1 < w.heap.size ∧ ∀ j, j < 5 → w.cell? ⟨1, j, none⟩ = some (.int .i64 (rnv j))
def rvLaid : List (String × DataW Unit) := [("loop.example/peoplesnumerals/impl.rankValues", Rows.laid_loop_example_peoplesnumerals_impl_rankValues)]
def laidStepsR : Nat := 400
theorem gRVt : Tryd.prog.globalNamed "loop.example/peoplesnumerals/impl.rankValues" = some 1 := by kernel_rfl
theorem tRVt : (Tryd.prog.globals[1]?).map (·.type) = some 96 := by kernel_rfl
theorem cRVt : Tryd.prog.cellsOf 96 = 5 := by kernel_rfl
theorem cIntR : Tryd.prog.cellsOf 3 = 1 := by kernel_rfl
def cells5 : Array Value := #[.int .i64 1, .int .i64 10, .int .i64 100, .int .i64 1000, .int .i64 10000]
theorem door_metR (os : Os) (args : Array Value) : laidMetH Tryd.prog rvLaid ((World.doorLaid Tryd.prog laidStepsR os).forCall (fun _ _ => 0) ⟨#[], args, []⟩).memory :=
  laidMetH_of_parts3 (fuel := 8) (laidMet_of_run' 8 (by kernel_rfl) (by kernel_rfl)) (by kernel_rfl) (by kernel_rfl)
theorem int_of_trodR {H : Type} {enc : TypeId × Value → H} {P : Program} {w : World} {base : Nat} {sp : Nat → Bool} {held : Bool} {fuel : Nat} {t : TypeId} {k : IntKind} {c : Value} {y : DataW H × List MemPlace}
    (ht : P.underlying t = some (.int k)) (h : DataW.trod enc P w base sp held fuel t [c] = some y) : ∃ n, c = .int k n ∧ y = (.lit (.int k n), []) := by
  cases fuel with
  | zero => simp [DataW.trod] at h
  | succ fuel =>
    cases c <;> simp [DataW.trod, ht] at h
    rename_i k' n
    obtain ⟨⟨rfl, _⟩, rfl⟩ := h
    exact ⟨n, rfl, rfl⟩
theorem cells_of_itemR {W : World} (h : LaidItem Tryd.prog W "loop.example/peoplesnumerals/impl.rankValues" Rows.laid_loop_example_peoplesnumerals_impl_rankValues) : W.var? Tryd.prog "loop.example/peoplesnumerals/impl.rankValues" = some cells5 := by
  obtain ⟨g, t, cs, fuel, p, hg, ht, hvar, hd⟩ := h
  obtain rfl := Option.some.inj (gRVt.symm.trans hg)
  obtain rfl := Option.some.inj (tRVt.symm.trans ht)
  rw [hvar]
  congr 1
  obtain ⟨l⟩ := cs
  cases fuel with
  | zero => simp [DataW.trod] at hd
  | succ fuel =>
    simp only [DataW.trod, Tryd.underlying96, cRVt, cIntR] at hd
    split at hd
    · rename_i hl
      obtain ⟨c0, c1, c2, c3, c4, rfl⟩ : ∃ c0 c1 c2 c3 c4, l = [c0, c1, c2, c3, c4] := by
        match l, hl with
        | [a, b, c, d, e], _ => exact ⟨a, b, c, d, e, rfl⟩
      have e : List.range 5 = [0, 1, 2, 3, 4] := rfl
      rw [e] at hd
      simp only [Option.map_eq_some_iff, List.mapM_cons, List.mapM_nil, Option.bind_eq_bind, Option.bind_eq_some_iff, Option.pure_def, Option.some.injEq] at hd
      obtain ⟨xs, ⟨y0, h0, _, ⟨y1, h1, _, ⟨y2, h2, _, ⟨y3, h3, _, ⟨y4, h4, _, rfl, rfl⟩, rfl⟩, rfl⟩, rfl⟩, rfl⟩, hx⟩ := hd
      obtain ⟨n0, rfl, rfl⟩ := int_of_trodR Tryd.underlying3 h0
      obtain ⟨n1, rfl, rfl⟩ := int_of_trodR Tryd.underlying3 h1
      obtain ⟨n2, rfl, rfl⟩ := int_of_trodR Tryd.underlying3 h2
      obtain ⟨n3, rfl, rfl⟩ := int_of_trodR Tryd.underlying3 h3
      obtain ⟨n4, rfl, rfl⟩ := int_of_trodR Tryd.underlying3 h4
      simp [Rows.laid_loop_example_peoplesnumerals_impl_rankValues] at hx
      obtain ⟨⟨rfl, rfl, rfl, rfl, rfl⟩, _⟩ := hx
      rfl
    · cases hd
theorem cells_of_laidR {W : World} (h : laidMetH Tryd.prog rvLaid W) : W.var? Tryd.prog "loop.example/peoplesnumerals/impl.rankValues" = some cells5 := by
  rw [MakeChecks.laidMetH_plain _ _ _ (by kernel_rfl)] at h
  obtain ⟨ps, ⟨g, t, cs, fuel, p, q, hg, ht, hvar, hd, _, _⟩, _⟩ := h
  exact cells_of_itemR ⟨g, t, cs, fuel, p, hg, ht, hvar, hd⟩
theorem rv_var {W : World} (hv : W.var? Tryd.prog "loop.example/peoplesnumerals/impl.rankValues" = some cells5) : RV W := by
  have hc : ∀ j, W.cell? ⟨1, j, none⟩ = cells5[j]? := fun j => World.var?_cell gRVt hv j
  refine ⟨World.block_lt_of_cell? W ⟨1, 0, none⟩ (u := .int .i64 1) (hc 0), fun j hj => ?_⟩
  rw [hc j]
  rcases (show j = 0 ∨ j = 1 ∨ j = 2 ∨ j = 3 ∨ j = 4 by omega) with rfl | rfl | rfl | rfl | rfl <;> rfl
theorem rv_of_laid {W : World} (h : laidMetH Tryd.prog rvLaid W) : RV W := rv_var (cells_of_laidR h)
abbrev tableR {H : Type} : DataW H := .agg [.lit (.int .i64 1), .lit (.int .i64 10), .lit (.int .i64 100), .lit (.int .i64 1000), .lit (.int .i64 10000)]
theorem reads_tableR {H : Type} (enc : TypeId × Value → H) (W : World) (sp : Nat → Bool) : DataW.trod enc Tryd.prog W 0 sp true 3 96 cells5.toList = some (tableR, []) := by kernel_rfl
theorem tab_rv {W : World} (h : LaidItem Tryd.prog W "loop.example/peoplesnumerals/impl.rankValues" Rows.laid_loop_example_peoplesnumerals_impl_rankValues) : RV W ∧ TabAt Tryd.prog W "loop.example/peoplesnumerals/impl.rankValues" := by
  have hv := cells_of_itemR h
  have hf := rv_var hv
  exact ⟨hf, _, _, _, gRVt, tRVt, hv, hf.1, fun H enc => ⟨tableR, fun W' sp => reads_tableR enc W' sp⟩⟩
theorem laid_openR {H : Type} {enc : TypeId × Value → H} {W : World} {gs : List (DataW H)} {q : List MemPlace} (hL : laidMetH Tryd.prog rvLaid W)
    (hV : DataW.TrodVars enc Tryd.prog W (fun _ => true) ["loop.example/peoplesnumerals/impl.rankValues"] gs q) :
    RV W ∧ ∃ d, gs = [d] ∧ ∃ pv, ∀ (sp : Nat → Bool) {W' : World}, Below W.heap.size W W' → DataW.TrodVars enc Tryd.prog W' sp ["loop.example/peoplesnumerals/impl.rankValues"] [d] pv := by
  have hlv := rv_of_laid hL
  obtain ⟨g, t, cs, fuel, d, p', rfl, hg, ht, hvar, hd, rfl⟩ := trodVars_one hV
  obtain rfl := Option.some.inj (gRVt.symm.trans hg)
  obtain rfl := Option.some.inj (tRVt.symm.trans ht)
  obtain rfl : cs = cells5 := Option.some.inj (hvar.symm.trans (cells_of_laidR hL))
  obtain ⟨rfl, rfl⟩ := DataW.Trod.unique (v := .agg cells5) ⟨fuel, hd⟩ ⟨3, reads_tableR enc W _⟩
  refine ⟨hlv, _, rfl, MemPlace.row ⟨1, 0, none⟩ cells5.size ++ [] ++ [], fun sp W' bel => ?_⟩
  exact ⟨1, 96, cells5, 3, [], [], gRVt, tRVt, var?_below bel gRVt hlv.1 hvar, reads_tableR enc W' sp, rfl, rfl⟩
theorem RV.below {B : Nat} {w w' : World} (h : RV w) (hb : Below B w w') (hB : 1 < B) : RV w' :=
  ⟨Nat.lt_of_lt_of_le h.1 hb.size, fun j hj => (hb.cell (p := ⟨1, j, none⟩) hB).trans (h.2 j hj)⟩
theorem RV.step {w w' : World} (h : RV w) (hb : Below w.heap.size w w') : RV w' := h.below hb h.1
theorem RV.alloc {w : World} (h : RV w) (o : Obj) : RV (w.alloc o) := h.step ((Below.refl _ _).alloc (Nat.le_refl _) o)
theorem RV.grown {w w' : World} {r : Nat} (h : RV w) (hg : w.grownBy w' (some r)) (hr : 1 < r) : RV w' :=
  ⟨Nat.lt_of_lt_of_le h.1 hg.size, fun j hj => hg.cell (h.2 j hj) (by simp; omega)⟩
end Go.Proofs.YtalnojpdkiimpaaDoor

/- Ranks, plain: the states of a machine that reads ranked texts, and what it reads. No program. -/
namespace Go.Proofs.YtalnojpdkiimpaaDoor
set_option linter.unusedVariables false
set_option maxRecDepth 100000
/-- a state: (0, u, r, _) behind a sign of rank r; (1, u, r, _) behind an o there; (2, u, a, b) behind a digit of a rank from a to b; (3, ..) at the beginning; (4, ..) behind the o of 0. u = 1: ten thousands may follow -/
abbrev Q := Nat × Nat × Nat × Nat
def sgn (r : Nat) : List UInt8 := if r = 1 then [115] else if r = 2 then [98] else if r = 3 then [113] else [119]
def rdgs : List UInt8 := [49, 50, 51, 52, 53, 54, 55, 56, 57]
abbrev Lk := List UInt8 × Q
def wl (u : Nat) : List Lk := if u = 1 then [([119], (0, 0, 4, 0))] else []
def dlk (u r : Nat) : List Lk := if r = 0 then wl u else [(sgn r, (0, u, r, 0))]
def rdl (u a n : Nat) : List Lk := (List.range n).flatMap fun i => dlk u (a + i)
def lk (q : Q) : List Lk :=
  if q.1 = 0 then wl q.2.1 ++ ([(rdgs, (2, q.2.1, q.2.2.1 - 1, q.2.2.1 - 1))] ++ if 1 < q.2.2.1 then [([111], (1, q.2.1, q.2.2.1, 0))] else [])
  else if q.1 = 1 then [(rdgs, (2, q.2.1, 0, q.2.2.1 - 2))]
  else if q.1 = 2 then rdl q.2.1 q.2.2.1 (q.2.2.2 + 1 - q.2.2.1)
  else if q.1 = 3 then [(rdgs, (2, 1, 0, 3)), ([111], (4, 0, 0, 0))] else []
def cE (q : Q) : Bool := if q.1 = 0 then true else if q.1 = 1 then false else if q.1 = 2 then q.2.2.1 == 0 else if q.1 = 3 then false else true
def nx (q : Q) (c : UInt8) : Option Q := ((lk q).find? (fun l => l.1.contains c)).map (·.2)
def run (q : Q) : List UInt8 → Option Q
  | [] => some q
  | c :: l => (nx q c).bind fun q' => run q' l
def acc (q : Q) (l : List UInt8) : Bool := match run q l with | some q' => cE q' | none => false
theorem run_append (q : Q) (l m : List UInt8) : run q (l ++ m) = (run q l).bind fun q' => run q' m := by
  induction l generalizing q with
  | nil => rfl
  | cons c l ih =>
    show (nx q c).bind _ = ((nx q c).bind _).bind _
    cases nx q c with
    | none => rfl
    | some q' => exact ih q'
theorem acc_nil (q : Q) : acc q [] = cE q := rfl
theorem acc_cons (q q' : Q) (c : UInt8) (l : List UInt8) (h : nx q c = some q') : acc q (c :: l) = acc q' l := by
  unfold acc
  show (match (nx q c).bind fun q' => run q' l with | some q' => cE q' | none => false) = _
  rw [h]
  rfl
/-- an accepted text begins with a link's sign -/
theorem acc_inv (q : Q) (l : List UInt8) (h : acc q l = true) : (l = [] ∧ cE q = true) ∨ ∃ c l' k, l = c :: l' ∧ k ∈ lk q ∧ c ∈ k.1 ∧ acc k.2 l' = true := by
  cases l with
  | nil => exact .inl ⟨rfl, h⟩
  | cons c l =>
    refine .inr ⟨c, l, ?_⟩
    cases hn : nx q c with
    | none =>
      unfold acc at h
      simp only [run, hn, Option.bind_none] at h
      cases h
    | some q' =>
      rw [acc_cons q q' c l hn] at h
      unfold nx at hn
      obtain ⟨k, hk, rfl⟩ := Option.map_eq_some_iff.1 hn
      have h1 := List.mem_of_find?_eq_some hk
      have h2 := List.find?_some hk
      exact ⟨k, rfl, h1, by simpa using h2, h⟩
theorem wl_mem {u : Nat} {k : Lk} (h : k ∈ wl u) : u = 1 ∧ k = ([119], (0, 0, 4, 0)) := by
  unfold wl at h
  split at h
  · rename_i hu; exact ⟨hu, by simpa using h⟩
  · cases h
theorem digs_mem {c : UInt8} (h : c ∈ rdgs) : ∃ d, 1 ≤ d ∧ d ≤ 9 ∧ c = dch d := by
  unfold rdgs at h
  simp only [List.mem_cons, List.not_mem_nil, or_false] at h
  rcases h with rfl | rfl | rfl | rfl | rfl | rfl | rfl | rfl | rfl
  · exact ⟨1, by decide, by decide, rfl⟩
  · exact ⟨2, by decide, by decide, rfl⟩
  · exact ⟨3, by decide, by decide, rfl⟩
  · exact ⟨4, by decide, by decide, rfl⟩
  · exact ⟨5, by decide, by decide, rfl⟩
  · exact ⟨6, by decide, by decide, rfl⟩
  · exact ⟨7, by decide, by decide, rfl⟩
  · exact ⟨8, by decide, by decide, rfl⟩
  · exact ⟨9, by decide, by decide, rfl⟩
theorem sgn_form (r : Nat) : ∃ c, sgn r = [c] := by
  unfold sgn
  by_cases h1 : r = 1
  · exact ⟨115, if_pos h1⟩
  · by_cases h2 : r = 2
    · exact ⟨98, by rw [if_neg h1, if_pos h2]⟩
    · by_cases h3 : r = 3
      · exact ⟨113, by rw [if_neg h1, if_neg h2, if_pos h3]⟩
      · exact ⟨119, by rw [if_neg h1, if_neg h2, if_neg h3]⟩
theorem sgn_mem {r : Nat} {c : UInt8} (h : c ∈ sgn r) : sgn r = [c] := by
  obtain ⟨c', e⟩ := sgn_form r
  rw [e] at h ⊢
  simp at h
  rw [h]
/-- what is left behind a sign of rank r -/
def cont (r m : Nat) : List UInt8 := if m = 0 then [] else (if m < 10 ^ (r - 1) then [111] else []) ++ rk4 m
/-- a digit, its sign (none for ones), and what is left -/
def sgz (r : Nat) : List UInt8 := if r = 0 then [] else sgn r
theorem rk4_top (r d m : Nat) (hr : r ≤ 3) (h1 : 1 ≤ d) (h9 : d ≤ 9) (hm : m < 10 ^ r) : rk4 (d * 10 ^ r + m) = dch d :: (sgz r ++ cont r m) := by
  rcases (show r = 0 ∨ r = 1 ∨ r = 2 ∨ r = 3 by omega) with rfl | rfl | rfl | rfl
  · obtain rfl : m = 0 := by omega
    rw [rk4_cases]
    simp only [Nat.pow_zero, Nat.mul_one, Nat.add_zero]
    rw [show d / 1000 % 10 = 0 by omega, show d / 100 % 10 = 0 by omega, show d / 10 % 10 = 0 by omega, show d % 10 = d by omega]
    simp [show d ≠ 0 by omega, sgz, cont]
  · have hm : m < 10 := hm
    rw [rk4_cases]
    unfold cont
    rw [rk4_cases m]
    simp only [Nat.pow_one]
    rw [show (d * 10 + m) / 1000 % 10 = 0 by omega, show (d * 10 + m) / 100 % 10 = 0 by omega, show (d * 10 + m) / 10 % 10 = d by omega, show (d * 10 + m) % 10 = m by omega, show m / 1000 % 10 = 0 by omega, show m / 100 % 10 = 0 by omega, show m / 10 % 10 = 0 by omega, show m % 10 = m by omega]
    by_cases h0 : m = 0 <;> simp [h0, show d ≠ 0 by omega, sgz, sgn]
  · have hm : m < 100 := hm
    rw [rk4_cases]
    unfold cont
    rw [rk4_cases m]
    have e : (10 : Nat) ^ 2 = 100 := rfl
    simp only [e, show (2 - 1 : Nat) = 1 from rfl, Nat.pow_one]
    rw [show (d * 100 + m) / 1000 % 10 = 0 by omega, show (d * 100 + m) / 100 % 10 = d by omega, show (d * 100 + m) / 10 % 10 = m / 10 by omega, show (d * 100 + m) % 10 = m % 10 by omega, show m / 1000 % 10 = 0 by omega, show m / 100 % 10 = 0 by omega, show m / 10 % 10 = m / 10 by omega]
    by_cases h0 : m = 0
    · subst h0; simp [show d ≠ 0 by omega, sgz, sgn]
    · by_cases h1 : m < 10
      · have e1 : m / 10 = 0 := by omega
        have e2 : m % 10 = m := by omega
        simp [h0, h1, e1, e2, show d ≠ 0 by omega, sgz, sgn]
      · have e1 : m / 10 ≠ 0 := by omega
        have e1' : ¬ m < 10 := h1
        by_cases h2 : m % 10 = 0 <;> simp [h0, e1', e1, h2, show d ≠ 0 by omega, sgz, sgn]
  · have hm : m < 1000 := hm
    rw [rk4_cases]
    unfold cont
    rw [rk4_cases m]
    have e : (10 : Nat) ^ 3 = 1000 := rfl
    have e' : (10 : Nat) ^ 2 = 100 := rfl
    simp only [e, e', show (3 - 1 : Nat) = 2 from rfl]
    rw [show (d * 1000 + m) / 1000 % 10 = d by omega, show (d * 1000 + m) / 100 % 10 = m / 100 by omega, show (d * 1000 + m) / 10 % 10 = m / 10 % 10 by omega, show (d * 1000 + m) % 10 = m % 10 by omega, show m / 1000 % 10 = 0 by omega, show m / 100 % 10 = m / 100 by omega]
    by_cases h0 : m = 0
    · subst h0; simp [show d ≠ 0 by omega, sgz, sgn]
    · by_cases h1 : m < 100
      · have e1 : m / 100 = 0 := by omega
        by_cases h2 : m / 10 % 10 = 0
        · have h3 : m % 10 ≠ 0 := by omega
          simp [h0, h1, e1, h2, h3, show d ≠ 0 by omega, sgz, sgn]
        · by_cases h3 : m % 10 = 0 <;> simp [h0, h1, e1, h2, h3, show d ≠ 0 by omega, sgz, sgn]
      · have e1 : m / 100 ≠ 0 := by omega
        by_cases h2 : m / 10 % 10 = 0 <;> by_cases h3 : m % 10 = 0 <;> simp [h0, h1, e1, h2, h3, show d ≠ 0 by omega, sgz, sgn]
/-- what may follow a number less than 10000 -/
def TA (u : Nat) (t : List UInt8) : Prop := t = [] ∨ (u = 1 ∧ ∃ t', t = 119 :: t' ∧ acc (0, 0, 4, 0) t' = true)
theorem ta_link {u : Nat} {k : Lk} {c : UInt8} {l : List UInt8} (h : k ∈ wl u) (hc : c ∈ k.1) (ha : acc k.2 l = true) : TA u (c :: l) := by
  obtain ⟨hu, rfl⟩ := wl_mem h
  simp at hc
  subst hc
  exact .inr ⟨hu, l, rfl, ha⟩
theorem dl_mem {u a n : Nat} {k : Lk} (h : k ∈ rdl u a n) : ∃ r, a ≤ r ∧ r < a + n ∧ k ∈ dlk u r := by
  unfold rdl at h
  obtain ⟨i, hi, hk⟩ := List.mem_flatMap.1 h
  rw [List.mem_range] at hi
  exact ⟨a + i, by omega, by omega, hk⟩
/-- behind a digit: its sign, and what its rank's sign allows -/
theorem acc_D (u a b : Nat) (hab : a ≤ b) (t : List UInt8) (h : acc (2, u, a, b) t = true) : ∃ r t', a ≤ r ∧ r ≤ b ∧ t = sgz r ++ t' ∧ ((r = 0 ∧ TA u t') ∨ (1 ≤ r ∧ acc (0, u, r, 0) t' = true)) := by
  rcases acc_inv _ _ h with ⟨rfl, hc⟩ | ⟨c, l, k, rfl, hk, hm, ha⟩
  · have hc : (a == 0) = true := hc
    obtain rfl : a = 0 := by simpa using hc
    exact ⟨0, [], Nat.le_refl _, hab, rfl, .inl ⟨rfl, .inl rfl⟩⟩
  · have hk : k ∈ rdl u a (b + 1 - a) := hk
    obtain ⟨r, h1, h2, hk⟩ := dl_mem hk
    unfold dlk at hk
    split at hk
    · rename_i h0
      subst h0
      exact ⟨0, c :: l, h1, by omega, rfl, .inl ⟨rfl, ta_link hk hm ha⟩⟩
    · rename_i h0
      obtain rfl : k = (sgn r, (0, u, r, 0)) := by simpa using hk
      refine ⟨r, l, h1, by omega, ?_, .inr ⟨by omega, ha⟩⟩
      unfold sgz
      rw [if_neg h0, sgn_mem hm]
      rfl
/-- a text that a state behind a sign of rank r accepts -/
theorem acc_B (u : Nat) (r : Nat) : 1 ≤ r → r ≤ 4 → ∀ t, acc (0, u, r, 0) t = true → ∃ m tl, m < 10 ^ r ∧ t = cont r m ++ tl ∧ TA u tl := by
  induction r using Nat.strongRecOn with
  | _ r ih =>
    intro h1 h4 t h
    have low : ∀ r' t', r' < r → (r' = 0 ∧ TA u t') ∨ (1 ≤ r' ∧ acc (0, u, r', 0) t' = true) → ∃ m tl, m < 10 ^ r' ∧ t' = cont r' m ++ tl ∧ TA u tl := by
      intro r' t' hr hh
      rcases hh with ⟨rfl, ht⟩ | ⟨h1', ha⟩
      · exact ⟨0, t', by decide, rfl, ht⟩
      · exact ih r' hr h1' (by omega) t' ha
    rcases acc_inv _ _ h with ⟨rfl, _⟩ | ⟨c, l, k, rfl, hk, hm, ha⟩
    · exact ⟨0, [], Nat.pow_pos (by decide), rfl, .inl rfl⟩
    · have hk : k ∈ wl u ++ ([(rdgs, (2, u, r - 1, r - 1))] ++ if 1 < r then [([111], (1, u, r, 0))] else []) := hk
      rcases List.mem_append.1 hk with hk | hk
      · exact ⟨0, c :: l, Nat.pow_pos (by decide), rfl, ta_link hk hm ha⟩
      · rcases List.mem_append.1 hk with hk | hk
        · obtain rfl : k = (rdgs, (2, u, r - 1, r - 1)) := by simpa using hk
          obtain ⟨d, d1, d9, rfl⟩ := digs_mem hm
          obtain ⟨r', t', q1, q2, rfl, hh⟩ := acc_D u (r - 1) (r - 1) (Nat.le_refl _) l ha
          obtain rfl : r' = r - 1 := by omega
          obtain ⟨m, tl, hm', rfl, ht⟩ := low _ _ (by omega) hh
          have hpow : 10 ^ r = 10 * 10 ^ (r - 1) := by rw [show r = (r - 1) + 1 by omega, Nat.pow_succ, Nat.mul_comm]; rfl
          have hdp : 10 ^ (r - 1) ≤ d * 10 ^ (r - 1) := Nat.le_mul_of_pos_left _ (by omega)
          have hdq : d * 10 ^ (r - 1) ≤ 9 * 10 ^ (r - 1) := Nat.mul_le_mul_right _ d9
          have hp0 : 0 < 10 ^ (r - 1) := Nat.pow_pos (by decide)
          refine ⟨d * 10 ^ (r - 1) + m, tl, by omega, ?_, ht⟩
          have e : cont r (d * 10 ^ (r - 1) + m) = rk4 (d * 10 ^ (r - 1) + m) := by
            unfold cont
            rw [if_neg (by omega), if_neg (by omega)]
            rfl
          rw [e, rk4_top (r - 1) d m (by omega) d1 d9 hm']
          simp
        · split at hk
          · rename_i hr
            obtain rfl : k = ([111], (1, u, r, 0)) := by simpa using hk
            obtain rfl : c = 111 := by simpa using hm
            rcases acc_inv _ _ ha with ⟨rfl, hc⟩ | ⟨c, l, k, rfl, hk, hm, ha2⟩
            · cases hc
            · obtain rfl : k = (rdgs, (2, u, 0, r - 2)) := by
                have hk : k ∈ [(rdgs, (2, u, 0, r - 2))] := hk
                simpa using hk
              obtain ⟨d, d1, d9, rfl⟩ := digs_mem hm
              obtain ⟨r', t', q1, q2, rfl, hh⟩ := acc_D u 0 (r - 2) (Nat.zero_le _) l ha2
              obtain ⟨m, tl, hm', rfl, ht⟩ := low _ _ (by omega) hh
              have hp0 : 0 < 10 ^ r' := Nat.pow_pos (by decide)
              have hdp : 10 ^ r' ≤ d * 10 ^ r' := Nat.le_mul_of_pos_left _ (by omega)
              have hdq : d * 10 ^ r' ≤ 9 * 10 ^ r' := Nat.mul_le_mul_right _ d9
              have h10 : 10 ^ (r' + 1) = 10 * 10 ^ r' := by rw [Nat.pow_succ, Nat.mul_comm]
              have hle : 10 ^ (r' + 1) ≤ 10 ^ (r - 1) := Nat.pow_le_pow_right (by decide) (by omega)
              have hle2 : 10 ^ (r - 1) ≤ 10 ^ r := Nat.pow_le_pow_right (by decide) (by omega)
              refine ⟨d * 10 ^ r' + m, tl, by omega, ?_, ht⟩
              have e : cont r (d * 10 ^ r' + m) = 111 :: rk4 (d * 10 ^ r' + m) := by
                unfold cont
                rw [if_neg (by omega), if_pos (by omega)]
                rfl
              rw [e, rk4_top r' d m (by omega) d1 d9 hm']
              simp
          · cases hk
theorem acc_sound (l : List UInt8) (h : acc (3, 0, 0, 0) l = true) : ∃ n, n ≤ 99999999 ∧ l = rkO n := by
  rcases acc_inv _ _ h with ⟨rfl, hc⟩ | ⟨c, l, k, rfl, hk, hm, ha⟩
  · cases hc
  · have hk : k ∈ [(rdgs, ((2, 1, 0, 3) : Q)), ([111], (4, 0, 0, 0))] := hk
    simp only [List.mem_cons, List.not_mem_nil, or_false] at hk
    rcases hk with rfl | rfl
    · obtain ⟨d, d1, d9, rfl⟩ := digs_mem hm
      obtain ⟨r, t', q1, q2, rfl, hh⟩ := acc_D 1 0 3 (by decide) l ha
      have : ∃ m tl, m < 10 ^ r ∧ t' = cont r m ++ tl ∧ TA 1 tl := by
        rcases hh with ⟨rfl, ht⟩ | ⟨h1', ha⟩
        · exact ⟨0, t', by decide, rfl, ht⟩
        · exact acc_B 1 r h1' (by omega) t' ha
      obtain ⟨m, tl, hm', rfl, ht⟩ := this
      have hb : 1 ≤ d * 10 ^ r + m ∧ d * 10 ^ r + m < 10000 := by
        rcases (show r = 0 ∨ r = 1 ∨ r = 2 ∨ r = 3 by omega) with rfl | rfl | rfl | rfl <;> simp at hm' ⊢ <;> omega
      have e := rk4_top r d m q2 d1 d9 hm'
      generalize d * 10 ^ r + m = n at *
      have e' : dch d :: (sgz r ++ (cont r m ++ tl)) = rk4 n ++ tl := by rw [e]; simp
      rw [e']
      rcases ht with rfl | ⟨_, t', rfl, ha2⟩
      · refine ⟨n, by omega, ?_⟩
        unfold rkO
        rw [if_neg (by omega), if_pos (by omega), List.append_nil]
      · obtain ⟨m', tl, hm', rfl, ht⟩ := acc_B 0 4 (by decide) (by decide) t' ha2
        have hm' : m' < 10000 := hm'
        obtain rfl : tl = [] := by
          rcases ht with rfl | ⟨h0, _⟩
          · rfl
          · cases h0
        refine ⟨n * 10000 + m', by omega, ?_⟩
        unfold rkO
        rw [if_neg (by omega), if_neg (by omega), show (n * 10000 + m') / 10000 = n by omega, show (n * 10000 + m') % 10000 = m' by omega]
        unfold cont
        by_cases h0 : m' = 0
        · subst h0
          simp [rk4_zero]
        · rw [if_neg h0]
          have : (10 : Nat) ^ (4 - 1) = 1000 := rfl
          rw [this]
          by_cases h1 : m' < 1000
          · rw [if_pos h1, if_pos ⟨by omega, h1⟩]; simp
          · rw [if_neg h1, if_neg (fun h => h1 h.2)]; simp
    · obtain rfl : c = 111 := by simpa using hm
      rcases acc_inv _ _ ha with ⟨rfl, hc⟩ | ⟨c, l, k, rfl, hk, hm, ha⟩
      · exact ⟨0, by decide, rfl⟩
      · cases hk
/-- the links, one after another -/
theorem nx_digit : ∀ u : Fin 2, ∀ r : Fin 5, ∀ d : Fin 10, 1 ≤ r.val → 1 ≤ d.val → nx (0, u.val, r.val, 0) (dch d.val) = some (2, u.val, r.val - 1, r.val - 1) := by decide
theorem nx_nought : ∀ u : Fin 2, ∀ r : Fin 5, 2 ≤ r.val → nx (0, u.val, r.val, 0) 111 = some (1, u.val, r.val, 0) := by decide
theorem nx_behind : ∀ u : Fin 2, ∀ r : Fin 5, ∀ d : Fin 10, 1 ≤ d.val → nx (1, u.val, r.val, 0) (dch d.val) = some (2, u.val, 0, r.val - 2) := by decide
theorem nx_start : ∀ d : Fin 10, 1 ≤ d.val → nx (3, 0, 0, 0) (dch d.val) = some (2, 1, 0, 3) := by decide
theorem nx_w : ∀ r : Fin 5, nx (0, 1, r.val, 0) 119 = some (0, 0, 4, 0) := by decide
theorem nx_sign : ∀ u : Fin 2, ∀ a b r : Fin 4, 1 ≤ r.val → a.val ≤ r.val → r.val ≤ b.val → nx (2, u.val, a.val, b.val) ((sgn r.val).getD 0 0) = some (0, u.val, r.val, 0) := by decide
theorem nx_dw : ∀ b : Fin 4, nx (2, 1, 0, b.val) 119 = some (0, 0, 4, 0) := by decide
theorem sgn_one (r : Nat) : sgn r = [(sgn r).getD 0 0] := by obtain ⟨c, e⟩ := sgn_form r; rw [e]; rfl
/-- behind a digit of rank r: its sign, and on -/
theorem D_acc (u a b r : Nat) (t : List UInt8) (hu : u < 2) (ha : a ≤ r) (hb : r ≤ b) (hb3 : b ≤ 3) (h : (r = 0 ∧ TA u t) ∨ (1 ≤ r ∧ acc (0, u, r, 0) t = true)) : acc (2, u, a, b) (sgz r ++ t) = true := by
  rcases h with ⟨rfl, ht⟩ | ⟨h1, h⟩
  · obtain rfl : a = 0 := by omega
    rcases ht with rfl | ⟨rfl, t', rfl, ha⟩
    · rfl
    · show acc _ (119 :: t') = true
      rw [acc_cons _ _ _ _ (nx_dw ⟨b, by omega⟩)]
      exact ha
  · unfold sgz
    rw [if_neg (by omega), sgn_one]
    show acc _ (_ :: t) = true
    rw [acc_cons _ _ _ _ (nx_sign ⟨u, hu⟩ ⟨a, by omega⟩ ⟨b, by omega⟩ ⟨r, by omega⟩ h1 ha hb)]
    exact h
/-- the first digit of a number -/
theorem top_of (m : Nat) (h0 : m ≠ 0) (h : m < 10000) : ∃ r d m', r ≤ 3 ∧ 1 ≤ d ∧ d ≤ 9 ∧ m' < 10 ^ r ∧ m = d * 10 ^ r + m' := by
  by_cases h1 : m < 10
  · exact ⟨0, m, 0, by omega, by omega, by omega, by decide, by omega⟩
  · by_cases h2 : m < 100
    · exact ⟨1, m / 10, m % 10, by omega, by omega, by omega, by show m % 10 < 10; omega, by show m = m / 10 * 10 + m % 10; omega⟩
    · by_cases h3 : m < 1000
      · exact ⟨2, m / 100, m % 100, by omega, by omega, by omega, by show m % 100 < 100; omega, by show m = m / 100 * 100 + m % 100; omega⟩
      · exact ⟨3, m / 1000, m % 1000, by omega, by omega, by omega, by show m % 1000 < 1000; omega, by show m = m / 1000 * 1000 + m % 1000; omega⟩
theorem top_lt {r r' d m' : Nat} (d1 : 1 ≤ d) (h : d * 10 ^ r' + m' < 10 ^ r) : r' < r := by
  apply Nat.lt_of_not_le
  intro hle
  have h1 : 10 ^ r ≤ 10 ^ r' := Nat.pow_le_pow_right (by decide) hle
  have h2 : 10 ^ r' ≤ d * 10 ^ r' := Nat.le_mul_of_pos_left _ (by omega)
  omega
theorem B_acc (u : Nat) (hu : u < 2) (r : Nat) : 1 ≤ r → r ≤ 4 → ∀ m tl, m < 10 ^ r → TA u tl → acc (0, u, r, 0) (cont r m ++ tl) = true := by
  induction r using Nat.strongRecOn with
  | _ r ih =>
    intro h1 h4 m tl hm ht
    by_cases h0 : m = 0
    · subst h0
      show acc (0, u, r, 0) tl = true
      rcases ht with rfl | ⟨rfl, t', rfl, ha⟩
      · rfl
      · rw [acc_cons _ _ _ _ (nx_w ⟨r, by omega⟩)]
        exact ha
    · have hle : 10 ^ r ≤ 10 ^ 4 := Nat.pow_le_pow_right (by decide) h4
      have hle : 10 ^ r ≤ 10000 := hle
      obtain ⟨r', d, m', hr3, d1, d9, hm', rfl⟩ := top_of m h0 (by omega)
      have hr : r' < r := top_lt d1 hm
      have hh : (r' = 0 ∧ TA u (cont r' m' ++ tl)) ∨ (1 ≤ r' ∧ acc (0, u, r', 0) (cont r' m' ++ tl) = true) := by
        by_cases hz : r' = 0
        · subst hz
          obtain rfl : m' = 0 := by simpa using hm'
          exact .inl ⟨rfl, ht⟩
        · exact .inr ⟨by omega, ih r' hr (by omega) (by omega) m' tl hm' ht⟩
      unfold cont
      rw [if_neg h0, rk4_top r' d m' hr3 d1 d9 hm']
      by_cases hs : d * 10 ^ r' + m' < 10 ^ (r - 1)
      · have hr' : r' < r - 1 := top_lt d1 hs
        rw [if_pos hs]
        show acc _ (111 :: dch d :: (sgz r' ++ cont r' m' ++ tl)) = true
        rw [acc_cons _ _ _ _ (nx_nought ⟨u, hu⟩ ⟨r, by omega⟩ (by show 2 ≤ r; omega)), acc_cons _ _ _ _ (nx_behind ⟨u, hu⟩ ⟨r, by omega⟩ ⟨d, by omega⟩ d1), List.append_assoc]
        exact D_acc u 0 (r - 2) r' _ hu (Nat.zero_le _) (by omega) (by omega) hh
      · rw [if_neg hs]
        obtain rfl : r' = r - 1 := by
          apply Nat.le_antisymm (by omega)
          apply Nat.le_of_not_lt
          intro hlt
          apply hs
          have g1 : 10 ^ (r' + 1) ≤ 10 ^ (r - 1) := Nat.pow_le_pow_right (by decide) hlt
          have g2 : 10 ^ (r' + 1) = 10 * 10 ^ r' := by rw [Nat.pow_succ, Nat.mul_comm]
          have g3 : d * 10 ^ r' ≤ 9 * 10 ^ r' := Nat.mul_le_mul_right _ d9
          omega
        show acc _ (dch d :: (sgz (r - 1) ++ cont (r - 1) m' ++ tl)) = true
        rw [acc_cons _ _ _ _ (nx_digit ⟨u, hu⟩ ⟨r, by omega⟩ ⟨d, by omega⟩ h1 d1), List.append_assoc]
        exact D_acc u (r - 1) (r - 1) (r - 1) _ hu (Nat.le_refl _) (Nat.le_refl _) (by omega) hh
/-- every ranked text is accepted -/
theorem acc_all (n : Nat) (hn : n ≤ 99999999) : acc (3, 0, 0, 0) (rkO n) = true := by
  have up : ∀ m tl, m ≠ 0 → m < 10000 → TA 1 tl → acc (3, 0, 0, 0) (rk4 m ++ tl) = true := by
    intro m tl h0 hm ht
    obtain ⟨r', d, m', hr3, d1, d9, hm', rfl⟩ := top_of m h0 hm
    rw [rk4_top r' d m' hr3 d1 d9 hm']
    show acc _ (dch d :: (sgz r' ++ cont r' m' ++ tl)) = true
    rw [acc_cons _ _ _ _ (nx_start ⟨d, by omega⟩ d1), List.append_assoc]
    refine D_acc 1 0 3 r' _ (by decide) (Nat.zero_le _) hr3 (by decide) ?_
    by_cases hz : r' = 0
    · subst hz
      obtain rfl : m' = 0 := by simpa using hm'
      exact .inl ⟨rfl, ht⟩
    · exact .inr ⟨by omega, B_acc 1 (by decide) r' (by omega) (by omega) m' tl hm' ht⟩
  unfold rkO
  split
  · rfl
  · split
    · have := up n [] (by assumption) (by assumption) (.inl rfl)
      rwa [List.append_nil] at this
    · rw [List.append_assoc, List.append_assoc]
      refine up (n / 10000) _ (by omega) (by omega) (.inr ⟨rfl, _, rfl, ?_⟩)
      have hb := B_acc 0 (by decide) 4 (by decide) (by decide) (n % 10000) [] (by show n % 10000 < 10000; omega) (.inl rfl)
      rw [List.append_nil] at hb
      refine Eq.trans (congrArg _ ?_) hb
      unfold cont
      have : (10 : Nat) ^ (4 - 1) = 1000 := rfl
      rw [this]
      by_cases h0 : n % 10000 = 0
      · rw [h0]; rfl
      · rw [if_neg h0]
        by_cases h1 : n % 10000 < 1000
        · rw [if_pos h1, if_pos ⟨by omega, h1⟩]; rfl
        · rw [if_neg h1, if_neg (fun h => h1 h.2)]; rfl
theorem acc_rr (l : List UInt8) : acc (3, 0, 0, 0) l = rrB l := by
  cases h : rrB l with
  | true =>
    obtain ⟨_, h2, h3⟩ := (rrB_spec l).1 h
    rw [← h3]
    exact acc_all _ h2
  | false =>
    cases h' : acc (3, 0, 0, 0) l with
    | false => rfl
    | true =>
      obtain ⟨n, hn, rfl⟩ := acc_sound l h'
      rw [rrB_rk n hn] at h
      cases h
/-- how the program reckons: number, digit -/
def nS (st : Nat × Nat) (c : UInt8) : Nat × Nat :=
  if c = 119 then ((st.1 + st.2) * 10000, 0) else if c = 113 then (st.1 + st.2 * 1000, 0) else if c = 98 then (st.1 + st.2 * 100, 0) else if c = 115 then (st.1 + st.2 * 10, 0)
  else if 49 ≤ c.toNat ∧ c.toNat ≤ 57 then (st.1, c.toNat - 48) else (st.1, 0)
def nF (l : List UInt8) : Nat × Nat := l.foldl nS (0, 0)
theorem nS_dch (st : Nat × Nat) (d : Nat) (h : d < 10) : nS st (dch d) = (st.1, d) := by
  obtain ⟨h1, h2, h3, h4, h5, _, h7⟩ := dch_fact ⟨d, h⟩
  unfold nS
  rw [if_neg h4, if_neg h1, if_neg h2, if_neg h3]
  simp only [h7]
  split
  · congr 1; omega
  · congr 1; omega
theorem nF4 (n h : Nat) (hn : n < 10000) : (rk4 n).foldl nS (h, 0) = (h + n / 10 * 10, n % 10) := by
  have q : ∀ st : Nat × Nat, nS st 113 = (st.1 + st.2 * 1000, 0) := fun _ => rfl
  have b : ∀ st : Nat × Nat, nS st 98 = (st.1 + st.2 * 100, 0) := fun _ => rfl
  have s : ∀ st : Nat × Nat, nS st 115 = (st.1 + st.2 * 10, 0) := fun _ => rfl
  have o : ∀ st : Nat × Nat, nS st 111 = (st.1, 0) := fun _ => rfl
  have d1 := fun st => nS_dch st (n / 1000 % 10) (by omega)
  have d2 := fun st => nS_dch st (n / 100 % 10) (by omega)
  have d3 := fun st => nS_dch st (n / 10 % 10) (by omega)
  have d4 := fun st => nS_dch st (n % 10) (by omega)
  rw [rk4_cases]
  by_cases e1 : n / 1000 % 10 = 0 <;> by_cases e2 : n / 100 % 10 = 0 <;> by_cases e3 : n / 10 % 10 = 0 <;> by_cases e4 : n % 10 = 0 <;> simp [e1, e2, e3, e4, q, b, s, o, d1, d2, d3, d4] <;> omega
theorem nF_back (n : Nat) (hn : n ≤ 99999999) : (nF (rkO n)).1 + (nF (rkO n)).2 = n := by
  have w : ∀ st : Nat × Nat, nS st 119 = ((st.1 + st.2) * 10000, 0) := fun _ => rfl
  have o : ∀ st : Nat × Nat, nS st 111 = (st.1, 0) := fun _ => rfl
  unfold nF rkO
  split
  · rename_i h; subst h; rfl
  · split
    · rename_i h1 h2
      rw [nF4 n 0 h2]
      show 0 + n / 10 * 10 + n % 10 = n
      omega
    · rename_i h1 h2
      rw [List.foldl_append, List.foldl_append, List.foldl_append, nF4 (n / 10000) 0 (by omega)]
      split
      · simp only [List.foldl_cons, List.foldl_nil, w, o]
        rw [nF4 (n % 10000) _ (by omega)]
        show (0 + n / 10000 / 10 * 10 + n / 10000 % 10) * 10000 + n % 10000 / 10 * 10 + n % 10000 % 10 = n
        omega
      · simp only [List.foldl_cons, List.foldl_nil, w]
        rw [nF4 (n % 10000) _ (by omega)]
        show (0 + n / 10000 / 10 * 10 + n / 10000 % 10) * 10000 + n % 10000 / 10 * 10 + n % 10000 % 10 = n
        omega
/-- what is accepted is the number -/
theorem nF_acc (l : List UInt8) (h : acc (3, 0, 0, 0) l = true) : (nF l).1 + (nF l).2 = rkN l := by
  obtain ⟨n, hn, rfl⟩ := acc_sound l h
  rw [nF_back n hn, rd_back n hn]
theorem nS_digit (st : Nat × Nat) (c : UInt8) : (nS st c).2 ≤ 9 := by
  unfold nS
  by_cases h1 : c = 119
  · rw [if_pos h1]; exact Nat.zero_le _
  · rw [if_neg h1]
    by_cases h2 : c = 113
    · rw [if_pos h2]; exact Nat.zero_le _
    · rw [if_neg h2]
      by_cases h3 : c = 98
      · rw [if_pos h3]; exact Nat.zero_le _
      · rw [if_neg h3]
        by_cases h4 : c = 115
        · rw [if_pos h4]; exact Nat.zero_le _
        · rw [if_neg h4]
          by_cases h5 : 49 ≤ c.toNat ∧ c.toNat ≤ 57
          · rw [if_pos h5]; show c.toNat - 48 ≤ 9; omega
          · rw [if_neg h5]; exact Nat.zero_le _
end Go.Proofs.YtalnojpdkiimpaaDoor

/- The program's chapter 6: signs and values of ranks, ranked texts, and what is told of them. -/
namespace Go.Proofs.YtalnojpdkiimpaaDoor
open Go.RowKit
set_option linter.unusedVariables false
set_option maxRecDepth 100000
theorem count_nts (l : List UInt8) : (Lib.countByte l 111 : Int) = (nts l : Nat) := by
  unfold Lib.countByte nts
  simp [List.countP_eq_length_filter, List.count]
/-- does a text begin with a one for tens? -/
theorem litePrefixR (l : List UInt8) (w : World) (hl : l.length ≤ 20) : Calls Tryd.prog 78 #[.string ⟨l.toArray⟩, .string ⟨#[49, 115]⟩] w fun e w' => e = .returned (.bool (decide (l.take 2 = [49, 115]))) ∧ w = w' := by
  by_cases h2 : 2 ≤ l.length
  · have e0 := ext_list l 2
    have hq : (((⟨l.toArray⟩ : ByteArray).extract 0 2).toList == [49, 115]) = decide (l.take 2 = [49, 115]) := by rw [e0]; exact Bool.eq_iff_iff.2 (by simp)
    have hz : ¬ (l.length : Int) < 2 := by omega
    generalize decide (l.take 2 = [49, 115]) = b at *
    clear e0
    go_enter Tryd.func78, Tryd.ntmps78
    go_wp2
    go_ret
    exact ⟨rret (by simp_all), rfl⟩
  · rw [decide_eq_false (fun h => h2 (by have := congrArg List.length h; rw [List.length_take] at this; simp at this; omega))]
    have hz : (l.length : Int) < 2 := by omega
    go_enter Tryd.func78, Tryd.ntmps78
    go_wp2
    go_ret
    exact ⟨rfl, rfl⟩
theorem prefixR (l : List UInt8) (w : World) (hl : l.length ≤ 20) : Calls Tryd.prog 71 #[.string ⟨l.toArray⟩, .string ⟨#[49, 115]⟩] w fun e w' => e = .returned (.bool (decide (l.take 2 = [49, 115]))) ∧ w = w' := by
  have C := Lib.hid (litePrefixR l w hl)
  generalize decide (l.take 2 = [49, 115]) = b at *
  go_enter Tryd.func71, Tryd.ntmps71
  go_wp2_with fail
  refine C.out.mono ?_
  rintro e w1 ⟨rfl, rfl⟩
  go_wp2_with fail
  go_ret
  exact ⟨rfl, rfl⟩
/-- the rank of a sign -/
def rkx (c : UInt8) : Nat := if c = 115 then 1 else if c = 98 then 2 else if c = 113 then 3 else if c = 119 then 4 else 0
theorem rkx_le (c : UInt8) : rkx c ≤ 4 := by unfold rkx; split <;> (try split) <;> (try split) <;> (try split) <;> omega
def signsR : ByteArray := ⟨#[115, 98, 113, 119]⟩
theorem indexByte_signsR (c : UInt8) : Lib.indexByte signsR.data.toList c = (rkx c : Int) - 1 := by
  have h : ∀ k, k < 256 → Lib.indexByte signsR.data.toList (UInt8.ofNat k) = (rkx (UInt8.ofNat k) : Int) - 1 := by decide +kernel
  have e := h c.toNat c.toNat_lt
  rwa [UInt8.ofNat_toNat] at e
def digitsR : ByteArray := ⟨#[49, 50, 51, 52, 53, 54, 55, 56, 57]⟩
/-- the digit of a byte, 0 for another one -/
def dgx (c : UInt8) : Nat := if 49 ≤ c.toNat ∧ c.toNat ≤ 57 then c.toNat - 48 else 0
theorem dgx_le (c : UInt8) : dgx c ≤ 9 := by unfold dgx; split <;> omega
theorem indexByte_digitsR (c : UInt8) : Lib.indexByte digitsR.data.toList c = (dgx c : Int) - 1 := by
  have h : ∀ k, k < 256 → Lib.indexByte digitsR.data.toList (UInt8.ofNat k) = (dgx (UInt8.ofNat k) : Int) - 1 := by decide +kernel
  have e := h c.toNat c.toNat_lt
  rwa [UInt8.ofNat_toNat] at e
def rankR (c : UInt8) : Value := .tuple #[.int .i64 (rkx c : Nat), .bool (decide (1 ≤ rkx c))]
theorem rsign_any (r : Nat) (w : World) (h : r < 5) : Calls Tryd.prog 68 #[.int .i64 r] w fun e w' => e = .returned (.string ⟨(sgz r).toArray⟩) ∧ w = w' := by
  rcases (show r = 0 ∨ r = 1 ∨ r = 2 ∨ r = 3 ∨ r = 4 by omega) with rfl | rfl | rfl | rfl | rfl
  all_goals
    go_enter Tryd.func68, Tryd.ntmps68
    go_wp2
    go_ret
    exact ⟨rfl, rfl⟩
theorem rvalue_any (r : Nat) (w : World) (hw : RV w) (h : r < 5) : Calls Tryd.prog 66 #[.int .i64 r] w fun e w' => e = .returned (.int .i64 (rnv r)) ∧ w = w' := by
  have hc := hw.2 r h
  clear hw
  go_enter Tryd.func66, Tryd.ntmps66
  go_wp2
  go_ret
  exact ⟨rfl, rfl⟩
end Go.Proofs.YtalnojpdkiimpaaDoor
