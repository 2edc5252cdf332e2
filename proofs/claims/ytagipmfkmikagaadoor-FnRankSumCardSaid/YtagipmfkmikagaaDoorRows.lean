/-
  NARROWER THAN 'FOR EVERY INPUT', by the rows' own cells (each row's printed sentence says how): FnExactRankLong: laid · FnExactRankNoughts: laid · FnExactRankOf: laid · FnExactRankRead: laid · FnExactRankShort: laid · FnExactRankSum: laid · FnLong: laid · FnNoughts: laid · FnRank: laid · FnRankRead: laid · FnRankShort: laid · FnRankSum: laid.
  DERIVED. THE GIVEN ROWS OF THIS SEAT. 12 by the template 'for every input the law returns true; each argument reads behind the call as it read before'; 0 by the template 'total and deterministic' (their statements: YtagipmfkmikagaaDoorTotals.lean).
  GIVEN WITH THE SEED: the statements are not yours to turn. If you find one false, say at which input.
  Laid BY PROGRAM, IN A SANDBOX (cutbox-rows.mjs): the forced cells as the released guide's own fill.sh prints them over the translation 943ad0ea0dff0633… (all of the seat's roots in one cut). By AI agents, Wed Nov 11 2026. No macro, syntax, notation, axiom, sorry.
-/
import Derived.Test.YtagipmfkmikagaaDoorChecked
import GoSem.Claim
import GoSem.ClaimJoined
import GoSem.ClaimMapViews
import Derived.JoinedTies
import Derived.KernelRfl
namespace Go.Proofs.YtagipmfkmikagaaDoor
/- THE CELL 'sum', in the pinned program and in every row, IS THE sha256 OF THE DUMP (.gsa) THAT YtagipmfkmikagaaDoorProg.lean LOADS. Nothing in Lean hashes anything: it is a label: what it is worth is what the hold of that sum in a sandbox is worth. -/
noncomputable def Tryd.pinned : Pinned := { name := "ytagipmfkmikagaadoor", sum := "943ad0ea0dff06331826c63080565af6625fda2805aeb116b85f8bae0ebdd638", checked := Tryd.checked }
namespace Rows
def none {H : Type} : Left H := { results := [], args := [] }

/- WHAT THE LISTED PACKAGE-LEVEL VARIABLES READ AS WHEN THE CALL BEGINS. Each datum BY PROGRAM (the guide's laid-datum.mjs) off the statement by which the dump's own 'gosem.cut.vars' lays the variable. In a bare row this is a premise. The card (YtagipmfkmikagaaDoorCards.lean) ties it to the program's text. -/
def laid_loop_example_peoplesnumerals_impl_rankValues {H : Type} : DataW H := .agg [.lit (.int .i64 1), .lit (.int .i64 10), .lit (.int .i64 100), .lit (.int .i64 1000), .lit (.int .i64 10000)]

/-- 'laws.FnExactRankLong': WHATEVER THE INPUT: true; the input reads as it did. -/
def fnExactRankLongSpec : ChangeSpec := { name := "fnExactRankLong", vars := ["loop.example/peoplesnumerals/impl.rankValues"], fn := fun _ => fun
  | [d, g1] => { results := [.lit (.bool true)], args := [d], vars := [g1] }
  | _ => none }
def fnExactRankLongRow : OpenClaim := { program := "ytagipmfkmikagaadoor", sum := "943ad0ea0dff06331826c63080565af6625fda2805aeb116b85f8bae0ebdd638", func := "loop.example/peoplesnumerals/laws.FnExactRankLong", spec := "fnExactRankLong", recurses := true, named := ["loop.example/peoplesnumerals/impl.rankValues"], apart := false, laid := [("loop.example/peoplesnumerals/impl.rankValues", laid_loop_example_peoplesnumerals_impl_rankValues)] }
def FnExactRankLongSaid : Prop := fnExactRankLongRow.holds Tryd.pinned (OpenSpec.ofChange fnExactRankLongSpec)

/-- ITS FALSE NEIGHBOUR: 'it returns false'. Refute it at one input. -/
def fnExactRankLongWrong : ChangeSpec := { name := "fnExactRankLong", vars := ["loop.example/peoplesnumerals/impl.rankValues"], fn := fun _ => fun
  | [d, g1] => { results := [.lit (.bool false)], args := [d], vars := [g1] }
  | _ => none }
def FnExactRankLongWrongFalsely : Prop := fnExactRankLongRow.holds Tryd.pinned (OpenSpec.ofChange fnExactRankLongWrong)

/-- 'laws.FnExactRankNoughts': WHATEVER THE INPUT: true; the input reads as it did. -/
def fnExactRankNoughtsSpec : ChangeSpec := { name := "fnExactRankNoughts", vars := ["loop.example/peoplesnumerals/impl.rankValues"], fn := fun _ => fun
  | [d, g1] => { results := [.lit (.bool true)], args := [d], vars := [g1] }
  | _ => none }
def fnExactRankNoughtsRow : OpenClaim := { program := "ytagipmfkmikagaadoor", sum := "943ad0ea0dff06331826c63080565af6625fda2805aeb116b85f8bae0ebdd638", func := "loop.example/peoplesnumerals/laws.FnExactRankNoughts", spec := "fnExactRankNoughts", inPlace := ["internal/bytealg.CountString", "internal/bytealg.IndexByteString", "internal/bytealg.IndexString"], recurses := true, named := ["loop.example/peoplesnumerals/impl.rankValues", "internal/bytealg.MaxLen"], apart := false, laid := [("loop.example/peoplesnumerals/impl.rankValues", laid_loop_example_peoplesnumerals_impl_rankValues)] }
def FnExactRankNoughtsSaid : Prop := fnExactRankNoughtsRow.holds Tryd.pinned (OpenSpec.ofChange fnExactRankNoughtsSpec)

/-- ITS FALSE NEIGHBOUR: 'it returns false'. Refute it at one input. -/
def fnExactRankNoughtsWrong : ChangeSpec := { name := "fnExactRankNoughts", vars := ["loop.example/peoplesnumerals/impl.rankValues"], fn := fun _ => fun
  | [d, g1] => { results := [.lit (.bool false)], args := [d], vars := [g1] }
  | _ => none }
def FnExactRankNoughtsWrongFalsely : Prop := fnExactRankNoughtsRow.holds Tryd.pinned (OpenSpec.ofChange fnExactRankNoughtsWrong)

/-- 'laws.FnExactRankOf': WHATEVER THE INPUT: true; the input reads as it did. -/
def fnExactRankOfSpec : ChangeSpec := { name := "fnExactRankOf", vars := ["loop.example/peoplesnumerals/impl.rankValues"], fn := fun _ => fun
  | [d, g1] => { results := [.lit (.bool true)], args := [d], vars := [g1] }
  | _ => none }
def fnExactRankOfRow : OpenClaim := { program := "ytagipmfkmikagaadoor", sum := "943ad0ea0dff06331826c63080565af6625fda2805aeb116b85f8bae0ebdd638", func := "loop.example/peoplesnumerals/laws.FnExactRankOf", spec := "fnExactRankOf", recurses := true, named := ["loop.example/peoplesnumerals/impl.rankValues"], apart := false, laid := [("loop.example/peoplesnumerals/impl.rankValues", laid_loop_example_peoplesnumerals_impl_rankValues)] }
def FnExactRankOfSaid : Prop := fnExactRankOfRow.holds Tryd.pinned (OpenSpec.ofChange fnExactRankOfSpec)

/-- ITS FALSE NEIGHBOUR: 'it returns false'. Refute it at one input. -/
def fnExactRankOfWrong : ChangeSpec := { name := "fnExactRankOf", vars := ["loop.example/peoplesnumerals/impl.rankValues"], fn := fun _ => fun
  | [d, g1] => { results := [.lit (.bool false)], args := [d], vars := [g1] }
  | _ => none }
def FnExactRankOfWrongFalsely : Prop := fnExactRankOfRow.holds Tryd.pinned (OpenSpec.ofChange fnExactRankOfWrong)

/-- 'laws.FnExactRankRead': WHATEVER THE INPUT: true; the input reads as it did. -/
def fnExactRankReadSpec : ChangeSpec := { name := "fnExactRankRead", vars := ["loop.example/peoplesnumerals/impl.rankValues"], fn := fun _ => fun
  | [d, g1] => { results := [.lit (.bool true)], args := [d], vars := [g1] }
  | _ => none }
def fnExactRankReadRow : OpenClaim := { program := "ytagipmfkmikagaadoor", sum := "943ad0ea0dff06331826c63080565af6625fda2805aeb116b85f8bae0ebdd638", func := "loop.example/peoplesnumerals/laws.FnExactRankRead", spec := "fnExactRankRead", inPlace := ["internal/bytealg.IndexByteString"], recurses := true, named := ["loop.example/peoplesnumerals/impl.rankValues"], apart := false, laid := [("loop.example/peoplesnumerals/impl.rankValues", laid_loop_example_peoplesnumerals_impl_rankValues)] }
def FnExactRankReadSaid : Prop := fnExactRankReadRow.holds Tryd.pinned (OpenSpec.ofChange fnExactRankReadSpec)

/-- ITS FALSE NEIGHBOUR: 'it returns false'. Refute it at one input. -/
def fnExactRankReadWrong : ChangeSpec := { name := "fnExactRankRead", vars := ["loop.example/peoplesnumerals/impl.rankValues"], fn := fun _ => fun
  | [d, g1] => { results := [.lit (.bool false)], args := [d], vars := [g1] }
  | _ => none }
def FnExactRankReadWrongFalsely : Prop := fnExactRankReadRow.holds Tryd.pinned (OpenSpec.ofChange fnExactRankReadWrong)

/-- 'laws.FnExactRankShort': WHATEVER THE INPUT: true; the input reads as it did. -/
def fnExactRankShortSpec : ChangeSpec := { name := "fnExactRankShort", vars := ["loop.example/peoplesnumerals/impl.rankValues"], fn := fun _ => fun
  | [d, g1] => { results := [.lit (.bool true)], args := [d], vars := [g1] }
  | _ => none }
def fnExactRankShortRow : OpenClaim := { program := "ytagipmfkmikagaadoor", sum := "943ad0ea0dff06331826c63080565af6625fda2805aeb116b85f8bae0ebdd638", func := "loop.example/peoplesnumerals/laws.FnExactRankShort", spec := "fnExactRankShort", recurses := true, named := ["loop.example/peoplesnumerals/impl.rankValues"], apart := false, laid := [("loop.example/peoplesnumerals/impl.rankValues", laid_loop_example_peoplesnumerals_impl_rankValues)] }
def FnExactRankShortSaid : Prop := fnExactRankShortRow.holds Tryd.pinned (OpenSpec.ofChange fnExactRankShortSpec)

/-- ITS FALSE NEIGHBOUR: 'it returns false'. Refute it at one input. -/
def fnExactRankShortWrong : ChangeSpec := { name := "fnExactRankShort", vars := ["loop.example/peoplesnumerals/impl.rankValues"], fn := fun _ => fun
  | [d, g1] => { results := [.lit (.bool false)], args := [d], vars := [g1] }
  | _ => none }
def FnExactRankShortWrongFalsely : Prop := fnExactRankShortRow.holds Tryd.pinned (OpenSpec.ofChange fnExactRankShortWrong)

/-- 'laws.FnExactRankSum': WHATEVER THE INPUT: true; the input reads as it did. -/
def fnExactRankSumSpec : ChangeSpec := { name := "fnExactRankSum", vars := ["loop.example/peoplesnumerals/impl.rankValues"], fn := fun _ => fun
  | [d1, d2, g1] => { results := [.lit (.bool true)], args := [d1, d2], vars := [g1] }
  | _ => none }
def fnExactRankSumRow : OpenClaim := { program := "ytagipmfkmikagaadoor", sum := "943ad0ea0dff06331826c63080565af6625fda2805aeb116b85f8bae0ebdd638", func := "loop.example/peoplesnumerals/laws.FnExactRankSum", spec := "fnExactRankSum", inPlace := ["internal/bytealg.IndexByteString"], recurses := true, named := ["loop.example/peoplesnumerals/impl.rankValues"], apart := false, laid := [("loop.example/peoplesnumerals/impl.rankValues", laid_loop_example_peoplesnumerals_impl_rankValues)] }
def FnExactRankSumSaid : Prop := fnExactRankSumRow.holds Tryd.pinned (OpenSpec.ofChange fnExactRankSumSpec)

/-- ITS FALSE NEIGHBOUR: 'it returns false'. Refute it at one input. -/
def fnExactRankSumWrong : ChangeSpec := { name := "fnExactRankSum", vars := ["loop.example/peoplesnumerals/impl.rankValues"], fn := fun _ => fun
  | [d1, d2, g1] => { results := [.lit (.bool false)], args := [d1, d2], vars := [g1] }
  | _ => none }
def FnExactRankSumWrongFalsely : Prop := fnExactRankSumRow.holds Tryd.pinned (OpenSpec.ofChange fnExactRankSumWrong)

/-- 'laws.FnLong': WHATEVER THE INPUT: true; the input reads as it did. -/
def fnLongSpec : ChangeSpec := { name := "fnLong", vars := ["loop.example/peoplesnumerals/impl.rankValues"], fn := fun _ => fun
  | [d, g1] => { results := [.lit (.bool true)], args := [d], vars := [g1] }
  | _ => none }
def fnLongRow : OpenClaim := { program := "ytagipmfkmikagaadoor", sum := "943ad0ea0dff06331826c63080565af6625fda2805aeb116b85f8bae0ebdd638", func := "loop.example/peoplesnumerals/laws.FnLong", spec := "fnLong", recurses := true, named := ["loop.example/peoplesnumerals/impl.rankValues"], apart := false, laid := [("loop.example/peoplesnumerals/impl.rankValues", laid_loop_example_peoplesnumerals_impl_rankValues)] }
def FnLongSaid : Prop := fnLongRow.holds Tryd.pinned (OpenSpec.ofChange fnLongSpec)

/-- ITS FALSE NEIGHBOUR: 'it returns false'. Refute it at one input. -/
def fnLongWrong : ChangeSpec := { name := "fnLong", vars := ["loop.example/peoplesnumerals/impl.rankValues"], fn := fun _ => fun
  | [d, g1] => { results := [.lit (.bool false)], args := [d], vars := [g1] }
  | _ => none }
def FnLongWrongFalsely : Prop := fnLongRow.holds Tryd.pinned (OpenSpec.ofChange fnLongWrong)

/-- 'laws.FnNoughts': WHATEVER THE INPUT: true; the input reads as it did. -/
def fnNoughtsSpec : ChangeSpec := { name := "fnNoughts", vars := ["loop.example/peoplesnumerals/impl.rankValues"], fn := fun _ => fun
  | [d, g1] => { results := [.lit (.bool true)], args := [d], vars := [g1] }
  | _ => none }
def fnNoughtsRow : OpenClaim := { program := "ytagipmfkmikagaadoor", sum := "943ad0ea0dff06331826c63080565af6625fda2805aeb116b85f8bae0ebdd638", func := "loop.example/peoplesnumerals/laws.FnNoughts", spec := "fnNoughts", inPlace := ["internal/bytealg.CountString", "internal/bytealg.IndexByteString", "internal/bytealg.IndexString"], recurses := true, named := ["loop.example/peoplesnumerals/impl.rankValues", "internal/bytealg.MaxLen"], apart := false, laid := [("loop.example/peoplesnumerals/impl.rankValues", laid_loop_example_peoplesnumerals_impl_rankValues)] }
def FnNoughtsSaid : Prop := fnNoughtsRow.holds Tryd.pinned (OpenSpec.ofChange fnNoughtsSpec)

/-- ITS FALSE NEIGHBOUR: 'it returns false'. Refute it at one input. -/
def fnNoughtsWrong : ChangeSpec := { name := "fnNoughts", vars := ["loop.example/peoplesnumerals/impl.rankValues"], fn := fun _ => fun
  | [d, g1] => { results := [.lit (.bool false)], args := [d], vars := [g1] }
  | _ => none }
def FnNoughtsWrongFalsely : Prop := fnNoughtsRow.holds Tryd.pinned (OpenSpec.ofChange fnNoughtsWrong)

/-- 'laws.FnRank': WHATEVER THE INPUT: true; the input reads as it did. -/
def fnRankSpec : ChangeSpec := { name := "fnRank", vars := ["loop.example/peoplesnumerals/impl.rankValues"], fn := fun _ => fun
  | [d, g1] => { results := [.lit (.bool true)], args := [d], vars := [g1] }
  | _ => none }
def fnRankRow : OpenClaim := { program := "ytagipmfkmikagaadoor", sum := "943ad0ea0dff06331826c63080565af6625fda2805aeb116b85f8bae0ebdd638", func := "loop.example/peoplesnumerals/laws.FnRank", spec := "fnRank", inPlace := ["internal/bytealg.IndexByteString"], recurses := true, named := ["loop.example/peoplesnumerals/impl.rankValues"], apart := false, laid := [("loop.example/peoplesnumerals/impl.rankValues", laid_loop_example_peoplesnumerals_impl_rankValues)] }
def FnRankSaid : Prop := fnRankRow.holds Tryd.pinned (OpenSpec.ofChange fnRankSpec)

/-- ITS FALSE NEIGHBOUR: 'it returns false'. Refute it at one input. -/
def fnRankWrong : ChangeSpec := { name := "fnRank", vars := ["loop.example/peoplesnumerals/impl.rankValues"], fn := fun _ => fun
  | [d, g1] => { results := [.lit (.bool false)], args := [d], vars := [g1] }
  | _ => none }
def FnRankWrongFalsely : Prop := fnRankRow.holds Tryd.pinned (OpenSpec.ofChange fnRankWrong)

/-- 'laws.FnRankRead': WHATEVER THE INPUT: true; the input reads as it did. -/
def fnRankReadSpec : ChangeSpec := { name := "fnRankRead", vars := ["loop.example/peoplesnumerals/impl.rankValues"], fn := fun _ => fun
  | [d, g1] => { results := [.lit (.bool true)], args := [d], vars := [g1] }
  | _ => none }
def fnRankReadRow : OpenClaim := { program := "ytagipmfkmikagaadoor", sum := "943ad0ea0dff06331826c63080565af6625fda2805aeb116b85f8bae0ebdd638", func := "loop.example/peoplesnumerals/laws.FnRankRead", spec := "fnRankRead", inPlace := ["internal/bytealg.IndexByteString"], recurses := true, named := ["loop.example/peoplesnumerals/impl.rankValues"], apart := false, laid := [("loop.example/peoplesnumerals/impl.rankValues", laid_loop_example_peoplesnumerals_impl_rankValues)] }
def FnRankReadSaid : Prop := fnRankReadRow.holds Tryd.pinned (OpenSpec.ofChange fnRankReadSpec)

/-- ITS FALSE NEIGHBOUR: 'it returns false'. Refute it at one input. -/
def fnRankReadWrong : ChangeSpec := { name := "fnRankRead", vars := ["loop.example/peoplesnumerals/impl.rankValues"], fn := fun _ => fun
  | [d, g1] => { results := [.lit (.bool false)], args := [d], vars := [g1] }
  | _ => none }
def FnRankReadWrongFalsely : Prop := fnRankReadRow.holds Tryd.pinned (OpenSpec.ofChange fnRankReadWrong)

/-- 'laws.FnRankShort': WHATEVER THE INPUT: true; the input reads as it did. -/
def fnRankShortSpec : ChangeSpec := { name := "fnRankShort", vars := ["loop.example/peoplesnumerals/impl.rankValues"], fn := fun _ => fun
  | [d, g1] => { results := [.lit (.bool true)], args := [d], vars := [g1] }
  | _ => none }
def fnRankShortRow : OpenClaim := { program := "ytagipmfkmikagaadoor", sum := "943ad0ea0dff06331826c63080565af6625fda2805aeb116b85f8bae0ebdd638", func := "loop.example/peoplesnumerals/laws.FnRankShort", spec := "fnRankShort", recurses := true, named := ["loop.example/peoplesnumerals/impl.rankValues"], apart := false, laid := [("loop.example/peoplesnumerals/impl.rankValues", laid_loop_example_peoplesnumerals_impl_rankValues)] }
def FnRankShortSaid : Prop := fnRankShortRow.holds Tryd.pinned (OpenSpec.ofChange fnRankShortSpec)

/-- ITS FALSE NEIGHBOUR: 'it returns false'. Refute it at one input. -/
def fnRankShortWrong : ChangeSpec := { name := "fnRankShort", vars := ["loop.example/peoplesnumerals/impl.rankValues"], fn := fun _ => fun
  | [d, g1] => { results := [.lit (.bool false)], args := [d], vars := [g1] }
  | _ => none }
def FnRankShortWrongFalsely : Prop := fnRankShortRow.holds Tryd.pinned (OpenSpec.ofChange fnRankShortWrong)

/-- 'laws.FnRankSum': WHATEVER THE INPUT: true; the input reads as it did. -/
def fnRankSumSpec : ChangeSpec := { name := "fnRankSum", vars := ["loop.example/peoplesnumerals/impl.rankValues"], fn := fun _ => fun
  | [d, g1] => { results := [.lit (.bool true)], args := [d], vars := [g1] }
  | _ => none }
def fnRankSumRow : OpenClaim := { program := "ytagipmfkmikagaadoor", sum := "943ad0ea0dff06331826c63080565af6625fda2805aeb116b85f8bae0ebdd638", func := "loop.example/peoplesnumerals/laws.FnRankSum", spec := "fnRankSum", inPlace := ["internal/bytealg.IndexByteString"], recurses := true, named := ["loop.example/peoplesnumerals/impl.rankValues"], apart := false, laid := [("loop.example/peoplesnumerals/impl.rankValues", laid_loop_example_peoplesnumerals_impl_rankValues)] }
def FnRankSumSaid : Prop := fnRankSumRow.holds Tryd.pinned (OpenSpec.ofChange fnRankSumSpec)

/-- ITS FALSE NEIGHBOUR: 'it returns false'. Refute it at one input. -/
def fnRankSumWrong : ChangeSpec := { name := "fnRankSum", vars := ["loop.example/peoplesnumerals/impl.rankValues"], fn := fun _ => fun
  | [d, g1] => { results := [.lit (.bool false)], args := [d], vars := [g1] }
  | _ => none }
def FnRankSumWrongFalsely : Prop := fnRankSumRow.holds Tryd.pinned (OpenSpec.ofChange fnRankSumWrong)

/- THE SECOND FORM. 'bulk': how many values and letters a reading holds, each counted each time it is reached (what is shared counts as often as it is met; a slice's spare places count too). A statement '..UptoSaid' is the law's where the arguments, and the package variables that the reading takes, are together of bulk at most 1048576: NARROWER than '..Said'. Prove '..Said' where nothing that the law and all that it calls make is longer than what came in: it says more and counts as full. Else prove '..UptoSaid'. A law counts once. -/
mutual
def uptoBulk {H : Type} : DataW H → Nat
  | .lit (.string bytes) => bytes.length + 1
  | .lit _ => 1
  | .nil => 1
  | .ptr d => uptoBulk d + 1
  | .slice elems spare => uptoBulkAll elems + uptoBulkAll spare + 1
  | .agg parts => uptoBulkAll parts + 1
  | .iface _ d => uptoBulk d + 1
  | .map entries => uptoBulkEntries entries + 1
  | .held _ => 1
def uptoBulkAll {H : Type} : List (DataW H) → Nat
  | [] => 0
  | d :: r => uptoBulk d + uptoBulkAll r
def uptoBulkEntries {H : Type} : List (Lit × DataW H) → Nat
  | [] => 0
  | x :: r => uptoBulkEntry x + uptoBulkEntries r
def uptoBulkEntry {H : Type} : Lit × DataW H → Nat
  | (.string bytes, d) => bytes.length + uptoBulk d + 1
  | (_, d) => uptoBulk d + 1
 end
def uptoSmall : (H : Type) → List (DataW H) → Bool := fun _ ds => decide (uptoBulkAll ds ≤ 1048576)
def OpenSpec.upto (s : _root_.Go.ChangeSpec) : _root_.Go.OpenSpec := { _root_.Go.OpenSpec.ofChange s with cond := some uptoSmall }

/-- 'laws.FnExactRankLong', WHERE WHAT IT READS IS OF BULK AT MOST 1048576: true; the input reads as it did. -/
def fnExactRankLongUptoRow : OpenClaim := { program := "ytagipmfkmikagaadoor", sum := "943ad0ea0dff06331826c63080565af6625fda2805aeb116b85f8bae0ebdd638", func := "loop.example/peoplesnumerals/laws.FnExactRankLong", spec := "fnExactRankLong", recurses := true, named := ["loop.example/peoplesnumerals/impl.rankValues"], apart := false, laid := [("loop.example/peoplesnumerals/impl.rankValues", laid_loop_example_peoplesnumerals_impl_rankValues)], narrowed := true }
def FnExactRankLongUptoSaid : Prop := fnExactRankLongUptoRow.holds Tryd.pinned (OpenSpec.upto fnExactRankLongSpec)

/-- 'laws.FnExactRankNoughts', WHERE WHAT IT READS IS OF BULK AT MOST 1048576: true; the input reads as it did. -/
def fnExactRankNoughtsUptoRow : OpenClaim := { program := "ytagipmfkmikagaadoor", sum := "943ad0ea0dff06331826c63080565af6625fda2805aeb116b85f8bae0ebdd638", func := "loop.example/peoplesnumerals/laws.FnExactRankNoughts", spec := "fnExactRankNoughts", inPlace := ["internal/bytealg.CountString", "internal/bytealg.IndexByteString", "internal/bytealg.IndexString"], recurses := true, named := ["loop.example/peoplesnumerals/impl.rankValues", "internal/bytealg.MaxLen"], apart := false, laid := [("loop.example/peoplesnumerals/impl.rankValues", laid_loop_example_peoplesnumerals_impl_rankValues)], narrowed := true }
def FnExactRankNoughtsUptoSaid : Prop := fnExactRankNoughtsUptoRow.holds Tryd.pinned (OpenSpec.upto fnExactRankNoughtsSpec)

/-- 'laws.FnExactRankOf', WHERE WHAT IT READS IS OF BULK AT MOST 1048576: true; the input reads as it did. -/
def fnExactRankOfUptoRow : OpenClaim := { program := "ytagipmfkmikagaadoor", sum := "943ad0ea0dff06331826c63080565af6625fda2805aeb116b85f8bae0ebdd638", func := "loop.example/peoplesnumerals/laws.FnExactRankOf", spec := "fnExactRankOf", recurses := true, named := ["loop.example/peoplesnumerals/impl.rankValues"], apart := false, laid := [("loop.example/peoplesnumerals/impl.rankValues", laid_loop_example_peoplesnumerals_impl_rankValues)], narrowed := true }
def FnExactRankOfUptoSaid : Prop := fnExactRankOfUptoRow.holds Tryd.pinned (OpenSpec.upto fnExactRankOfSpec)

/-- 'laws.FnExactRankRead', WHERE WHAT IT READS IS OF BULK AT MOST 1048576: true; the input reads as it did. -/
def fnExactRankReadUptoRow : OpenClaim := { program := "ytagipmfkmikagaadoor", sum := "943ad0ea0dff06331826c63080565af6625fda2805aeb116b85f8bae0ebdd638", func := "loop.example/peoplesnumerals/laws.FnExactRankRead", spec := "fnExactRankRead", inPlace := ["internal/bytealg.IndexByteString"], recurses := true, named := ["loop.example/peoplesnumerals/impl.rankValues"], apart := false, laid := [("loop.example/peoplesnumerals/impl.rankValues", laid_loop_example_peoplesnumerals_impl_rankValues)], narrowed := true }
def FnExactRankReadUptoSaid : Prop := fnExactRankReadUptoRow.holds Tryd.pinned (OpenSpec.upto fnExactRankReadSpec)

/-- 'laws.FnExactRankShort', WHERE WHAT IT READS IS OF BULK AT MOST 1048576: true; the input reads as it did. -/
def fnExactRankShortUptoRow : OpenClaim := { program := "ytagipmfkmikagaadoor", sum := "943ad0ea0dff06331826c63080565af6625fda2805aeb116b85f8bae0ebdd638", func := "loop.example/peoplesnumerals/laws.FnExactRankShort", spec := "fnExactRankShort", recurses := true, named := ["loop.example/peoplesnumerals/impl.rankValues"], apart := false, laid := [("loop.example/peoplesnumerals/impl.rankValues", laid_loop_example_peoplesnumerals_impl_rankValues)], narrowed := true }
def FnExactRankShortUptoSaid : Prop := fnExactRankShortUptoRow.holds Tryd.pinned (OpenSpec.upto fnExactRankShortSpec)

/-- 'laws.FnExactRankSum', WHERE WHAT IT READS IS OF BULK AT MOST 1048576: true; the input reads as it did. -/
def fnExactRankSumUptoRow : OpenClaim := { program := "ytagipmfkmikagaadoor", sum := "943ad0ea0dff06331826c63080565af6625fda2805aeb116b85f8bae0ebdd638", func := "loop.example/peoplesnumerals/laws.FnExactRankSum", spec := "fnExactRankSum", inPlace := ["internal/bytealg.IndexByteString"], recurses := true, named := ["loop.example/peoplesnumerals/impl.rankValues"], apart := false, laid := [("loop.example/peoplesnumerals/impl.rankValues", laid_loop_example_peoplesnumerals_impl_rankValues)], narrowed := true }
def FnExactRankSumUptoSaid : Prop := fnExactRankSumUptoRow.holds Tryd.pinned (OpenSpec.upto fnExactRankSumSpec)

/-- 'laws.FnLong', WHERE WHAT IT READS IS OF BULK AT MOST 1048576: true; the input reads as it did. -/
def fnLongUptoRow : OpenClaim := { program := "ytagipmfkmikagaadoor", sum := "943ad0ea0dff06331826c63080565af6625fda2805aeb116b85f8bae0ebdd638", func := "loop.example/peoplesnumerals/laws.FnLong", spec := "fnLong", recurses := true, named := ["loop.example/peoplesnumerals/impl.rankValues"], apart := false, laid := [("loop.example/peoplesnumerals/impl.rankValues", laid_loop_example_peoplesnumerals_impl_rankValues)], narrowed := true }
def FnLongUptoSaid : Prop := fnLongUptoRow.holds Tryd.pinned (OpenSpec.upto fnLongSpec)

/-- 'laws.FnNoughts', WHERE WHAT IT READS IS OF BULK AT MOST 1048576: true; the input reads as it did. -/
def fnNoughtsUptoRow : OpenClaim := { program := "ytagipmfkmikagaadoor", sum := "943ad0ea0dff06331826c63080565af6625fda2805aeb116b85f8bae0ebdd638", func := "loop.example/peoplesnumerals/laws.FnNoughts", spec := "fnNoughts", inPlace := ["internal/bytealg.CountString", "internal/bytealg.IndexByteString", "internal/bytealg.IndexString"], recurses := true, named := ["loop.example/peoplesnumerals/impl.rankValues", "internal/bytealg.MaxLen"], apart := false, laid := [("loop.example/peoplesnumerals/impl.rankValues", laid_loop_example_peoplesnumerals_impl_rankValues)], narrowed := true }
def FnNoughtsUptoSaid : Prop := fnNoughtsUptoRow.holds Tryd.pinned (OpenSpec.upto fnNoughtsSpec)

/-- 'laws.FnRank', WHERE WHAT IT READS IS OF BULK AT MOST 1048576: true; the input reads as it did. -/
def fnRankUptoRow : OpenClaim := { program := "ytagipmfkmikagaadoor", sum := "943ad0ea0dff06331826c63080565af6625fda2805aeb116b85f8bae0ebdd638", func := "loop.example/peoplesnumerals/laws.FnRank", spec := "fnRank", inPlace := ["internal/bytealg.IndexByteString"], recurses := true, named := ["loop.example/peoplesnumerals/impl.rankValues"], apart := false, laid := [("loop.example/peoplesnumerals/impl.rankValues", laid_loop_example_peoplesnumerals_impl_rankValues)], narrowed := true }
def FnRankUptoSaid : Prop := fnRankUptoRow.holds Tryd.pinned (OpenSpec.upto fnRankSpec)

/-- 'laws.FnRankRead', WHERE WHAT IT READS IS OF BULK AT MOST 1048576: true; the input reads as it did. -/
def fnRankReadUptoRow : OpenClaim := { program := "ytagipmfkmikagaadoor", sum := "943ad0ea0dff06331826c63080565af6625fda2805aeb116b85f8bae0ebdd638", func := "loop.example/peoplesnumerals/laws.FnRankRead", spec := "fnRankRead", inPlace := ["internal/bytealg.IndexByteString"], recurses := true, named := ["loop.example/peoplesnumerals/impl.rankValues"], apart := false, laid := [("loop.example/peoplesnumerals/impl.rankValues", laid_loop_example_peoplesnumerals_impl_rankValues)], narrowed := true }
def FnRankReadUptoSaid : Prop := fnRankReadUptoRow.holds Tryd.pinned (OpenSpec.upto fnRankReadSpec)

/-- 'laws.FnRankShort', WHERE WHAT IT READS IS OF BULK AT MOST 1048576: true; the input reads as it did. -/
def fnRankShortUptoRow : OpenClaim := { program := "ytagipmfkmikagaadoor", sum := "943ad0ea0dff06331826c63080565af6625fda2805aeb116b85f8bae0ebdd638", func := "loop.example/peoplesnumerals/laws.FnRankShort", spec := "fnRankShort", recurses := true, named := ["loop.example/peoplesnumerals/impl.rankValues"], apart := false, laid := [("loop.example/peoplesnumerals/impl.rankValues", laid_loop_example_peoplesnumerals_impl_rankValues)], narrowed := true }
def FnRankShortUptoSaid : Prop := fnRankShortUptoRow.holds Tryd.pinned (OpenSpec.upto fnRankShortSpec)

/-- 'laws.FnRankSum', WHERE WHAT IT READS IS OF BULK AT MOST 1048576: true; the input reads as it did. -/
def fnRankSumUptoRow : OpenClaim := { program := "ytagipmfkmikagaadoor", sum := "943ad0ea0dff06331826c63080565af6625fda2805aeb116b85f8bae0ebdd638", func := "loop.example/peoplesnumerals/laws.FnRankSum", spec := "fnRankSum", inPlace := ["internal/bytealg.IndexByteString"], recurses := true, named := ["loop.example/peoplesnumerals/impl.rankValues"], apart := false, laid := [("loop.example/peoplesnumerals/impl.rankValues", laid_loop_example_peoplesnumerals_impl_rankValues)], narrowed := true }
def FnRankSumUptoSaid : Prop := fnRankSumUptoRow.holds Tryd.pinned (OpenSpec.upto fnRankSumSpec)

end Rows
end Go.Proofs.YtagipmfkmikagaaDoor
