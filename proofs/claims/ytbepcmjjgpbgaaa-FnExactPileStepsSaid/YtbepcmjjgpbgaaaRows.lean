/-
  No cell of these rows narrows 'for every input' (looked for: loops, veiled, ifaces, maps, wideKeys, modest, calm, conditions, laid).
  DERIVED. THE GIVEN ROWS OF THIS SEAT. 16 by the template 'for every input the law returns true; each argument reads behind the call as it read before'; 0 by the template 'total and deterministic' (their statements: YtbepcmjjgpbgaaaTotals.lean).
  GIVEN WITH THE SEED: the statements are not yours to turn. If you find one false, say at which input.
  Laid BY PROGRAM, IN A SANDBOX (cutbox-rows.mjs): the forced cells as the released guide's own fill.sh prints them over the translation d4284aca3ca95f55… (all of the seat's roots in one cut). By AI agents, Wed Nov 11 2026. No macro, syntax, notation, axiom, sorry.
-/
import Derived.Test.YtbepcmjjgpbgaaaChecked
import GoSem.Claim
import GoSem.ClaimJoined
import GoSem.ClaimMapViews
import Derived.JoinedTies
import Derived.KernelRfl
namespace Go.Proofs.Ytbepcmjjgpbgaaa
/- THE CELL 'sum', in the pinned program and in every row, IS THE sha256 OF THE DUMP (.gsa) THAT YtbepcmjjgpbgaaaProg.lean LOADS. Nothing in Lean hashes anything: it is a label: what it is worth is what the hold of that sum in a sandbox is worth. -/
noncomputable def Try.pinned : Pinned := { name := "ytbepcmjjgpbgaaa", sum := "d4284aca3ca95f55154c2601ba174151f0682d5805d665e6a207f87a704fe902", checked := Try.checked }
namespace Rows
def none {H : Type} : Left H := { results := [], args := [] }

/-- 'laws.FnSystem': WHATEVER THE INPUT: true; the input reads as it did. -/
def fnSystemSpec : ChangeSpec := { name := "fnSystem", fn := fun _ => fun
  | [d] => { results := [.lit (.bool true)], args := [d] }
  | _ => none }
def fnSystemRow : OpenClaim := { program := "ytbepcmjjgpbgaaa", sum := "d4284aca3ca95f55154c2601ba174151f0682d5805d665e6a207f87a704fe902", func := "loop.example/peoplesnumerals/laws.FnSystem", spec := "fnSystem", apart := false }
def FnSystemSaid : Prop := fnSystemRow.holds Try.pinned (OpenSpec.ofChange fnSystemSpec)

/-- ITS FALSE NEIGHBOUR: 'it returns false'. Refute it at one input. -/
def fnSystemWrong : ChangeSpec := { name := "fnSystem", fn := fun _ => fun
  | [d] => { results := [.lit (.bool false)], args := [d] }
  | _ => none }
def FnSystemWrongFalsely : Prop := fnSystemRow.holds Try.pinned (OpenSpec.ofChange fnSystemWrong)

/-- 'laws.FnPileOf': WHATEVER THE INPUT: true; the input reads as it did. -/
def fnPileOfSpec : ChangeSpec := { name := "fnPileOf", fn := fun _ => fun
  | [d] => { results := [.lit (.bool true)], args := [d] }
  | _ => none }
def fnPileOfRow : OpenClaim := { program := "ytbepcmjjgpbgaaa", sum := "d4284aca3ca95f55154c2601ba174151f0682d5805d665e6a207f87a704fe902", func := "loop.example/peoplesnumerals/laws.FnPileOf", spec := "fnPileOf", apart := false }
def FnPileOfSaid : Prop := fnPileOfRow.holds Try.pinned (OpenSpec.ofChange fnPileOfSpec)

/-- ITS FALSE NEIGHBOUR: 'it returns false'. Refute it at one input. -/
def fnPileOfWrong : ChangeSpec := { name := "fnPileOf", fn := fun _ => fun
  | [d] => { results := [.lit (.bool false)], args := [d] }
  | _ => none }
def FnPileOfWrongFalsely : Prop := fnPileOfRow.holds Try.pinned (OpenSpec.ofChange fnPileOfWrong)

/-- 'laws.FnValue': WHATEVER THE INPUT: true; the input reads as it did. -/
def fnValueSpec : ChangeSpec := { name := "fnValue", fn := fun _ => fun
  | [d] => { results := [.lit (.bool true)], args := [d] }
  | _ => none }
def fnValueRow : OpenClaim := { program := "ytbepcmjjgpbgaaa", sum := "d4284aca3ca95f55154c2601ba174151f0682d5805d665e6a207f87a704fe902", func := "loop.example/peoplesnumerals/laws.FnValue", spec := "fnValue", apart := false }
def FnValueSaid : Prop := fnValueRow.holds Try.pinned (OpenSpec.ofChange fnValueSpec)

/-- ITS FALSE NEIGHBOUR: 'it returns false'. Refute it at one input. -/
def fnValueWrong : ChangeSpec := { name := "fnValue", fn := fun _ => fun
  | [d] => { results := [.lit (.bool false)], args := [d] }
  | _ => none }
def FnValueWrongFalsely : Prop := fnValueRow.holds Try.pinned (OpenSpec.ofChange fnValueWrong)

/-- 'laws.FnPlain': WHATEVER THE INPUT: true; the input reads as it did. -/
def fnPlainSpec : ChangeSpec := { name := "fnPlain", fn := fun _ => fun
  | [d] => { results := [.lit (.bool true)], args := [d] }
  | _ => none }
def fnPlainRow : OpenClaim := { program := "ytbepcmjjgpbgaaa", sum := "d4284aca3ca95f55154c2601ba174151f0682d5805d665e6a207f87a704fe902", func := "loop.example/peoplesnumerals/laws.FnPlain", spec := "fnPlain", apart := false }
def FnPlainSaid : Prop := fnPlainRow.holds Try.pinned (OpenSpec.ofChange fnPlainSpec)

/-- ITS FALSE NEIGHBOUR: 'it returns false'. Refute it at one input. -/
def fnPlainWrong : ChangeSpec := { name := "fnPlain", fn := fun _ => fun
  | [d] => { results := [.lit (.bool false)], args := [d] }
  | _ => none }
def FnPlainWrongFalsely : Prop := fnPlainRow.holds Try.pinned (OpenSpec.ofChange fnPlainWrong)

/-- 'laws.FnSum': WHATEVER THE INPUT: true; the input reads as it did. -/
def fnSumSpec : ChangeSpec := { name := "fnSum", fn := fun _ => fun
  | [d] => { results := [.lit (.bool true)], args := [d] }
  | _ => none }
def fnSumRow : OpenClaim := { program := "ytbepcmjjgpbgaaa", sum := "d4284aca3ca95f55154c2601ba174151f0682d5805d665e6a207f87a704fe902", func := "loop.example/peoplesnumerals/laws.FnSum", spec := "fnSum", apart := false }
def FnSumSaid : Prop := fnSumRow.holds Try.pinned (OpenSpec.ofChange fnSumSpec)

/-- ITS FALSE NEIGHBOUR: 'it returns false'. Refute it at one input. -/
def fnSumWrong : ChangeSpec := { name := "fnSum", fn := fun _ => fun
  | [d] => { results := [.lit (.bool false)], args := [d] }
  | _ => none }
def FnSumWrongFalsely : Prop := fnSumRow.holds Try.pinned (OpenSpec.ofChange fnSumWrong)

/-- 'laws.FnLess': WHATEVER THE INPUT: true; the input reads as it did. -/
def fnLessSpec : ChangeSpec := { name := "fnLess", fn := fun _ => fun
  | [d] => { results := [.lit (.bool true)], args := [d] }
  | _ => none }
def fnLessRow : OpenClaim := { program := "ytbepcmjjgpbgaaa", sum := "d4284aca3ca95f55154c2601ba174151f0682d5805d665e6a207f87a704fe902", func := "loop.example/peoplesnumerals/laws.FnLess", spec := "fnLess", apart := false }
def FnLessSaid : Prop := fnLessRow.holds Try.pinned (OpenSpec.ofChange fnLessSpec)

/-- ITS FALSE NEIGHBOUR: 'it returns false'. Refute it at one input. -/
def fnLessWrong : ChangeSpec := { name := "fnLess", fn := fun _ => fun
  | [d] => { results := [.lit (.bool false)], args := [d] }
  | _ => none }
def FnLessWrongFalsely : Prop := fnLessRow.holds Try.pinned (OpenSpec.ofChange fnLessWrong)

/-- 'laws.FnSize': WHATEVER THE INPUT: true; the input reads as it did. -/
def fnSizeSpec : ChangeSpec := { name := "fnSize", fn := fun _ => fun
  | [d] => { results := [.lit (.bool true)], args := [d] }
  | _ => none }
def fnSizeRow : OpenClaim := { program := "ytbepcmjjgpbgaaa", sum := "d4284aca3ca95f55154c2601ba174151f0682d5805d665e6a207f87a704fe902", func := "loop.example/peoplesnumerals/laws.FnSize", spec := "fnSize", apart := false }
def FnSizeSaid : Prop := fnSizeRow.holds Try.pinned (OpenSpec.ofChange fnSizeSpec)

/-- ITS FALSE NEIGHBOUR: 'it returns false'. Refute it at one input. -/
def fnSizeWrong : ChangeSpec := { name := "fnSize", fn := fun _ => fun
  | [d] => { results := [.lit (.bool false)], args := [d] }
  | _ => none }
def FnSizeWrongFalsely : Prop := fnSizeRow.holds Try.pinned (OpenSpec.ofChange fnSizeWrong)

/-- 'laws.FnSteps': WHATEVER THE INPUT: true; the input reads as it did. -/
def fnStepsSpec : ChangeSpec := { name := "fnSteps", fn := fun _ => fun
  | [d] => { results := [.lit (.bool true)], args := [d] }
  | _ => none }
def fnStepsRow : OpenClaim := { program := "ytbepcmjjgpbgaaa", sum := "d4284aca3ca95f55154c2601ba174151f0682d5805d665e6a207f87a704fe902", func := "loop.example/peoplesnumerals/laws.FnSteps", spec := "fnSteps", apart := false }
def FnStepsSaid : Prop := fnStepsRow.holds Try.pinned (OpenSpec.ofChange fnStepsSpec)

/-- ITS FALSE NEIGHBOUR: 'it returns false'. Refute it at one input. -/
def fnStepsWrong : ChangeSpec := { name := "fnSteps", fn := fun _ => fun
  | [d] => { results := [.lit (.bool false)], args := [d] }
  | _ => none }
def FnStepsWrongFalsely : Prop := fnStepsRow.holds Try.pinned (OpenSpec.ofChange fnStepsWrong)

/-- 'laws.FnExactPileIn': WHATEVER THE INPUT: true; the input reads as it did. -/
def fnExactPileInSpec : ChangeSpec := { name := "fnExactPileIn", fn := fun _ => fun
  | [d] => { results := [.lit (.bool true)], args := [d] }
  | _ => none }
def fnExactPileInRow : OpenClaim := { program := "ytbepcmjjgpbgaaa", sum := "d4284aca3ca95f55154c2601ba174151f0682d5805d665e6a207f87a704fe902", func := "loop.example/peoplesnumerals/laws.FnExactPileIn", spec := "fnExactPileIn", apart := false }
def FnExactPileInSaid : Prop := fnExactPileInRow.holds Try.pinned (OpenSpec.ofChange fnExactPileInSpec)

/-- ITS FALSE NEIGHBOUR: 'it returns false'. Refute it at one input. -/
def fnExactPileInWrong : ChangeSpec := { name := "fnExactPileIn", fn := fun _ => fun
  | [d] => { results := [.lit (.bool false)], args := [d] }
  | _ => none }
def FnExactPileInWrongFalsely : Prop := fnExactPileInRow.holds Try.pinned (OpenSpec.ofChange fnExactPileInWrong)

/-- 'laws.FnExactPileOf': WHATEVER THE INPUT: true; the input reads as it did. -/
def fnExactPileOfSpec : ChangeSpec := { name := "fnExactPileOf", fn := fun _ => fun
  | [d1, d2] => { results := [.lit (.bool true)], args := [d1, d2] }
  | _ => none }
def fnExactPileOfRow : OpenClaim := { program := "ytbepcmjjgpbgaaa", sum := "d4284aca3ca95f55154c2601ba174151f0682d5805d665e6a207f87a704fe902", func := "loop.example/peoplesnumerals/laws.FnExactPileOf", spec := "fnExactPileOf", apart := false }
def FnExactPileOfSaid : Prop := fnExactPileOfRow.holds Try.pinned (OpenSpec.ofChange fnExactPileOfSpec)

/-- ITS FALSE NEIGHBOUR: 'it returns false'. Refute it at one input. -/
def fnExactPileOfWrong : ChangeSpec := { name := "fnExactPileOf", fn := fun _ => fun
  | [d1, d2] => { results := [.lit (.bool false)], args := [d1, d2] }
  | _ => none }
def FnExactPileOfWrongFalsely : Prop := fnExactPileOfRow.holds Try.pinned (OpenSpec.ofChange fnExactPileOfWrong)

/-- 'laws.FnExactPileValue': WHATEVER THE INPUT: true; the input reads as it did. -/
def fnExactPileValueSpec : ChangeSpec := { name := "fnExactPileValue", fn := fun _ => fun
  | [d1, d2] => { results := [.lit (.bool true)], args := [d1, d2] }
  | _ => none }
def fnExactPileValueRow : OpenClaim := { program := "ytbepcmjjgpbgaaa", sum := "d4284aca3ca95f55154c2601ba174151f0682d5805d665e6a207f87a704fe902", func := "loop.example/peoplesnumerals/laws.FnExactPileValue", spec := "fnExactPileValue", apart := false }
def FnExactPileValueSaid : Prop := fnExactPileValueRow.holds Try.pinned (OpenSpec.ofChange fnExactPileValueSpec)

/-- ITS FALSE NEIGHBOUR: 'it returns false'. Refute it at one input. -/
def fnExactPileValueWrong : ChangeSpec := { name := "fnExactPileValue", fn := fun _ => fun
  | [d1, d2] => { results := [.lit (.bool false)], args := [d1, d2] }
  | _ => none }
def FnExactPileValueWrongFalsely : Prop := fnExactPileValueRow.holds Try.pinned (OpenSpec.ofChange fnExactPileValueWrong)

/-- 'laws.FnExactPilePlain': WHATEVER THE INPUT: true; the input reads as it did. -/
def fnExactPilePlainSpec : ChangeSpec := { name := "fnExactPilePlain", fn := fun _ => fun
  | [d1, d2] => { results := [.lit (.bool true)], args := [d1, d2] }
  | _ => none }
def fnExactPilePlainRow : OpenClaim := { program := "ytbepcmjjgpbgaaa", sum := "d4284aca3ca95f55154c2601ba174151f0682d5805d665e6a207f87a704fe902", func := "loop.example/peoplesnumerals/laws.FnExactPilePlain", spec := "fnExactPilePlain", apart := false }
def FnExactPilePlainSaid : Prop := fnExactPilePlainRow.holds Try.pinned (OpenSpec.ofChange fnExactPilePlainSpec)

/-- ITS FALSE NEIGHBOUR: 'it returns false'. Refute it at one input. -/
def fnExactPilePlainWrong : ChangeSpec := { name := "fnExactPilePlain", fn := fun _ => fun
  | [d1, d2] => { results := [.lit (.bool false)], args := [d1, d2] }
  | _ => none }
def FnExactPilePlainWrongFalsely : Prop := fnExactPilePlainRow.holds Try.pinned (OpenSpec.ofChange fnExactPilePlainWrong)

/-- 'laws.FnExactPileSum': WHATEVER THE INPUT: true; the input reads as it did. -/
def fnExactPileSumSpec : ChangeSpec := { name := "fnExactPileSum", fn := fun _ => fun
  | [d1, d2, d3] => { results := [.lit (.bool true)], args := [d1, d2, d3] }
  | _ => none }
def fnExactPileSumRow : OpenClaim := { program := "ytbepcmjjgpbgaaa", sum := "d4284aca3ca95f55154c2601ba174151f0682d5805d665e6a207f87a704fe902", func := "loop.example/peoplesnumerals/laws.FnExactPileSum", spec := "fnExactPileSum", apart := false }
def FnExactPileSumSaid : Prop := fnExactPileSumRow.holds Try.pinned (OpenSpec.ofChange fnExactPileSumSpec)

/-- ITS FALSE NEIGHBOUR: 'it returns false'. Refute it at one input. -/
def fnExactPileSumWrong : ChangeSpec := { name := "fnExactPileSum", fn := fun _ => fun
  | [d1, d2, d3] => { results := [.lit (.bool false)], args := [d1, d2, d3] }
  | _ => none }
def FnExactPileSumWrongFalsely : Prop := fnExactPileSumRow.holds Try.pinned (OpenSpec.ofChange fnExactPileSumWrong)

/-- 'laws.FnExactPileLess': WHATEVER THE INPUT: true; the input reads as it did. -/
def fnExactPileLessSpec : ChangeSpec := { name := "fnExactPileLess", fn := fun _ => fun
  | [d1, d2, d3] => { results := [.lit (.bool true)], args := [d1, d2, d3] }
  | _ => none }
def fnExactPileLessRow : OpenClaim := { program := "ytbepcmjjgpbgaaa", sum := "d4284aca3ca95f55154c2601ba174151f0682d5805d665e6a207f87a704fe902", func := "loop.example/peoplesnumerals/laws.FnExactPileLess", spec := "fnExactPileLess", apart := false }
def FnExactPileLessSaid : Prop := fnExactPileLessRow.holds Try.pinned (OpenSpec.ofChange fnExactPileLessSpec)

/-- ITS FALSE NEIGHBOUR: 'it returns false'. Refute it at one input. -/
def fnExactPileLessWrong : ChangeSpec := { name := "fnExactPileLess", fn := fun _ => fun
  | [d1, d2, d3] => { results := [.lit (.bool false)], args := [d1, d2, d3] }
  | _ => none }
def FnExactPileLessWrongFalsely : Prop := fnExactPileLessRow.holds Try.pinned (OpenSpec.ofChange fnExactPileLessWrong)

/-- 'laws.FnExactPileSize': WHATEVER THE INPUT: true; the input reads as it did. -/
def fnExactPileSizeSpec : ChangeSpec := { name := "fnExactPileSize", fn := fun _ => fun
  | [d1, d2] => { results := [.lit (.bool true)], args := [d1, d2] }
  | _ => none }
def fnExactPileSizeRow : OpenClaim := { program := "ytbepcmjjgpbgaaa", sum := "d4284aca3ca95f55154c2601ba174151f0682d5805d665e6a207f87a704fe902", func := "loop.example/peoplesnumerals/laws.FnExactPileSize", spec := "fnExactPileSize", apart := false }
def FnExactPileSizeSaid : Prop := fnExactPileSizeRow.holds Try.pinned (OpenSpec.ofChange fnExactPileSizeSpec)

/-- ITS FALSE NEIGHBOUR: 'it returns false'. Refute it at one input. -/
def fnExactPileSizeWrong : ChangeSpec := { name := "fnExactPileSize", fn := fun _ => fun
  | [d1, d2] => { results := [.lit (.bool false)], args := [d1, d2] }
  | _ => none }
def FnExactPileSizeWrongFalsely : Prop := fnExactPileSizeRow.holds Try.pinned (OpenSpec.ofChange fnExactPileSizeWrong)

/-- 'laws.FnExactPileSteps': WHATEVER THE INPUT: true; the input reads as it did. -/
def fnExactPileStepsSpec : ChangeSpec := { name := "fnExactPileSteps", fn := fun _ => fun
  | [d1, d2] => { results := [.lit (.bool true)], args := [d1, d2] }
  | _ => none }
def fnExactPileStepsRow : OpenClaim := { program := "ytbepcmjjgpbgaaa", sum := "d4284aca3ca95f55154c2601ba174151f0682d5805d665e6a207f87a704fe902", func := "loop.example/peoplesnumerals/laws.FnExactPileSteps", spec := "fnExactPileSteps", apart := false }
def FnExactPileStepsSaid : Prop := fnExactPileStepsRow.holds Try.pinned (OpenSpec.ofChange fnExactPileStepsSpec)

/-- ITS FALSE NEIGHBOUR: 'it returns false'. Refute it at one input. -/
def fnExactPileStepsWrong : ChangeSpec := { name := "fnExactPileSteps", fn := fun _ => fun
  | [d1, d2] => { results := [.lit (.bool false)], args := [d1, d2] }
  | _ => none }
def FnExactPileStepsWrongFalsely : Prop := fnExactPileStepsRow.holds Try.pinned (OpenSpec.ofChange fnExactPileStepsWrong)

/- THE SECOND FORM. 'bulk': how many values and letters a reading holds, each counted each time it is reached (what is shared counts as often as it is met; a slice's spare places count too). A statement '..UptoSaid' is the law's where the arguments, and the package variables that the reading takes, are together of bulk at most 1048576: NARROWER than '..Said'. Prove '..Said' where nothing that the law and all that it calls make is longer than what came in: it says more and counts as full. Else prove '..UptoSaid'. A law counts once. -/
mutual
def uptoBulk {H : Type} : DataW H → Nat
  | .lit (.string bytes) => bytes.length + 1
  | .lit _ => 1
  | .nil => 1
  | .ptr d => uptoBulk d + 1
  | .slice elems spare => uptoBulkAll elems + uptoBulkAll spare + 1
  | .agg parts => uptoBulkAll parts + 1
  | .iface _ d => uptoBulk d + 1
  | .map entries => uptoBulkEntries entries + 1
  | .held _ => 1
def uptoBulkAll {H : Type} : List (DataW H) → Nat
  | [] => 0
  | d :: r => uptoBulk d + uptoBulkAll r
def uptoBulkEntries {H : Type} : List (Lit × DataW H) → Nat
  | [] => 0
  | x :: r => uptoBulkEntry x + uptoBulkEntries r
def uptoBulkEntry {H : Type} : Lit × DataW H → Nat
  | (.string bytes, d) => bytes.length + uptoBulk d + 1
  | (_, d) => uptoBulk d + 1
 end
def uptoSmall : (H : Type) → List (DataW H) → Bool := fun _ ds => decide (uptoBulkAll ds ≤ 1048576)
def OpenSpec.upto (s : _root_.Go.ChangeSpec) : _root_.Go.OpenSpec := { _root_.Go.OpenSpec.ofChange s with cond := some uptoSmall }

/-- 'laws.FnSystem', WHERE WHAT IT READS IS OF BULK AT MOST 1048576: true; the input reads as it did. -/
def fnSystemUptoRow : OpenClaim := { program := "ytbepcmjjgpbgaaa", sum := "d4284aca3ca95f55154c2601ba174151f0682d5805d665e6a207f87a704fe902", func := "loop.example/peoplesnumerals/laws.FnSystem", spec := "fnSystem", apart := false, narrowed := true }
def FnSystemUptoSaid : Prop := fnSystemUptoRow.holds Try.pinned (OpenSpec.upto fnSystemSpec)

/-- 'laws.FnPileOf', WHERE WHAT IT READS IS OF BULK AT MOST 1048576: true; the input reads as it did. -/
def fnPileOfUptoRow : OpenClaim := { program := "ytbepcmjjgpbgaaa", sum := "d4284aca3ca95f55154c2601ba174151f0682d5805d665e6a207f87a704fe902", func := "loop.example/peoplesnumerals/laws.FnPileOf", spec := "fnPileOf", apart := false, narrowed := true }
def FnPileOfUptoSaid : Prop := fnPileOfUptoRow.holds Try.pinned (OpenSpec.upto fnPileOfSpec)

/-- 'laws.FnValue', WHERE WHAT IT READS IS OF BULK AT MOST 1048576: true; the input reads as it did. -/
def fnValueUptoRow : OpenClaim := { program := "ytbepcmjjgpbgaaa", sum := "d4284aca3ca95f55154c2601ba174151f0682d5805d665e6a207f87a704fe902", func := "loop.example/peoplesnumerals/laws.FnValue", spec := "fnValue", apart := false, narrowed := true }
def FnValueUptoSaid : Prop := fnValueUptoRow.holds Try.pinned (OpenSpec.upto fnValueSpec)

/-- 'laws.FnPlain', WHERE WHAT IT READS IS OF BULK AT MOST 1048576: true; the input reads as it did. -/
def fnPlainUptoRow : OpenClaim := { program := "ytbepcmjjgpbgaaa", sum := "d4284aca3ca95f55154c2601ba174151f0682d5805d665e6a207f87a704fe902", func := "loop.example/peoplesnumerals/laws.FnPlain", spec := "fnPlain", apart := false, narrowed := true }
def FnPlainUptoSaid : Prop := fnPlainUptoRow.holds Try.pinned (OpenSpec.upto fnPlainSpec)

/-- 'laws.FnSum', WHERE WHAT IT READS IS OF BULK AT MOST 1048576: true; the input reads as it did. -/
def fnSumUptoRow : OpenClaim := { program := "ytbepcmjjgpbgaaa", sum := "d4284aca3ca95f55154c2601ba174151f0682d5805d665e6a207f87a704fe902", func := "loop.example/peoplesnumerals/laws.FnSum", spec := "fnSum", apart := false, narrowed := true }
def FnSumUptoSaid : Prop := fnSumUptoRow.holds Try.pinned (OpenSpec.upto fnSumSpec)

/-- 'laws.FnLess', WHERE WHAT IT READS IS OF BULK AT MOST 1048576: true; the input reads as it did. -/
def fnLessUptoRow : OpenClaim := { program := "ytbepcmjjgpbgaaa", sum := "d4284aca3ca95f55154c2601ba174151f0682d5805d665e6a207f87a704fe902", func := "loop.example/peoplesnumerals/laws.FnLess", spec := "fnLess", apart := false, narrowed := true }
def FnLessUptoSaid : Prop := fnLessUptoRow.holds Try.pinned (OpenSpec.upto fnLessSpec)

/-- 'laws.FnSize', WHERE WHAT IT READS IS OF BULK AT MOST 1048576: true; the input reads as it did. -/
def fnSizeUptoRow : OpenClaim := { program := "ytbepcmjjgpbgaaa", sum := "d4284aca3ca95f55154c2601ba174151f0682d5805d665e6a207f87a704fe902", func := "loop.example/peoplesnumerals/laws.FnSize", spec := "fnSize", apart := false, narrowed := true }
def FnSizeUptoSaid : Prop := fnSizeUptoRow.holds Try.pinned (OpenSpec.upto fnSizeSpec)

/-- 'laws.FnSteps', WHERE WHAT IT READS IS OF BULK AT MOST 1048576: true; the input reads as it did. -/
def fnStepsUptoRow : OpenClaim := { program := "ytbepcmjjgpbgaaa", sum := "d4284aca3ca95f55154c2601ba174151f0682d5805d665e6a207f87a704fe902", func := "loop.example/peoplesnumerals/laws.FnSteps", spec := "fnSteps", apart := false, narrowed := true }
def FnStepsUptoSaid : Prop := fnStepsUptoRow.holds Try.pinned (OpenSpec.upto fnStepsSpec)

/-- 'laws.FnExactPileIn', WHERE WHAT IT READS IS OF BULK AT MOST 1048576: true; the input reads as it did. -/
def fnExactPileInUptoRow : OpenClaim := { program := "ytbepcmjjgpbgaaa", sum := "d4284aca3ca95f55154c2601ba174151f0682d5805d665e6a207f87a704fe902", func := "loop.example/peoplesnumerals/laws.FnExactPileIn", spec := "fnExactPileIn", apart := false, narrowed := true }
def FnExactPileInUptoSaid : Prop := fnExactPileInUptoRow.holds Try.pinned (OpenSpec.upto fnExactPileInSpec)

/-- 'laws.FnExactPileOf', WHERE WHAT IT READS IS OF BULK AT MOST 1048576: true; the input reads as it did. -/
def fnExactPileOfUptoRow : OpenClaim := { program := "ytbepcmjjgpbgaaa", sum := "d4284aca3ca95f55154c2601ba174151f0682d5805d665e6a207f87a704fe902", func := "loop.example/peoplesnumerals/laws.FnExactPileOf", spec := "fnExactPileOf", apart := false, narrowed := true }
def FnExactPileOfUptoSaid : Prop := fnExactPileOfUptoRow.holds Try.pinned (OpenSpec.upto fnExactPileOfSpec)

/-- 'laws.FnExactPileValue', WHERE WHAT IT READS IS OF BULK AT MOST 1048576: true; the input reads as it did. -/
def fnExactPileValueUptoRow : OpenClaim := { program := "ytbepcmjjgpbgaaa", sum := "d4284aca3ca95f55154c2601ba174151f0682d5805d665e6a207f87a704fe902", func := "loop.example/peoplesnumerals/laws.FnExactPileValue", spec := "fnExactPileValue", apart := false, narrowed := true }
def FnExactPileValueUptoSaid : Prop := fnExactPileValueUptoRow.holds Try.pinned (OpenSpec.upto fnExactPileValueSpec)

/-- 'laws.FnExactPilePlain', WHERE WHAT IT READS IS OF BULK AT MOST 1048576: true; the input reads as it did. -/
def fnExactPilePlainUptoRow : OpenClaim := { program := "ytbepcmjjgpbgaaa", sum := "d4284aca3ca95f55154c2601ba174151f0682d5805d665e6a207f87a704fe902", func := "loop.example/peoplesnumerals/laws.FnExactPilePlain", spec := "fnExactPilePlain", apart := false, narrowed := true }
def FnExactPilePlainUptoSaid : Prop := fnExactPilePlainUptoRow.holds Try.pinned (OpenSpec.upto fnExactPilePlainSpec)

/-- 'laws.FnExactPileSum', WHERE WHAT IT READS IS OF BULK AT MOST 1048576: true; the input reads as it did. -/
def fnExactPileSumUptoRow : OpenClaim := { program := "ytbepcmjjgpbgaaa", sum := "d4284aca3ca95f55154c2601ba174151f0682d5805d665e6a207f87a704fe902", func := "loop.example/peoplesnumerals/laws.FnExactPileSum", spec := "fnExactPileSum", apart := false, narrowed := true }
def FnExactPileSumUptoSaid : Prop := fnExactPileSumUptoRow.holds Try.pinned (OpenSpec.upto fnExactPileSumSpec)

/-- 'laws.FnExactPileLess', WHERE WHAT IT READS IS OF BULK AT MOST 1048576: true; the input reads as it did. -/
def fnExactPileLessUptoRow : OpenClaim := { program := "ytbepcmjjgpbgaaa", sum := "d4284aca3ca95f55154c2601ba174151f0682d5805d665e6a207f87a704fe902", func := "loop.example/peoplesnumerals/laws.FnExactPileLess", spec := "fnExactPileLess", apart := false, narrowed := true }
def FnExactPileLessUptoSaid : Prop := fnExactPileLessUptoRow.holds Try.pinned (OpenSpec.upto fnExactPileLessSpec)

/-- 'laws.FnExactPileSize', WHERE WHAT IT READS IS OF BULK AT MOST 1048576: true; the input reads as it did. -/
def fnExactPileSizeUptoRow : OpenClaim := { program := "ytbepcmjjgpbgaaa", sum := "d4284aca3ca95f55154c2601ba174151f0682d5805d665e6a207f87a704fe902", func := "loop.example/peoplesnumerals/laws.FnExactPileSize", spec := "fnExactPileSize", apart := false, narrowed := true }
def FnExactPileSizeUptoSaid : Prop := fnExactPileSizeUptoRow.holds Try.pinned (OpenSpec.upto fnExactPileSizeSpec)

/-- 'laws.FnExactPileSteps', WHERE WHAT IT READS IS OF BULK AT MOST 1048576: true; the input reads as it did. -/
def fnExactPileStepsUptoRow : OpenClaim := { program := "ytbepcmjjgpbgaaa", sum := "d4284aca3ca95f55154c2601ba174151f0682d5805d665e6a207f87a704fe902", func := "loop.example/peoplesnumerals/laws.FnExactPileSteps", spec := "fnExactPileSteps", apart := false, narrowed := true }
def FnExactPileStepsUptoSaid : Prop := fnExactPileStepsUptoRow.holds Try.pinned (OpenSpec.upto fnExactPileStepsSpec)

end Rows
end Go.Proofs.Ytbepcmjjgpbgaaa
