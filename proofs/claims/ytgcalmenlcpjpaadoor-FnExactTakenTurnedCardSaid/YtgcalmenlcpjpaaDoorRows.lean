/-
  NARROWER THAN 'FOR EVERY INPUT', by the rows' own cells (each row's printed sentence says how): FnTaken: laid · FnTakenLeast: laid · FnTakenSize: laid · FnSaved: laid · FnMost: laid · FnTurned: laid · FnExactTakenOf: laid · FnExactTakenValue: laid · FnExactTakenSize: laid · FnExactTakenSaved: laid · FnExactTakenMost: laid · FnExactTakenTurned: laid.
  DERIVED. THE GIVEN ROWS OF THIS SEAT. 12 by the template 'for every input the law returns true; each argument reads behind the call as it read before'; 0 by the template 'total and deterministic' (their statements: YtgcalmenlcpjpaaDoorTotals.lean).
  GIVEN WITH THE SEED: the statements are not yours to turn. If you find one false, say at which input.
  Laid BY PROGRAM, IN A SANDBOX (cutbox-rows.mjs): the forced cells as the released guide's own fill.sh prints them over the translation 750e61b7b6f1e8a8… (all of the seat's roots in one cut). By AI agents, Wed Nov 11 2026. No macro, syntax, notation, axiom, sorry.
-/
import Derived.Test.YtgcalmenlcpjpaaDoorChecked
import GoSem.Claim
import GoSem.ClaimJoined
import GoSem.ClaimMapViews
import Derived.JoinedTies
import Derived.KernelRfl
namespace Go.Proofs.YtgcalmenlcpjpaaDoor
/- THE CELL 'sum', in the pinned program and in every row, IS THE sha256 OF THE DUMP (.gsa) THAT YtgcalmenlcpjpaaDoorProg.lean LOADS. Nothing in Lean hashes anything: it is a label: what it is worth is what the hold of that sum in a sandbox is worth. -/
noncomputable def Tryd.pinned : Pinned := { name := "ytgcalmenlcpjpaadoor", sum := "750e61b7b6f1e8a87e980ed482ab7f07219b9ee2cbeb2889123be7a6cb822b5a", checked := Tryd.checked }
namespace Rows
def none {H : Type} : Left H := { results := [], args := [] }

/- WHAT THE LISTED PACKAGE-LEVEL VARIABLES READ AS WHEN THE CALL BEGINS. Each datum BY PROGRAM (the guide's laid-datum.mjs) off the statement by which the dump's own 'gosem.cut.vars' lays the variable. In a bare row this is a premise. The card (YtgcalmenlcpjpaaDoorCards.lean) ties it to the program's text. -/
def laid_errors_errorType {H : Type} : DataW H := .iface "internal/reflectlite.rtype" (.agg [.ptr (.lit (.string [101, 114, 114, 111, 114]))])

/-- 'laws.FnTaken': WHATEVER THE INPUT: true; the input reads as it did. -/
def fnTakenSpec : ChangeSpec := { name := "fnTaken", fn := fun _ => fun
  | [d] => { results := [.lit (.bool true)], args := [d] }
  | _ => none }
def fnTakenRow : OpenClaim := { program := "ytgcalmenlcpjpaadoor", sum := "750e61b7b6f1e8a87e980ed482ab7f07219b9ee2cbeb2889123be7a6cb822b5a", func := "loop.example/peoplesnumerals/laws.FnTaken", spec := "fnTaken", inPlace := ["internal/reflectlite.ValueOf", "(internal/reflectlite.Value).Type", "(internal/reflectlite.Value).IsNil", "internal/reflectlite.TypeOf", "(internal/reflectlite.Value).Elem", "(internal/reflectlite.Value).Set"], unfollowed := true, recurses := true, named := ["errors.errorType"], apart := false, laid := [("errors.errorType", laid_errors_errorType)] }
def FnTakenSaid : Prop := fnTakenRow.holds Tryd.pinned (OpenSpec.ofChange fnTakenSpec)

/-- ITS FALSE NEIGHBOUR: 'it returns false'. Refute it at one input. -/
def fnTakenWrong : ChangeSpec := { name := "fnTaken", fn := fun _ => fun
  | [d] => { results := [.lit (.bool false)], args := [d] }
  | _ => none }
def FnTakenWrongFalsely : Prop := fnTakenRow.holds Tryd.pinned (OpenSpec.ofChange fnTakenWrong)

/-- 'laws.FnTakenLeast': WHATEVER THE INPUT: true; the input reads as it did. -/
def fnTakenLeastSpec : ChangeSpec := { name := "fnTakenLeast", fn := fun _ => fun
  | [d] => { results := [.lit (.bool true)], args := [d] }
  | _ => none }
def fnTakenLeastRow : OpenClaim := { program := "ytgcalmenlcpjpaadoor", sum := "750e61b7b6f1e8a87e980ed482ab7f07219b9ee2cbeb2889123be7a6cb822b5a", func := "loop.example/peoplesnumerals/laws.FnTakenLeast", spec := "fnTakenLeast", inPlace := ["internal/reflectlite.ValueOf", "(internal/reflectlite.Value).Type", "(internal/reflectlite.Value).IsNil", "internal/reflectlite.TypeOf", "(internal/reflectlite.Value).Elem", "(internal/reflectlite.Value).Set"], unfollowed := true, recurses := true, named := ["errors.errorType"], apart := false, laid := [("errors.errorType", laid_errors_errorType)] }
def FnTakenLeastSaid : Prop := fnTakenLeastRow.holds Tryd.pinned (OpenSpec.ofChange fnTakenLeastSpec)

/-- ITS FALSE NEIGHBOUR: 'it returns false'. Refute it at one input. -/
def fnTakenLeastWrong : ChangeSpec := { name := "fnTakenLeast", fn := fun _ => fun
  | [d] => { results := [.lit (.bool false)], args := [d] }
  | _ => none }
def FnTakenLeastWrongFalsely : Prop := fnTakenLeastRow.holds Tryd.pinned (OpenSpec.ofChange fnTakenLeastWrong)

/-- 'laws.FnTakenSize': WHATEVER THE INPUT: true; the input reads as it did. -/
def fnTakenSizeSpec : ChangeSpec := { name := "fnTakenSize", fn := fun _ => fun
  | [d] => { results := [.lit (.bool true)], args := [d] }
  | _ => none }
def fnTakenSizeRow : OpenClaim := { program := "ytgcalmenlcpjpaadoor", sum := "750e61b7b6f1e8a87e980ed482ab7f07219b9ee2cbeb2889123be7a6cb822b5a", func := "loop.example/peoplesnumerals/laws.FnTakenSize", spec := "fnTakenSize", inPlace := ["internal/reflectlite.ValueOf", "(internal/reflectlite.Value).Type", "(internal/reflectlite.Value).IsNil", "internal/reflectlite.TypeOf", "(internal/reflectlite.Value).Elem", "(internal/reflectlite.Value).Set"], unfollowed := true, recurses := true, named := ["errors.errorType"], apart := false, laid := [("errors.errorType", laid_errors_errorType)] }
def FnTakenSizeSaid : Prop := fnTakenSizeRow.holds Tryd.pinned (OpenSpec.ofChange fnTakenSizeSpec)

/-- ITS FALSE NEIGHBOUR: 'it returns false'. Refute it at one input. -/
def fnTakenSizeWrong : ChangeSpec := { name := "fnTakenSize", fn := fun _ => fun
  | [d] => { results := [.lit (.bool false)], args := [d] }
  | _ => none }
def FnTakenSizeWrongFalsely : Prop := fnTakenSizeRow.holds Tryd.pinned (OpenSpec.ofChange fnTakenSizeWrong)

/-- 'laws.FnSaved': WHATEVER THE INPUT: true; the input reads as it did. -/
def fnSavedSpec : ChangeSpec := { name := "fnSaved", fn := fun _ => fun
  | [d] => { results := [.lit (.bool true)], args := [d] }
  | _ => none }
def fnSavedRow : OpenClaim := { program := "ytgcalmenlcpjpaadoor", sum := "750e61b7b6f1e8a87e980ed482ab7f07219b9ee2cbeb2889123be7a6cb822b5a", func := "loop.example/peoplesnumerals/laws.FnSaved", spec := "fnSaved", inPlace := ["internal/reflectlite.ValueOf", "(internal/reflectlite.Value).Type", "(internal/reflectlite.Value).IsNil", "internal/reflectlite.TypeOf", "(internal/reflectlite.Value).Elem", "(internal/reflectlite.Value).Set"], unfollowed := true, recurses := true, named := ["errors.errorType"], apart := false, laid := [("errors.errorType", laid_errors_errorType)] }
def FnSavedSaid : Prop := fnSavedRow.holds Tryd.pinned (OpenSpec.ofChange fnSavedSpec)

/-- ITS FALSE NEIGHBOUR: 'it returns false'. Refute it at one input. -/
def fnSavedWrong : ChangeSpec := { name := "fnSaved", fn := fun _ => fun
  | [d] => { results := [.lit (.bool false)], args := [d] }
  | _ => none }
def FnSavedWrongFalsely : Prop := fnSavedRow.holds Tryd.pinned (OpenSpec.ofChange fnSavedWrong)

/-- 'laws.FnMost': WHATEVER THE INPUT: true; the input reads as it did. -/
def fnMostSpec : ChangeSpec := { name := "fnMost", fn := fun _ => fun
  | [d] => { results := [.lit (.bool true)], args := [d] }
  | _ => none }
def fnMostRow : OpenClaim := { program := "ytgcalmenlcpjpaadoor", sum := "750e61b7b6f1e8a87e980ed482ab7f07219b9ee2cbeb2889123be7a6cb822b5a", func := "loop.example/peoplesnumerals/laws.FnMost", spec := "fnMost", inPlace := ["internal/reflectlite.ValueOf", "(internal/reflectlite.Value).Type", "(internal/reflectlite.Value).IsNil", "internal/reflectlite.TypeOf", "(internal/reflectlite.Value).Elem", "(internal/reflectlite.Value).Set"], unfollowed := true, recurses := true, named := ["errors.errorType"], apart := false, laid := [("errors.errorType", laid_errors_errorType)] }
def FnMostSaid : Prop := fnMostRow.holds Tryd.pinned (OpenSpec.ofChange fnMostSpec)

/-- ITS FALSE NEIGHBOUR: 'it returns false'. Refute it at one input. -/
def fnMostWrong : ChangeSpec := { name := "fnMost", fn := fun _ => fun
  | [d] => { results := [.lit (.bool false)], args := [d] }
  | _ => none }
def FnMostWrongFalsely : Prop := fnMostRow.holds Tryd.pinned (OpenSpec.ofChange fnMostWrong)

/-- 'laws.FnTurned': WHATEVER THE INPUT: true; the input reads as it did. -/
def fnTurnedSpec : ChangeSpec := { name := "fnTurned", fn := fun _ => fun
  | [d] => { results := [.lit (.bool true)], args := [d] }
  | _ => none }
def fnTurnedRow : OpenClaim := { program := "ytgcalmenlcpjpaadoor", sum := "750e61b7b6f1e8a87e980ed482ab7f07219b9ee2cbeb2889123be7a6cb822b5a", func := "loop.example/peoplesnumerals/laws.FnTurned", spec := "fnTurned", inPlace := ["internal/reflectlite.ValueOf", "(internal/reflectlite.Value).Type", "(internal/reflectlite.Value).IsNil", "internal/reflectlite.TypeOf", "(internal/reflectlite.Value).Elem", "(internal/reflectlite.Value).Set"], unfollowed := true, recurses := true, named := ["errors.errorType"], apart := false, laid := [("errors.errorType", laid_errors_errorType)] }
def FnTurnedSaid : Prop := fnTurnedRow.holds Tryd.pinned (OpenSpec.ofChange fnTurnedSpec)

/-- ITS FALSE NEIGHBOUR: 'it returns false'. Refute it at one input. -/
def fnTurnedWrong : ChangeSpec := { name := "fnTurned", fn := fun _ => fun
  | [d] => { results := [.lit (.bool false)], args := [d] }
  | _ => none }
def FnTurnedWrongFalsely : Prop := fnTurnedRow.holds Tryd.pinned (OpenSpec.ofChange fnTurnedWrong)

/-- 'laws.FnExactTakenOf': WHATEVER THE INPUT: true; the input reads as it did. -/
def fnExactTakenOfSpec : ChangeSpec := { name := "fnExactTakenOf", fn := fun _ => fun
  | [d1, d2] => { results := [.lit (.bool true)], args := [d1, d2] }
  | _ => none }
def fnExactTakenOfRow : OpenClaim := { program := "ytgcalmenlcpjpaadoor", sum := "750e61b7b6f1e8a87e980ed482ab7f07219b9ee2cbeb2889123be7a6cb822b5a", func := "loop.example/peoplesnumerals/laws.FnExactTakenOf", spec := "fnExactTakenOf", inPlace := ["internal/reflectlite.ValueOf", "(internal/reflectlite.Value).Type", "(internal/reflectlite.Value).IsNil", "internal/reflectlite.TypeOf", "(internal/reflectlite.Value).Elem", "(internal/reflectlite.Value).Set"], unfollowed := true, recurses := true, named := ["errors.errorType"], apart := false, laid := [("errors.errorType", laid_errors_errorType)] }
def FnExactTakenOfSaid : Prop := fnExactTakenOfRow.holds Tryd.pinned (OpenSpec.ofChange fnExactTakenOfSpec)

/-- ITS FALSE NEIGHBOUR: 'it returns false'. Refute it at one input. -/
def fnExactTakenOfWrong : ChangeSpec := { name := "fnExactTakenOf", fn := fun _ => fun
  | [d1, d2] => { results := [.lit (.bool false)], args := [d1, d2] }
  | _ => none }
def FnExactTakenOfWrongFalsely : Prop := fnExactTakenOfRow.holds Tryd.pinned (OpenSpec.ofChange fnExactTakenOfWrong)

/-- 'laws.FnExactTakenValue': WHATEVER THE INPUT: true; the input reads as it did. -/
def fnExactTakenValueSpec : ChangeSpec := { name := "fnExactTakenValue", fn := fun _ => fun
  | [d1, d2] => { results := [.lit (.bool true)], args := [d1, d2] }
  | _ => none }
def fnExactTakenValueRow : OpenClaim := { program := "ytgcalmenlcpjpaadoor", sum := "750e61b7b6f1e8a87e980ed482ab7f07219b9ee2cbeb2889123be7a6cb822b5a", func := "loop.example/peoplesnumerals/laws.FnExactTakenValue", spec := "fnExactTakenValue", inPlace := ["internal/reflectlite.ValueOf", "(internal/reflectlite.Value).Type", "(internal/reflectlite.Value).IsNil", "internal/reflectlite.TypeOf", "(internal/reflectlite.Value).Elem", "(internal/reflectlite.Value).Set"], unfollowed := true, recurses := true, named := ["errors.errorType"], apart := false, laid := [("errors.errorType", laid_errors_errorType)] }
def FnExactTakenValueSaid : Prop := fnExactTakenValueRow.holds Tryd.pinned (OpenSpec.ofChange fnExactTakenValueSpec)

/-- ITS FALSE NEIGHBOUR: 'it returns false'. Refute it at one input. -/
def fnExactTakenValueWrong : ChangeSpec := { name := "fnExactTakenValue", fn := fun _ => fun
  | [d1, d2] => { results := [.lit (.bool false)], args := [d1, d2] }
  | _ => none }
def FnExactTakenValueWrongFalsely : Prop := fnExactTakenValueRow.holds Tryd.pinned (OpenSpec.ofChange fnExactTakenValueWrong)

/-- 'laws.FnExactTakenSize': WHATEVER THE INPUT: true; the input reads as it did. -/
def fnExactTakenSizeSpec : ChangeSpec := { name := "fnExactTakenSize", fn := fun _ => fun
  | [d1, d2] => { results := [.lit (.bool true)], args := [d1, d2] }
  | _ => none }
def fnExactTakenSizeRow : OpenClaim := { program := "ytgcalmenlcpjpaadoor", sum := "750e61b7b6f1e8a87e980ed482ab7f07219b9ee2cbeb2889123be7a6cb822b5a", func := "loop.example/peoplesnumerals/laws.FnExactTakenSize", spec := "fnExactTakenSize", inPlace := ["internal/reflectlite.ValueOf", "(internal/reflectlite.Value).Type", "(internal/reflectlite.Value).IsNil", "internal/reflectlite.TypeOf", "(internal/reflectlite.Value).Elem", "(internal/reflectlite.Value).Set"], unfollowed := true, recurses := true, named := ["errors.errorType"], apart := false, laid := [("errors.errorType", laid_errors_errorType)] }
def FnExactTakenSizeSaid : Prop := fnExactTakenSizeRow.holds Tryd.pinned (OpenSpec.ofChange fnExactTakenSizeSpec)

/-- ITS FALSE NEIGHBOUR: 'it returns false'. Refute it at one input. -/
def fnExactTakenSizeWrong : ChangeSpec := { name := "fnExactTakenSize", fn := fun _ => fun
  | [d1, d2] => { results := [.lit (.bool false)], args := [d1, d2] }
  | _ => none }
def FnExactTakenSizeWrongFalsely : Prop := fnExactTakenSizeRow.holds Tryd.pinned (OpenSpec.ofChange fnExactTakenSizeWrong)

/-- 'laws.FnExactTakenSaved': WHATEVER THE INPUT: true; the input reads as it did. -/
def fnExactTakenSavedSpec : ChangeSpec := { name := "fnExactTakenSaved", fn := fun _ => fun
  | [d1, d2] => { results := [.lit (.bool true)], args := [d1, d2] }
  | _ => none }
def fnExactTakenSavedRow : OpenClaim := { program := "ytgcalmenlcpjpaadoor", sum := "750e61b7b6f1e8a87e980ed482ab7f07219b9ee2cbeb2889123be7a6cb822b5a", func := "loop.example/peoplesnumerals/laws.FnExactTakenSaved", spec := "fnExactTakenSaved", inPlace := ["internal/reflectlite.ValueOf", "(internal/reflectlite.Value).Type", "(internal/reflectlite.Value).IsNil", "internal/reflectlite.TypeOf", "(internal/reflectlite.Value).Elem", "(internal/reflectlite.Value).Set"], unfollowed := true, recurses := true, named := ["errors.errorType"], apart := false, laid := [("errors.errorType", laid_errors_errorType)] }
def FnExactTakenSavedSaid : Prop := fnExactTakenSavedRow.holds Tryd.pinned (OpenSpec.ofChange fnExactTakenSavedSpec)

/-- ITS FALSE NEIGHBOUR: 'it returns false'. Refute it at one input. -/
def fnExactTakenSavedWrong : ChangeSpec := { name := "fnExactTakenSaved", fn := fun _ => fun
  | [d1, d2] => { results := [.lit (.bool false)], args := [d1, d2] }
  | _ => none }
def FnExactTakenSavedWrongFalsely : Prop := fnExactTakenSavedRow.holds Tryd.pinned (OpenSpec.ofChange fnExactTakenSavedWrong)

/-- 'laws.FnExactTakenMost': WHATEVER THE INPUT: true; the input reads as it did. -/
def fnExactTakenMostSpec : ChangeSpec := { name := "fnExactTakenMost", fn := fun _ => fun
  | [d1, d2] => { results := [.lit (.bool true)], args := [d1, d2] }
  | _ => none }
def fnExactTakenMostRow : OpenClaim := { program := "ytgcalmenlcpjpaadoor", sum := "750e61b7b6f1e8a87e980ed482ab7f07219b9ee2cbeb2889123be7a6cb822b5a", func := "loop.example/peoplesnumerals/laws.FnExactTakenMost", spec := "fnExactTakenMost", inPlace := ["internal/reflectlite.ValueOf", "(internal/reflectlite.Value).Type", "(internal/reflectlite.Value).IsNil", "internal/reflectlite.TypeOf", "(internal/reflectlite.Value).Elem", "(internal/reflectlite.Value).Set"], unfollowed := true, recurses := true, named := ["errors.errorType"], apart := false, laid := [("errors.errorType", laid_errors_errorType)] }
def FnExactTakenMostSaid : Prop := fnExactTakenMostRow.holds Tryd.pinned (OpenSpec.ofChange fnExactTakenMostSpec)

/-- ITS FALSE NEIGHBOUR: 'it returns false'. Refute it at one input. -/
def fnExactTakenMostWrong : ChangeSpec := { name := "fnExactTakenMost", fn := fun _ => fun
  | [d1, d2] => { results := [.lit (.bool false)], args := [d1, d2] }
  | _ => none }
def FnExactTakenMostWrongFalsely : Prop := fnExactTakenMostRow.holds Tryd.pinned (OpenSpec.ofChange fnExactTakenMostWrong)

/-- 'laws.FnExactTakenTurned': WHATEVER THE INPUT: true; the input reads as it did. -/
def fnExactTakenTurnedSpec : ChangeSpec := { name := "fnExactTakenTurned", fn := fun _ => fun
  | [d1, d2] => { results := [.lit (.bool true)], args := [d1, d2] }
  | _ => none }
def fnExactTakenTurnedRow : OpenClaim := { program := "ytgcalmenlcpjpaadoor", sum := "750e61b7b6f1e8a87e980ed482ab7f07219b9ee2cbeb2889123be7a6cb822b5a", func := "loop.example/peoplesnumerals/laws.FnExactTakenTurned", spec := "fnExactTakenTurned", inPlace := ["internal/reflectlite.ValueOf", "(internal/reflectlite.Value).Type", "(internal/reflectlite.Value).IsNil", "internal/reflectlite.TypeOf", "(internal/reflectlite.Value).Elem", "(internal/reflectlite.Value).Set"], unfollowed := true, recurses := true, named := ["errors.errorType"], apart := false, laid := [("errors.errorType", laid_errors_errorType)] }
def FnExactTakenTurnedSaid : Prop := fnExactTakenTurnedRow.holds Tryd.pinned (OpenSpec.ofChange fnExactTakenTurnedSpec)

/-- ITS FALSE NEIGHBOUR: 'it returns false'. Refute it at one input. -/
def fnExactTakenTurnedWrong : ChangeSpec := { name := "fnExactTakenTurned", fn := fun _ => fun
  | [d1, d2] => { results := [.lit (.bool false)], args := [d1, d2] }
  | _ => none }
def FnExactTakenTurnedWrongFalsely : Prop := fnExactTakenTurnedRow.holds Tryd.pinned (OpenSpec.ofChange fnExactTakenTurnedWrong)

/- THE SECOND FORM. 'bulk': how many values and letters a reading holds, each counted each time it is reached (what is shared counts as often as it is met; a slice's spare places count too). A statement '..UptoSaid' is the law's where the arguments, and the package variables that the reading takes, are together of bulk at most 1048576: NARROWER than '..Said'. Prove '..Said' where nothing that the law and all that it calls make is longer than what came in: it says more and counts as full. Else prove '..UptoSaid'. A law counts once. -/
mutual
def uptoBulk {H : Type} : DataW H → Nat
  | .lit (.string bytes) => bytes.length + 1
  | .lit _ => 1
  | .nil => 1
  | .ptr d => uptoBulk d + 1
  | .slice elems spare => uptoBulkAll elems + uptoBulkAll spare + 1
  | .agg parts => uptoBulkAll parts + 1
  | .iface _ d => uptoBulk d + 1
  | .map entries => uptoBulkEntries entries + 1
  | .held _ => 1
def uptoBulkAll {H : Type} : List (DataW H) → Nat
  | [] => 0
  | d :: r => uptoBulk d + uptoBulkAll r
def uptoBulkEntries {H : Type} : List (Lit × DataW H) → Nat
  | [] => 0
  | x :: r => uptoBulkEntry x + uptoBulkEntries r
def uptoBulkEntry {H : Type} : Lit × DataW H → Nat
  | (.string bytes, d) => bytes.length + uptoBulk d + 1
  | (_, d) => uptoBulk d + 1
 end
def uptoSmall : (H : Type) → List (DataW H) → Bool := fun _ ds => decide (uptoBulkAll ds ≤ 1048576)
def OpenSpec.upto (s : _root_.Go.ChangeSpec) : _root_.Go.OpenSpec := { _root_.Go.OpenSpec.ofChange s with cond := some uptoSmall }

/-- 'laws.FnTaken', WHERE WHAT IT READS IS OF BULK AT MOST 1048576: true; the input reads as it did. -/
def fnTakenUptoRow : OpenClaim := { program := "ytgcalmenlcpjpaadoor", sum := "750e61b7b6f1e8a87e980ed482ab7f07219b9ee2cbeb2889123be7a6cb822b5a", func := "loop.example/peoplesnumerals/laws.FnTaken", spec := "fnTaken", inPlace := ["internal/reflectlite.ValueOf", "(internal/reflectlite.Value).Type", "(internal/reflectlite.Value).IsNil", "internal/reflectlite.TypeOf", "(internal/reflectlite.Value).Elem", "(internal/reflectlite.Value).Set"], unfollowed := true, recurses := true, named := ["errors.errorType"], apart := false, laid := [("errors.errorType", laid_errors_errorType)], narrowed := true }
def FnTakenUptoSaid : Prop := fnTakenUptoRow.holds Tryd.pinned (OpenSpec.upto fnTakenSpec)

/-- 'laws.FnTakenLeast', WHERE WHAT IT READS IS OF BULK AT MOST 1048576: true; the input reads as it did. -/
def fnTakenLeastUptoRow : OpenClaim := { program := "ytgcalmenlcpjpaadoor", sum := "750e61b7b6f1e8a87e980ed482ab7f07219b9ee2cbeb2889123be7a6cb822b5a", func := "loop.example/peoplesnumerals/laws.FnTakenLeast", spec := "fnTakenLeast", inPlace := ["internal/reflectlite.ValueOf", "(internal/reflectlite.Value).Type", "(internal/reflectlite.Value).IsNil", "internal/reflectlite.TypeOf", "(internal/reflectlite.Value).Elem", "(internal/reflectlite.Value).Set"], unfollowed := true, recurses := true, named := ["errors.errorType"], apart := false, laid := [("errors.errorType", laid_errors_errorType)], narrowed := true }
def FnTakenLeastUptoSaid : Prop := fnTakenLeastUptoRow.holds Tryd.pinned (OpenSpec.upto fnTakenLeastSpec)

/-- 'laws.FnTakenSize', WHERE WHAT IT READS IS OF BULK AT MOST 1048576: true; the input reads as it did. -/
def fnTakenSizeUptoRow : OpenClaim := { program := "ytgcalmenlcpjpaadoor", sum := "750e61b7b6f1e8a87e980ed482ab7f07219b9ee2cbeb2889123be7a6cb822b5a", func := "loop.example/peoplesnumerals/laws.FnTakenSize", spec := "fnTakenSize", inPlace := ["internal/reflectlite.ValueOf", "(internal/reflectlite.Value).Type", "(internal/reflectlite.Value).IsNil", "internal/reflectlite.TypeOf", "(internal/reflectlite.Value).Elem", "(internal/reflectlite.Value).Set"], unfollowed := true, recurses := true, named := ["errors.errorType"], apart := false, laid := [("errors.errorType", laid_errors_errorType)], narrowed := true }
def FnTakenSizeUptoSaid : Prop := fnTakenSizeUptoRow.holds Tryd.pinned (OpenSpec.upto fnTakenSizeSpec)

/-- 'laws.FnSaved', WHERE WHAT IT READS IS OF BULK AT MOST 1048576: true; the input reads as it did. -/
def fnSavedUptoRow : OpenClaim := { program := "ytgcalmenlcpjpaadoor", sum := "750e61b7b6f1e8a87e980ed482ab7f07219b9ee2cbeb2889123be7a6cb822b5a", func := "loop.example/peoplesnumerals/laws.FnSaved", spec := "fnSaved", inPlace := ["internal/reflectlite.ValueOf", "(internal/reflectlite.Value).Type", "(internal/reflectlite.Value).IsNil", "internal/reflectlite.TypeOf", "(internal/reflectlite.Value).Elem", "(internal/reflectlite.Value).Set"], unfollowed := true, recurses := true, named := ["errors.errorType"], apart := false, laid := [("errors.errorType", laid_errors_errorType)], narrowed := true }
def FnSavedUptoSaid : Prop := fnSavedUptoRow.holds Tryd.pinned (OpenSpec.upto fnSavedSpec)

/-- 'laws.FnMost', WHERE WHAT IT READS IS OF BULK AT MOST 1048576: true; the input reads as it did. -/
def fnMostUptoRow : OpenClaim := { program := "ytgcalmenlcpjpaadoor", sum := "750e61b7b6f1e8a87e980ed482ab7f07219b9ee2cbeb2889123be7a6cb822b5a", func := "loop.example/peoplesnumerals/laws.FnMost", spec := "fnMost", inPlace := ["internal/reflectlite.ValueOf", "(internal/reflectlite.Value).Type", "(internal/reflectlite.Value).IsNil", "internal/reflectlite.TypeOf", "(internal/reflectlite.Value).Elem", "(internal/reflectlite.Value).Set"], unfollowed := true, recurses := true, named := ["errors.errorType"], apart := false, laid := [("errors.errorType", laid_errors_errorType)], narrowed := true }
def FnMostUptoSaid : Prop := fnMostUptoRow.holds Tryd.pinned (OpenSpec.upto fnMostSpec)

/-- 'laws.FnTurned', WHERE WHAT IT READS IS OF BULK AT MOST 1048576: true; the input reads as it did. -/
def fnTurnedUptoRow : OpenClaim := { program := "ytgcalmenlcpjpaadoor", sum := "750e61b7b6f1e8a87e980ed482ab7f07219b9ee2cbeb2889123be7a6cb822b5a", func := "loop.example/peoplesnumerals/laws.FnTurned", spec := "fnTurned", inPlace := ["internal/reflectlite.ValueOf", "(internal/reflectlite.Value).Type", "(internal/reflectlite.Value).IsNil", "internal/reflectlite.TypeOf", "(internal/reflectlite.Value).Elem", "(internal/reflectlite.Value).Set"], unfollowed := true, recurses := true, named := ["errors.errorType"], apart := false, laid := [("errors.errorType", laid_errors_errorType)], narrowed := true }
def FnTurnedUptoSaid : Prop := fnTurnedUptoRow.holds Tryd.pinned (OpenSpec.upto fnTurnedSpec)

/-- 'laws.FnExactTakenOf', WHERE WHAT IT READS IS OF BULK AT MOST 1048576: true; the input reads as it did. -/
def fnExactTakenOfUptoRow : OpenClaim := { program := "ytgcalmenlcpjpaadoor", sum := "750e61b7b6f1e8a87e980ed482ab7f07219b9ee2cbeb2889123be7a6cb822b5a", func := "loop.example/peoplesnumerals/laws.FnExactTakenOf", spec := "fnExactTakenOf", inPlace := ["internal/reflectlite.ValueOf", "(internal/reflectlite.Value).Type", "(internal/reflectlite.Value).IsNil", "internal/reflectlite.TypeOf", "(internal/reflectlite.Value).Elem", "(internal/reflectlite.Value).Set"], unfollowed := true, recurses := true, named := ["errors.errorType"], apart := false, laid := [("errors.errorType", laid_errors_errorType)], narrowed := true }
def FnExactTakenOfUptoSaid : Prop := fnExactTakenOfUptoRow.holds Tryd.pinned (OpenSpec.upto fnExactTakenOfSpec)

/-- 'laws.FnExactTakenValue', WHERE WHAT IT READS IS OF BULK AT MOST 1048576: true; the input reads as it did. -/
def fnExactTakenValueUptoRow : OpenClaim := { program := "ytgcalmenlcpjpaadoor", sum := "750e61b7b6f1e8a87e980ed482ab7f07219b9ee2cbeb2889123be7a6cb822b5a", func := "loop.example/peoplesnumerals/laws.FnExactTakenValue", spec := "fnExactTakenValue", inPlace := ["internal/reflectlite.ValueOf", "(internal/reflectlite.Value).Type", "(internal/reflectlite.Value).IsNil", "internal/reflectlite.TypeOf", "(internal/reflectlite.Value).Elem", "(internal/reflectlite.Value).Set"], unfollowed := true, recurses := true, named := ["errors.errorType"], apart := false, laid := [("errors.errorType", laid_errors_errorType)], narrowed := true }
def FnExactTakenValueUptoSaid : Prop := fnExactTakenValueUptoRow.holds Tryd.pinned (OpenSpec.upto fnExactTakenValueSpec)

/-- 'laws.FnExactTakenSize', WHERE WHAT IT READS IS OF BULK AT MOST 1048576: true; the input reads as it did. -/
def fnExactTakenSizeUptoRow : OpenClaim := { program := "ytgcalmenlcpjpaadoor", sum := "750e61b7b6f1e8a87e980ed482ab7f07219b9ee2cbeb2889123be7a6cb822b5a", func := "loop.example/peoplesnumerals/laws.FnExactTakenSize", spec := "fnExactTakenSize", inPlace := ["internal/reflectlite.ValueOf", "(internal/reflectlite.Value).Type", "(internal/reflectlite.Value).IsNil", "internal/reflectlite.TypeOf", "(internal/reflectlite.Value).Elem", "(internal/reflectlite.Value).Set"], unfollowed := true, recurses := true, named := ["errors.errorType"], apart := false, laid := [("errors.errorType", laid_errors_errorType)], narrowed := true }
def FnExactTakenSizeUptoSaid : Prop := fnExactTakenSizeUptoRow.holds Tryd.pinned (OpenSpec.upto fnExactTakenSizeSpec)

/-- 'laws.FnExactTakenSaved', WHERE WHAT IT READS IS OF BULK AT MOST 1048576: true; the input reads as it did. -/
def fnExactTakenSavedUptoRow : OpenClaim := { program := "ytgcalmenlcpjpaadoor", sum := "750e61b7b6f1e8a87e980ed482ab7f07219b9ee2cbeb2889123be7a6cb822b5a", func := "loop.example/peoplesnumerals/laws.FnExactTakenSaved", spec := "fnExactTakenSaved", inPlace := ["internal/reflectlite.ValueOf", "(internal/reflectlite.Value).Type", "(internal/reflectlite.Value).IsNil", "internal/reflectlite.TypeOf", "(internal/reflectlite.Value).Elem", "(internal/reflectlite.Value).Set"], unfollowed := true, recurses := true, named := ["errors.errorType"], apart := false, laid := [("errors.errorType", laid_errors_errorType)], narrowed := true }
def FnExactTakenSavedUptoSaid : Prop := fnExactTakenSavedUptoRow.holds Tryd.pinned (OpenSpec.upto fnExactTakenSavedSpec)

/-- 'laws.FnExactTakenMost', WHERE WHAT IT READS IS OF BULK AT MOST 1048576: true; the input reads as it did. -/
def fnExactTakenMostUptoRow : OpenClaim := { program := "ytgcalmenlcpjpaadoor", sum := "750e61b7b6f1e8a87e980ed482ab7f07219b9ee2cbeb2889123be7a6cb822b5a", func := "loop.example/peoplesnumerals/laws.FnExactTakenMost", spec := "fnExactTakenMost", inPlace := ["internal/reflectlite.ValueOf", "(internal/reflectlite.Value).Type", "(internal/reflectlite.Value).IsNil", "internal/reflectlite.TypeOf", "(internal/reflectlite.Value).Elem", "(internal/reflectlite.Value).Set"], unfollowed := true, recurses := true, named := ["errors.errorType"], apart := false, laid := [("errors.errorType", laid_errors_errorType)], narrowed := true }
def FnExactTakenMostUptoSaid : Prop := fnExactTakenMostUptoRow.holds Tryd.pinned (OpenSpec.upto fnExactTakenMostSpec)

/-- 'laws.FnExactTakenTurned', WHERE WHAT IT READS IS OF BULK AT MOST 1048576: true; the input reads as it did. -/
def fnExactTakenTurnedUptoRow : OpenClaim := { program := "ytgcalmenlcpjpaadoor", sum := "750e61b7b6f1e8a87e980ed482ab7f07219b9ee2cbeb2889123be7a6cb822b5a", func := "loop.example/peoplesnumerals/laws.FnExactTakenTurned", spec := "fnExactTakenTurned", inPlace := ["internal/reflectlite.ValueOf", "(internal/reflectlite.Value).Type", "(internal/reflectlite.Value).IsNil", "internal/reflectlite.TypeOf", "(internal/reflectlite.Value).Elem", "(internal/reflectlite.Value).Set"], unfollowed := true, recurses := true, named := ["errors.errorType"], apart := false, laid := [("errors.errorType", laid_errors_errorType)], narrowed := true }
def FnExactTakenTurnedUptoSaid : Prop := fnExactTakenTurnedUptoRow.holds Tryd.pinned (OpenSpec.upto fnExactTakenTurnedSpec)

end Rows
end Go.Proofs.YtgcalmenlcpjpaaDoor
