/-
  NARROWER THAN 'FOR EVERY INPUT', by the rows' own cells (each row's printed sentence says how): FnRoman: laid · FnLoose: laid · FnStrict: laid · FnShort: laid · FnAdd: laid · FnPiled: laid · FnRomanSame: laid · FnExactRomanLoose: laid · FnExactRomanStrict: laid · FnExactRomanShort: laid · FnExactRomanAdd: laid · FnExactRomanSame: laid.
  DERIVED. THE GIVEN ROWS OF THIS SEAT. 12 by the template 'for every input the law returns true; each argument reads behind the call as it read before'; 0 by the template 'total and deterministic' (their statements: YthgagidpnnaajaaDoorTotals.lean).
  GIVEN WITH THE SEED: the statements are not yours to turn. If you find one false, say at which input.
  Laid BY PROGRAM, IN A SANDBOX (cutbox-rows.mjs): the forced cells as the released guide's own fill.sh prints them over the translation ccd29deda2352ffe… (all of the seat's roots in one cut). By AI agents, Wed Nov 11 2026. No macro, syntax, notation, axiom, sorry.
-/
import Derived.Test.YthgagidpnnaajaaDoorChecked
import GoSem.Claim
import GoSem.ClaimJoined
import GoSem.ClaimMapViews
import Derived.JoinedTies
import Derived.KernelRfl
namespace Go.Proofs.YthgagidpnnaajaaDoor
/- THE CELL 'sum', in the pinned program and in every row, IS THE sha256 OF THE DUMP (.gsa) THAT YthgagidpnnaajaaDoorProg.lean LOADS. Nothing in Lean hashes anything: it is a label: what it is worth is what the hold of that sum in a sandbox is worth. -/
noncomputable def Tryd.pinned : Pinned := { name := "ythgagidpnnaajaadoor", sum := "ccd29deda2352ffe7c38c50ae6f836415f2f5dbb49b15e61fe8fdbb1fa2e09d1", checked := Tryd.checked }
namespace Rows
def none {H : Type} : Left H := { results := [], args := [] }

/- WHAT THE LISTED PACKAGE-LEVEL VARIABLES READ AS WHEN THE CALL BEGINS. Each datum BY PROGRAM (the guide's laid-datum.mjs) off the statement by which the dump's own 'gosem.cut.vars' lays the variable. In a bare row this is a premise. The card (YthgagidpnnaajaaDoorCards.lean) ties it to the program's text. -/
def laid_loop_example_peoplesnumerals_impl_letterValues {H : Type} : DataW H := .agg [.lit (.int .i64 100), .lit (.int .i64 500), .lit (.int .i64 1), .lit (.int .i64 50), .lit (.int .i64 1000), .lit (.int .i64 5), .lit (.int .i64 10)]

/-- 'laws.FnRoman': WHATEVER THE INPUT: true; the input reads as it did. -/
def fnRomanSpec : ChangeSpec := { name := "fnRoman", vars := ["loop.example/peoplesnumerals/impl.letterValues"], fn := fun _ => fun
  | [d, g1] => { results := [.lit (.bool true)], args := [d], vars := [g1] }
  | _ => none }
def fnRomanRow : OpenClaim := { program := "ythgagidpnnaajaadoor", sum := "ccd29deda2352ffe7c38c50ae6f836415f2f5dbb49b15e61fe8fdbb1fa2e09d1", func := "loop.example/peoplesnumerals/laws.FnRoman", spec := "fnRoman", named := ["loop.example/peoplesnumerals/impl.letterValues"], plainKeys := false, apart := false, laid := [("loop.example/peoplesnumerals/impl.letterValues", laid_loop_example_peoplesnumerals_impl_letterValues)] }
def FnRomanSaid : Prop := fnRomanRow.holds Tryd.pinned (OpenSpec.ofChange fnRomanSpec)

/-- ITS FALSE NEIGHBOUR: 'it returns false'. Refute it at one input. -/
def fnRomanWrong : ChangeSpec := { name := "fnRoman", vars := ["loop.example/peoplesnumerals/impl.letterValues"], fn := fun _ => fun
  | [d, g1] => { results := [.lit (.bool false)], args := [d], vars := [g1] }
  | _ => none }
def FnRomanWrongFalsely : Prop := fnRomanRow.holds Tryd.pinned (OpenSpec.ofChange fnRomanWrong)

/-- 'laws.FnLoose': WHATEVER THE INPUT: true; the input reads as it did. -/
def fnLooseSpec : ChangeSpec := { name := "fnLoose", vars := ["loop.example/peoplesnumerals/impl.letterValues"], fn := fun _ => fun
  | [d, g1] => { results := [.lit (.bool true)], args := [d], vars := [g1] }
  | _ => none }
def fnLooseRow : OpenClaim := { program := "ythgagidpnnaajaadoor", sum := "ccd29deda2352ffe7c38c50ae6f836415f2f5dbb49b15e61fe8fdbb1fa2e09d1", func := "loop.example/peoplesnumerals/laws.FnLoose", spec := "fnLoose", named := ["loop.example/peoplesnumerals/impl.letterValues"], plainKeys := false, apart := false, laid := [("loop.example/peoplesnumerals/impl.letterValues", laid_loop_example_peoplesnumerals_impl_letterValues)] }
def FnLooseSaid : Prop := fnLooseRow.holds Tryd.pinned (OpenSpec.ofChange fnLooseSpec)

/-- ITS FALSE NEIGHBOUR: 'it returns false'. Refute it at one input. -/
def fnLooseWrong : ChangeSpec := { name := "fnLoose", vars := ["loop.example/peoplesnumerals/impl.letterValues"], fn := fun _ => fun
  | [d, g1] => { results := [.lit (.bool false)], args := [d], vars := [g1] }
  | _ => none }
def FnLooseWrongFalsely : Prop := fnLooseRow.holds Tryd.pinned (OpenSpec.ofChange fnLooseWrong)

/-- 'laws.FnStrict': WHATEVER THE INPUT: true; the input reads as it did. -/
def fnStrictSpec : ChangeSpec := { name := "fnStrict", vars := ["loop.example/peoplesnumerals/impl.letterValues"], fn := fun _ => fun
  | [d, g1] => { results := [.lit (.bool true)], args := [d], vars := [g1] }
  | _ => none }
def fnStrictRow : OpenClaim := { program := "ythgagidpnnaajaadoor", sum := "ccd29deda2352ffe7c38c50ae6f836415f2f5dbb49b15e61fe8fdbb1fa2e09d1", func := "loop.example/peoplesnumerals/laws.FnStrict", spec := "fnStrict", named := ["loop.example/peoplesnumerals/impl.letterValues"], plainKeys := false, apart := false, laid := [("loop.example/peoplesnumerals/impl.letterValues", laid_loop_example_peoplesnumerals_impl_letterValues)] }
def FnStrictSaid : Prop := fnStrictRow.holds Tryd.pinned (OpenSpec.ofChange fnStrictSpec)

/-- ITS FALSE NEIGHBOUR: 'it returns false'. Refute it at one input. -/
def fnStrictWrong : ChangeSpec := { name := "fnStrict", vars := ["loop.example/peoplesnumerals/impl.letterValues"], fn := fun _ => fun
  | [d, g1] => { results := [.lit (.bool false)], args := [d], vars := [g1] }
  | _ => none }
def FnStrictWrongFalsely : Prop := fnStrictRow.holds Tryd.pinned (OpenSpec.ofChange fnStrictWrong)

/-- 'laws.FnShort': WHATEVER THE INPUT: true; the input reads as it did. -/
def fnShortSpec : ChangeSpec := { name := "fnShort", vars := ["loop.example/peoplesnumerals/impl.letterValues"], fn := fun _ => fun
  | [d, g1] => { results := [.lit (.bool true)], args := [d], vars := [g1] }
  | _ => none }
def fnShortRow : OpenClaim := { program := "ythgagidpnnaajaadoor", sum := "ccd29deda2352ffe7c38c50ae6f836415f2f5dbb49b15e61fe8fdbb1fa2e09d1", func := "loop.example/peoplesnumerals/laws.FnShort", spec := "fnShort", unfollowed := true, recurses := true, named := ["loop.example/peoplesnumerals/impl.letterValues"], plainKeys := false, apart := false, laid := [("loop.example/peoplesnumerals/impl.letterValues", laid_loop_example_peoplesnumerals_impl_letterValues)] }
def FnShortSaid : Prop := fnShortRow.holds Tryd.pinned (OpenSpec.ofChange fnShortSpec)

/-- ITS FALSE NEIGHBOUR: 'it returns false'. Refute it at one input. -/
def fnShortWrong : ChangeSpec := { name := "fnShort", vars := ["loop.example/peoplesnumerals/impl.letterValues"], fn := fun _ => fun
  | [d, g1] => { results := [.lit (.bool false)], args := [d], vars := [g1] }
  | _ => none }
def FnShortWrongFalsely : Prop := fnShortRow.holds Tryd.pinned (OpenSpec.ofChange fnShortWrong)

/-- 'laws.FnAdd': WHATEVER THE INPUT: true; the input reads as it did. -/
def fnAddSpec : ChangeSpec := { name := "fnAdd", vars := ["loop.example/peoplesnumerals/impl.letterValues"], fn := fun _ => fun
  | [d, g1] => { results := [.lit (.bool true)], args := [d], vars := [g1] }
  | _ => none }
def fnAddRow : OpenClaim := { program := "ythgagidpnnaajaadoor", sum := "ccd29deda2352ffe7c38c50ae6f836415f2f5dbb49b15e61fe8fdbb1fa2e09d1", func := "loop.example/peoplesnumerals/laws.FnAdd", spec := "fnAdd", named := ["loop.example/peoplesnumerals/impl.letterValues"], plainKeys := false, apart := false, laid := [("loop.example/peoplesnumerals/impl.letterValues", laid_loop_example_peoplesnumerals_impl_letterValues)] }
def FnAddSaid : Prop := fnAddRow.holds Tryd.pinned (OpenSpec.ofChange fnAddSpec)

/-- ITS FALSE NEIGHBOUR: 'it returns false'. Refute it at one input. -/
def fnAddWrong : ChangeSpec := { name := "fnAdd", vars := ["loop.example/peoplesnumerals/impl.letterValues"], fn := fun _ => fun
  | [d, g1] => { results := [.lit (.bool false)], args := [d], vars := [g1] }
  | _ => none }
def FnAddWrongFalsely : Prop := fnAddRow.holds Tryd.pinned (OpenSpec.ofChange fnAddWrong)

/-- 'laws.FnPiled': WHATEVER THE INPUT: true; the input reads as it did. -/
def fnPiledSpec : ChangeSpec := { name := "fnPiled", vars := ["loop.example/peoplesnumerals/impl.letterValues"], fn := fun _ => fun
  | [d, g1] => { results := [.lit (.bool true)], args := [d], vars := [g1] }
  | _ => none }
def fnPiledRow : OpenClaim := { program := "ythgagidpnnaajaadoor", sum := "ccd29deda2352ffe7c38c50ae6f836415f2f5dbb49b15e61fe8fdbb1fa2e09d1", func := "loop.example/peoplesnumerals/laws.FnPiled", spec := "fnPiled", named := ["loop.example/peoplesnumerals/impl.letterValues"], plainKeys := false, apart := false, laid := [("loop.example/peoplesnumerals/impl.letterValues", laid_loop_example_peoplesnumerals_impl_letterValues)] }
def FnPiledSaid : Prop := fnPiledRow.holds Tryd.pinned (OpenSpec.ofChange fnPiledSpec)

/-- ITS FALSE NEIGHBOUR: 'it returns false'. Refute it at one input. -/
def fnPiledWrong : ChangeSpec := { name := "fnPiled", vars := ["loop.example/peoplesnumerals/impl.letterValues"], fn := fun _ => fun
  | [d, g1] => { results := [.lit (.bool false)], args := [d], vars := [g1] }
  | _ => none }
def FnPiledWrongFalsely : Prop := fnPiledRow.holds Tryd.pinned (OpenSpec.ofChange fnPiledWrong)

/-- 'laws.FnRomanSame': WHATEVER THE INPUT: true; the input reads as it did. -/
def fnRomanSameSpec : ChangeSpec := { name := "fnRomanSame", vars := ["loop.example/peoplesnumerals/impl.letterValues"], fn := fun _ => fun
  | [d, g1] => { results := [.lit (.bool true)], args := [d], vars := [g1] }
  | _ => none }
def fnRomanSameRow : OpenClaim := { program := "ythgagidpnnaajaadoor", sum := "ccd29deda2352ffe7c38c50ae6f836415f2f5dbb49b15e61fe8fdbb1fa2e09d1", func := "loop.example/peoplesnumerals/laws.FnRomanSame", spec := "fnRomanSame", unfollowed := true, recurses := true, named := ["loop.example/peoplesnumerals/impl.letterValues"], plainKeys := false, apart := false, laid := [("loop.example/peoplesnumerals/impl.letterValues", laid_loop_example_peoplesnumerals_impl_letterValues)] }
def FnRomanSameSaid : Prop := fnRomanSameRow.holds Tryd.pinned (OpenSpec.ofChange fnRomanSameSpec)

/-- ITS FALSE NEIGHBOUR: 'it returns false'. Refute it at one input. -/
def fnRomanSameWrong : ChangeSpec := { name := "fnRomanSame", vars := ["loop.example/peoplesnumerals/impl.letterValues"], fn := fun _ => fun
  | [d, g1] => { results := [.lit (.bool false)], args := [d], vars := [g1] }
  | _ => none }
def FnRomanSameWrongFalsely : Prop := fnRomanSameRow.holds Tryd.pinned (OpenSpec.ofChange fnRomanSameWrong)

/-- 'laws.FnExactRomanLoose': WHATEVER THE INPUT: true; the input reads as it did. -/
def fnExactRomanLooseSpec : ChangeSpec := { name := "fnExactRomanLoose", vars := ["loop.example/peoplesnumerals/impl.letterValues"], fn := fun _ => fun
  | [d, g1] => { results := [.lit (.bool true)], args := [d], vars := [g1] }
  | _ => none }
def fnExactRomanLooseRow : OpenClaim := { program := "ythgagidpnnaajaadoor", sum := "ccd29deda2352ffe7c38c50ae6f836415f2f5dbb49b15e61fe8fdbb1fa2e09d1", func := "loop.example/peoplesnumerals/laws.FnExactRomanLoose", spec := "fnExactRomanLoose", named := ["loop.example/peoplesnumerals/impl.letterValues"], plainKeys := false, apart := false, laid := [("loop.example/peoplesnumerals/impl.letterValues", laid_loop_example_peoplesnumerals_impl_letterValues)] }
def FnExactRomanLooseSaid : Prop := fnExactRomanLooseRow.holds Tryd.pinned (OpenSpec.ofChange fnExactRomanLooseSpec)

/-- ITS FALSE NEIGHBOUR: 'it returns false'. Refute it at one input. -/
def fnExactRomanLooseWrong : ChangeSpec := { name := "fnExactRomanLoose", vars := ["loop.example/peoplesnumerals/impl.letterValues"], fn := fun _ => fun
  | [d, g1] => { results := [.lit (.bool false)], args := [d], vars := [g1] }
  | _ => none }
def FnExactRomanLooseWrongFalsely : Prop := fnExactRomanLooseRow.holds Tryd.pinned (OpenSpec.ofChange fnExactRomanLooseWrong)

/-- 'laws.FnExactRomanStrict': WHATEVER THE INPUT: true; the input reads as it did. -/
def fnExactRomanStrictSpec : ChangeSpec := { name := "fnExactRomanStrict", vars := ["loop.example/peoplesnumerals/impl.letterValues"], fn := fun _ => fun
  | [d, g1] => { results := [.lit (.bool true)], args := [d], vars := [g1] }
  | _ => none }
def fnExactRomanStrictRow : OpenClaim := { program := "ythgagidpnnaajaadoor", sum := "ccd29deda2352ffe7c38c50ae6f836415f2f5dbb49b15e61fe8fdbb1fa2e09d1", func := "loop.example/peoplesnumerals/laws.FnExactRomanStrict", spec := "fnExactRomanStrict", named := ["loop.example/peoplesnumerals/impl.letterValues"], plainKeys := false, apart := false, laid := [("loop.example/peoplesnumerals/impl.letterValues", laid_loop_example_peoplesnumerals_impl_letterValues)] }
def FnExactRomanStrictSaid : Prop := fnExactRomanStrictRow.holds Tryd.pinned (OpenSpec.ofChange fnExactRomanStrictSpec)

/-- ITS FALSE NEIGHBOUR: 'it returns false'. Refute it at one input. -/
def fnExactRomanStrictWrong : ChangeSpec := { name := "fnExactRomanStrict", vars := ["loop.example/peoplesnumerals/impl.letterValues"], fn := fun _ => fun
  | [d, g1] => { results := [.lit (.bool false)], args := [d], vars := [g1] }
  | _ => none }
def FnExactRomanStrictWrongFalsely : Prop := fnExactRomanStrictRow.holds Tryd.pinned (OpenSpec.ofChange fnExactRomanStrictWrong)

/-- 'laws.FnExactRomanShort': WHATEVER THE INPUT: true; the input reads as it did. -/
def fnExactRomanShortSpec : ChangeSpec := { name := "fnExactRomanShort", vars := ["loop.example/peoplesnumerals/impl.letterValues"], fn := fun _ => fun
  | [d, g1] => { results := [.lit (.bool true)], args := [d], vars := [g1] }
  | _ => none }
def fnExactRomanShortRow : OpenClaim := { program := "ythgagidpnnaajaadoor", sum := "ccd29deda2352ffe7c38c50ae6f836415f2f5dbb49b15e61fe8fdbb1fa2e09d1", func := "loop.example/peoplesnumerals/laws.FnExactRomanShort", spec := "fnExactRomanShort", unfollowed := true, recurses := true, named := ["loop.example/peoplesnumerals/impl.letterValues"], plainKeys := false, apart := false, laid := [("loop.example/peoplesnumerals/impl.letterValues", laid_loop_example_peoplesnumerals_impl_letterValues)] }
def FnExactRomanShortSaid : Prop := fnExactRomanShortRow.holds Tryd.pinned (OpenSpec.ofChange fnExactRomanShortSpec)

/-- ITS FALSE NEIGHBOUR: 'it returns false'. Refute it at one input. -/
def fnExactRomanShortWrong : ChangeSpec := { name := "fnExactRomanShort", vars := ["loop.example/peoplesnumerals/impl.letterValues"], fn := fun _ => fun
  | [d, g1] => { results := [.lit (.bool false)], args := [d], vars := [g1] }
  | _ => none }
def FnExactRomanShortWrongFalsely : Prop := fnExactRomanShortRow.holds Tryd.pinned (OpenSpec.ofChange fnExactRomanShortWrong)

/-- 'laws.FnExactRomanAdd': WHATEVER THE INPUT: true; the input reads as it did. -/
def fnExactRomanAddSpec : ChangeSpec := { name := "fnExactRomanAdd", vars := ["loop.example/peoplesnumerals/impl.letterValues"], fn := fun _ => fun
  | [d1, d2, g1] => { results := [.lit (.bool true)], args := [d1, d2], vars := [g1] }
  | _ => none }
def fnExactRomanAddRow : OpenClaim := { program := "ythgagidpnnaajaadoor", sum := "ccd29deda2352ffe7c38c50ae6f836415f2f5dbb49b15e61fe8fdbb1fa2e09d1", func := "loop.example/peoplesnumerals/laws.FnExactRomanAdd", spec := "fnExactRomanAdd", named := ["loop.example/peoplesnumerals/impl.letterValues"], plainKeys := false, apart := false, laid := [("loop.example/peoplesnumerals/impl.letterValues", laid_loop_example_peoplesnumerals_impl_letterValues)] }
def FnExactRomanAddSaid : Prop := fnExactRomanAddRow.holds Tryd.pinned (OpenSpec.ofChange fnExactRomanAddSpec)

/-- ITS FALSE NEIGHBOUR: 'it returns false'. Refute it at one input. -/
def fnExactRomanAddWrong : ChangeSpec := { name := "fnExactRomanAdd", vars := ["loop.example/peoplesnumerals/impl.letterValues"], fn := fun _ => fun
  | [d1, d2, g1] => { results := [.lit (.bool false)], args := [d1, d2], vars := [g1] }
  | _ => none }
def FnExactRomanAddWrongFalsely : Prop := fnExactRomanAddRow.holds Tryd.pinned (OpenSpec.ofChange fnExactRomanAddWrong)

/-- 'laws.FnExactRomanSame': WHATEVER THE INPUT: true; the input reads as it did. -/
def fnExactRomanSameSpec : ChangeSpec := { name := "fnExactRomanSame", vars := ["loop.example/peoplesnumerals/impl.letterValues"], fn := fun _ => fun
  | [d1, d2, g1] => { results := [.lit (.bool true)], args := [d1, d2], vars := [g1] }
  | _ => none }
def fnExactRomanSameRow : OpenClaim := { program := "ythgagidpnnaajaadoor", sum := "ccd29deda2352ffe7c38c50ae6f836415f2f5dbb49b15e61fe8fdbb1fa2e09d1", func := "loop.example/peoplesnumerals/laws.FnExactRomanSame", spec := "fnExactRomanSame", named := ["loop.example/peoplesnumerals/impl.letterValues"], plainKeys := false, apart := false, laid := [("loop.example/peoplesnumerals/impl.letterValues", laid_loop_example_peoplesnumerals_impl_letterValues)] }
def FnExactRomanSameSaid : Prop := fnExactRomanSameRow.holds Tryd.pinned (OpenSpec.ofChange fnExactRomanSameSpec)

/-- ITS FALSE NEIGHBOUR: 'it returns false'. Refute it at one input. -/
def fnExactRomanSameWrong : ChangeSpec := { name := "fnExactRomanSame", vars := ["loop.example/peoplesnumerals/impl.letterValues"], fn := fun _ => fun
  | [d1, d2, g1] => { results := [.lit (.bool false)], args := [d1, d2], vars := [g1] }
  | _ => none }
def FnExactRomanSameWrongFalsely : Prop := fnExactRomanSameRow.holds Tryd.pinned (OpenSpec.ofChange fnExactRomanSameWrong)

/- THE SECOND FORM. 'bulk': how many values and letters a reading holds, each counted each time it is reached (what is shared counts as often as it is met; a slice's spare places count too). A statement '..UptoSaid' is the law's where the arguments, and the package variables that the reading takes, are together of bulk at most 1048576: NARROWER than '..Said'. Prove '..Said' where nothing that the law and all that it calls make is longer than what came in: it says more and counts as full. Else prove '..UptoSaid'. A law counts once. -/
mutual
def uptoBulk {H : Type} : DataW H → Nat
  | .lit (.string bytes) => bytes.length + 1
  | .lit _ => 1
  | .nil => 1
  | .ptr d => uptoBulk d + 1
  | .slice elems spare => uptoBulkAll elems + uptoBulkAll spare + 1
  | .agg parts => uptoBulkAll parts + 1
  | .iface _ d => uptoBulk d + 1
  | .map entries => uptoBulkEntries entries + 1
  | .held _ => 1
def uptoBulkAll {H : Type} : List (DataW H) → Nat
  | [] => 0
  | d :: r => uptoBulk d + uptoBulkAll r
def uptoBulkEntries {H : Type} : List (Lit × DataW H) → Nat
  | [] => 0
  | x :: r => uptoBulkEntry x + uptoBulkEntries r
def uptoBulkEntry {H : Type} : Lit × DataW H → Nat
  | (.string bytes, d) => bytes.length + uptoBulk d + 1
  | (_, d) => uptoBulk d + 1
 end
def uptoSmall : (H : Type) → List (DataW H) → Bool := fun _ ds => decide (uptoBulkAll ds ≤ 1048576)
def OpenSpec.upto (s : _root_.Go.ChangeSpec) : _root_.Go.OpenSpec := { _root_.Go.OpenSpec.ofChange s with cond := some uptoSmall }

/-- 'laws.FnRoman', WHERE WHAT IT READS IS OF BULK AT MOST 1048576: true; the input reads as it did. -/
def fnRomanUptoRow : OpenClaim := { program := "ythgagidpnnaajaadoor", sum := "ccd29deda2352ffe7c38c50ae6f836415f2f5dbb49b15e61fe8fdbb1fa2e09d1", func := "loop.example/peoplesnumerals/laws.FnRoman", spec := "fnRoman", named := ["loop.example/peoplesnumerals/impl.letterValues"], plainKeys := false, apart := false, laid := [("loop.example/peoplesnumerals/impl.letterValues", laid_loop_example_peoplesnumerals_impl_letterValues)], narrowed := true }
def FnRomanUptoSaid : Prop := fnRomanUptoRow.holds Tryd.pinned (OpenSpec.upto fnRomanSpec)

/-- 'laws.FnLoose', WHERE WHAT IT READS IS OF BULK AT MOST 1048576: true; the input reads as it did. -/
def fnLooseUptoRow : OpenClaim := { program := "ythgagidpnnaajaadoor", sum := "ccd29deda2352ffe7c38c50ae6f836415f2f5dbb49b15e61fe8fdbb1fa2e09d1", func := "loop.example/peoplesnumerals/laws.FnLoose", spec := "fnLoose", named := ["loop.example/peoplesnumerals/impl.letterValues"], plainKeys := false, apart := false, laid := [("loop.example/peoplesnumerals/impl.letterValues", laid_loop_example_peoplesnumerals_impl_letterValues)], narrowed := true }
def FnLooseUptoSaid : Prop := fnLooseUptoRow.holds Tryd.pinned (OpenSpec.upto fnLooseSpec)

/-- 'laws.FnStrict', WHERE WHAT IT READS IS OF BULK AT MOST 1048576: true; the input reads as it did. -/
def fnStrictUptoRow : OpenClaim := { program := "ythgagidpnnaajaadoor", sum := "ccd29deda2352ffe7c38c50ae6f836415f2f5dbb49b15e61fe8fdbb1fa2e09d1", func := "loop.example/peoplesnumerals/laws.FnStrict", spec := "fnStrict", named := ["loop.example/peoplesnumerals/impl.letterValues"], plainKeys := false, apart := false, laid := [("loop.example/peoplesnumerals/impl.letterValues", laid_loop_example_peoplesnumerals_impl_letterValues)], narrowed := true }
def FnStrictUptoSaid : Prop := fnStrictUptoRow.holds Tryd.pinned (OpenSpec.upto fnStrictSpec)

/-- 'laws.FnShort', WHERE WHAT IT READS IS OF BULK AT MOST 1048576: true; the input reads as it did. -/
def fnShortUptoRow : OpenClaim := { program := "ythgagidpnnaajaadoor", sum := "ccd29deda2352ffe7c38c50ae6f836415f2f5dbb49b15e61fe8fdbb1fa2e09d1", func := "loop.example/peoplesnumerals/laws.FnShort", spec := "fnShort", unfollowed := true, recurses := true, named := ["loop.example/peoplesnumerals/impl.letterValues"], plainKeys := false, apart := false, laid := [("loop.example/peoplesnumerals/impl.letterValues", laid_loop_example_peoplesnumerals_impl_letterValues)], narrowed := true }
def FnShortUptoSaid : Prop := fnShortUptoRow.holds Tryd.pinned (OpenSpec.upto fnShortSpec)

/-- 'laws.FnAdd', WHERE WHAT IT READS IS OF BULK AT MOST 1048576: true; the input reads as it did. -/
def fnAddUptoRow : OpenClaim := { program := "ythgagidpnnaajaadoor", sum := "ccd29deda2352ffe7c38c50ae6f836415f2f5dbb49b15e61fe8fdbb1fa2e09d1", func := "loop.example/peoplesnumerals/laws.FnAdd", spec := "fnAdd", named := ["loop.example/peoplesnumerals/impl.letterValues"], plainKeys := false, apart := false, laid := [("loop.example/peoplesnumerals/impl.letterValues", laid_loop_example_peoplesnumerals_impl_letterValues)], narrowed := true }
def FnAddUptoSaid : Prop := fnAddUptoRow.holds Tryd.pinned (OpenSpec.upto fnAddSpec)

/-- 'laws.FnPiled', WHERE WHAT IT READS IS OF BULK AT MOST 1048576: true; the input reads as it did. -/
def fnPiledUptoRow : OpenClaim := { program := "ythgagidpnnaajaadoor", sum := "ccd29deda2352ffe7c38c50ae6f836415f2f5dbb49b15e61fe8fdbb1fa2e09d1", func := "loop.example/peoplesnumerals/laws.FnPiled", spec := "fnPiled", named := ["loop.example/peoplesnumerals/impl.letterValues"], plainKeys := false, apart := false, laid := [("loop.example/peoplesnumerals/impl.letterValues", laid_loop_example_peoplesnumerals_impl_letterValues)], narrowed := true }
def FnPiledUptoSaid : Prop := fnPiledUptoRow.holds Tryd.pinned (OpenSpec.upto fnPiledSpec)

/-- 'laws.FnRomanSame', WHERE WHAT IT READS IS OF BULK AT MOST 1048576: true; the input reads as it did. -/
def fnRomanSameUptoRow : OpenClaim := { program := "ythgagidpnnaajaadoor", sum := "ccd29deda2352ffe7c38c50ae6f836415f2f5dbb49b15e61fe8fdbb1fa2e09d1", func := "loop.example/peoplesnumerals/laws.FnRomanSame", spec := "fnRomanSame", unfollowed := true, recurses := true, named := ["loop.example/peoplesnumerals/impl.letterValues"], plainKeys := false, apart := false, laid := [("loop.example/peoplesnumerals/impl.letterValues", laid_loop_example_peoplesnumerals_impl_letterValues)], narrowed := true }
def FnRomanSameUptoSaid : Prop := fnRomanSameUptoRow.holds Tryd.pinned (OpenSpec.upto fnRomanSameSpec)

/-- 'laws.FnExactRomanLoose', WHERE WHAT IT READS IS OF BULK AT MOST 1048576: true; the input reads as it did. -/
def fnExactRomanLooseUptoRow : OpenClaim := { program := "ythgagidpnnaajaadoor", sum := "ccd29deda2352ffe7c38c50ae6f836415f2f5dbb49b15e61fe8fdbb1fa2e09d1", func := "loop.example/peoplesnumerals/laws.FnExactRomanLoose", spec := "fnExactRomanLoose", named := ["loop.example/peoplesnumerals/impl.letterValues"], plainKeys := false, apart := false, laid := [("loop.example/peoplesnumerals/impl.letterValues", laid_loop_example_peoplesnumerals_impl_letterValues)], narrowed := true }
def FnExactRomanLooseUptoSaid : Prop := fnExactRomanLooseUptoRow.holds Tryd.pinned (OpenSpec.upto fnExactRomanLooseSpec)

/-- 'laws.FnExactRomanStrict', WHERE WHAT IT READS IS OF BULK AT MOST 1048576: true; the input reads as it did. -/
def fnExactRomanStrictUptoRow : OpenClaim := { program := "ythgagidpnnaajaadoor", sum := "ccd29deda2352ffe7c38c50ae6f836415f2f5dbb49b15e61fe8fdbb1fa2e09d1", func := "loop.example/peoplesnumerals/laws.FnExactRomanStrict", spec := "fnExactRomanStrict", named := ["loop.example/peoplesnumerals/impl.letterValues"], plainKeys := false, apart := false, laid := [("loop.example/peoplesnumerals/impl.letterValues", laid_loop_example_peoplesnumerals_impl_letterValues)], narrowed := true }
def FnExactRomanStrictUptoSaid : Prop := fnExactRomanStrictUptoRow.holds Tryd.pinned (OpenSpec.upto fnExactRomanStrictSpec)

/-- 'laws.FnExactRomanShort', WHERE WHAT IT READS IS OF BULK AT MOST 1048576: true; the input reads as it did. -/
def fnExactRomanShortUptoRow : OpenClaim := { program := "ythgagidpnnaajaadoor", sum := "ccd29deda2352ffe7c38c50ae6f836415f2f5dbb49b15e61fe8fdbb1fa2e09d1", func := "loop.example/peoplesnumerals/laws.FnExactRomanShort", spec := "fnExactRomanShort", unfollowed := true, recurses := true, named := ["loop.example/peoplesnumerals/impl.letterValues"], plainKeys := false, apart := false, laid := [("loop.example/peoplesnumerals/impl.letterValues", laid_loop_example_peoplesnumerals_impl_letterValues)], narrowed := true }
def FnExactRomanShortUptoSaid : Prop := fnExactRomanShortUptoRow.holds Tryd.pinned (OpenSpec.upto fnExactRomanShortSpec)

/-- 'laws.FnExactRomanAdd', WHERE WHAT IT READS IS OF BULK AT MOST 1048576: true; the input reads as it did. -/
def fnExactRomanAddUptoRow : OpenClaim := { program := "ythgagidpnnaajaadoor", sum := "ccd29deda2352ffe7c38c50ae6f836415f2f5dbb49b15e61fe8fdbb1fa2e09d1", func := "loop.example/peoplesnumerals/laws.FnExactRomanAdd", spec := "fnExactRomanAdd", named := ["loop.example/peoplesnumerals/impl.letterValues"], plainKeys := false, apart := false, laid := [("loop.example/peoplesnumerals/impl.letterValues", laid_loop_example_peoplesnumerals_impl_letterValues)], narrowed := true }
def FnExactRomanAddUptoSaid : Prop := fnExactRomanAddUptoRow.holds Tryd.pinned (OpenSpec.upto fnExactRomanAddSpec)

/-- 'laws.FnExactRomanSame', WHERE WHAT IT READS IS OF BULK AT MOST 1048576: true; the input reads as it did. -/
def fnExactRomanSameUptoRow : OpenClaim := { program := "ythgagidpnnaajaadoor", sum := "ccd29deda2352ffe7c38c50ae6f836415f2f5dbb49b15e61fe8fdbb1fa2e09d1", func := "loop.example/peoplesnumerals/laws.FnExactRomanSame", spec := "fnExactRomanSame", named := ["loop.example/peoplesnumerals/impl.letterValues"], plainKeys := false, apart := false, laid := [("loop.example/peoplesnumerals/impl.letterValues", laid_loop_example_peoplesnumerals_impl_letterValues)], narrowed := true }
def FnExactRomanSameUptoSaid : Prop := fnExactRomanSameUptoRow.holds Tryd.pinned (OpenSpec.upto fnExactRomanSameSpec)

end Rows
end Go.Proofs.YthgagidpnnaajaaDoor
