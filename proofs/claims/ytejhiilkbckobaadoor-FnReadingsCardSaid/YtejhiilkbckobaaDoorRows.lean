/-
  NARROWER THAN 'FOR EVERY INPUT', by the rows' own cells (each row's printed sentence says how): FnClay: laid · FnClayRead: laid · FnExactPlaceRead: laid · FnExactPlaceReadings: laid · FnReadings: laid.
  DERIVED. THE GIVEN ROWS OF THIS SEAT. 5 by the template 'for every input the law returns true; each argument reads behind the call as it read before'; 0 by the template 'total and deterministic' (their statements: YtejhiilkbckobaaDoorTotals.lean).
  GIVEN WITH THE SEED: the statements are not yours to turn. If you find one false, say at which input.
  Laid BY PROGRAM, IN A SANDBOX (cutbox-rows.mjs): the forced cells as the released guide's own fill.sh prints them over the translation 7bdabe06f3c9f969… (all of the seat's roots in one cut). By AI agents, Wed Nov 11 2026. No macro, syntax, notation, axiom, sorry.
-/
import Derived.Test.YtejhiilkbckobaaDoorChecked
import GoSem.PinnedTables
import GoSem.Claim
import GoSem.ClaimJoined
import GoSem.ClaimMapViews
import Derived.JoinedTies
import Derived.KernelRfl
namespace Go.Proofs.YtejhiilkbckobaaDoor
/- THE CELL 'sum', in the pinned program and in every row, IS THE sha256 OF THE DUMP (.gsa) THAT YtejhiilkbckobaaDoorProg.lean LOADS. Nothing in Lean hashes anything: it is a label: what it is worth is what the hold of that sum in a sandbox is worth. -/
noncomputable def Tryd.pinned : Pinned := { name := "ytejhiilkbckobaadoor", sum := "7bdabe06f3c9f96957e63d4a3741f5045bf34c378547c0a1849440144f41e90e", checked := Tryd.checked }
namespace Rows
def none {H : Type} : Left H := { results := [], args := [] }

/- WHAT THE LISTED PACKAGE-LEVEL VARIABLES READ AS WHEN THE CALL BEGINS. Each datum BY PROGRAM (the guide's laid-datum.mjs) off the statement by which the dump's own 'gosem.cut.vars' lays the variable. In a bare row this is a premise. The card (YtejhiilkbckobaaDoorCards.lean) ties it to the program's text. -/
def laid_unicode_utf8_acceptRanges {H : Type} : DataW H := .agg [.agg [.lit (.int .u8 128), .lit (.int .u8 191)], .agg [.lit (.int .u8 160), .lit (.int .u8 191)], .agg [.lit (.int .u8 128), .lit (.int .u8 159)], .agg [.lit (.int .u8 144), .lit (.int .u8 191)], .agg [.lit (.int .u8 128), .lit (.int .u8 143)], .agg [.lit (.int .u8 0), .lit (.int .u8 0)], .agg [.lit (.int .u8 0), .lit (.int .u8 0)], .agg [.lit (.int .u8 0), .lit (.int .u8 0)], .agg [.lit (.int .u8 0), .lit (.int .u8 0)], .agg [.lit (.int .u8 0), .lit (.int .u8 0)], .agg [.lit (.int .u8 0), .lit (.int .u8 0)], .agg [.lit (.int .u8 0), .lit (.int .u8 0)], .agg [.lit (.int .u8 0), .lit (.int .u8 0)], .agg [.lit (.int .u8 0), .lit (.int .u8 0)], .agg [.lit (.int .u8 0), .lit (.int .u8 0)], .agg [.lit (.int .u8 0), .lit (.int .u8 0)]]
/-- One of Go's own tables, pinned by name: the form's constant. -/
def laid_unicode_utf8_first : DataW Unit := Go.Pinned.utf8First

/-- 'laws.FnClay': WHATEVER THE INPUT: true; the input reads as it did. -/
def fnClaySpec : ChangeSpec := { name := "fnClay", fn := fun _ => fun
  | [d] => { results := [.lit (.bool true)], args := [d] }
  | _ => none }
def fnClayRow : OpenClaim := { program := "ytejhiilkbckobaadoor", sum := "7bdabe06f3c9f96957e63d4a3741f5045bf34c378547c0a1849440144f41e90e", func := "loop.example/peoplesnumerals/laws.FnClay", spec := "fnClay", inPlace := ["internal/abi.NoEscape", "internal/bytealg.MakeNoZero", "internal/bytealg.CountString", "internal/bytealg.IndexByteString", "internal/bytealg.IndexString"], recurses := true, named := ["unicode/utf8.first", "unicode/utf8.acceptRanges", "internal/bytealg.MaxLen"], apart := false, laid := [("unicode/utf8.acceptRanges", laid_unicode_utf8_acceptRanges), ("unicode/utf8.first", laid_unicode_utf8_first)] }
def FnClaySaid : Prop := fnClayRow.holds Tryd.pinned (OpenSpec.ofChange fnClaySpec)

/-- ITS FALSE NEIGHBOUR: 'it returns false'. Refute it at one input. -/
def fnClayWrong : ChangeSpec := { name := "fnClay", fn := fun _ => fun
  | [d] => { results := [.lit (.bool false)], args := [d] }
  | _ => none }
def FnClayWrongFalsely : Prop := fnClayRow.holds Tryd.pinned (OpenSpec.ofChange fnClayWrong)

/-- 'laws.FnClayRead': WHATEVER THE INPUT: true; the input reads as it did. -/
def fnClayReadSpec : ChangeSpec := { name := "fnClayRead", fn := fun _ => fun
  | [d] => { results := [.lit (.bool true)], args := [d] }
  | _ => none }
def fnClayReadRow : OpenClaim := { program := "ytejhiilkbckobaadoor", sum := "7bdabe06f3c9f96957e63d4a3741f5045bf34c378547c0a1849440144f41e90e", func := "loop.example/peoplesnumerals/laws.FnClayRead", spec := "fnClayRead", inPlace := ["internal/bytealg.CountString", "internal/bytealg.IndexByteString", "internal/bytealg.IndexString", "internal/abi.NoEscape", "internal/bytealg.MakeNoZero"], recurses := true, named := ["unicode/utf8.first", "unicode/utf8.acceptRanges", "internal/bytealg.MaxLen"], apart := false, laid := [("unicode/utf8.acceptRanges", laid_unicode_utf8_acceptRanges), ("unicode/utf8.first", laid_unicode_utf8_first)] }
def FnClayReadSaid : Prop := fnClayReadRow.holds Tryd.pinned (OpenSpec.ofChange fnClayReadSpec)

/-- ITS FALSE NEIGHBOUR: 'it returns false'. Refute it at one input. -/
def fnClayReadWrong : ChangeSpec := { name := "fnClayRead", fn := fun _ => fun
  | [d] => { results := [.lit (.bool false)], args := [d] }
  | _ => none }
def FnClayReadWrongFalsely : Prop := fnClayReadRow.holds Tryd.pinned (OpenSpec.ofChange fnClayReadWrong)

/-- 'laws.FnExactPlaceRead': WHATEVER THE INPUT: true; the input reads as it did. -/
def fnExactPlaceReadSpec : ChangeSpec := { name := "fnExactPlaceRead", fn := fun _ => fun
  | [d] => { results := [.lit (.bool true)], args := [d] }
  | _ => none }
def fnExactPlaceReadRow : OpenClaim := { program := "ytejhiilkbckobaadoor", sum := "7bdabe06f3c9f96957e63d4a3741f5045bf34c378547c0a1849440144f41e90e", func := "loop.example/peoplesnumerals/laws.FnExactPlaceRead", spec := "fnExactPlaceRead", inPlace := ["internal/bytealg.CountString", "internal/bytealg.IndexByteString", "internal/bytealg.IndexString", "internal/abi.NoEscape", "internal/bytealg.MakeNoZero"], recurses := true, named := ["unicode/utf8.first", "unicode/utf8.acceptRanges", "internal/bytealg.MaxLen"], apart := false, laid := [("unicode/utf8.acceptRanges", laid_unicode_utf8_acceptRanges), ("unicode/utf8.first", laid_unicode_utf8_first)] }
def FnExactPlaceReadSaid : Prop := fnExactPlaceReadRow.holds Tryd.pinned (OpenSpec.ofChange fnExactPlaceReadSpec)

/-- ITS FALSE NEIGHBOUR: 'it returns false'. Refute it at one input. -/
def fnExactPlaceReadWrong : ChangeSpec := { name := "fnExactPlaceRead", fn := fun _ => fun
  | [d] => { results := [.lit (.bool false)], args := [d] }
  | _ => none }
def FnExactPlaceReadWrongFalsely : Prop := fnExactPlaceReadRow.holds Tryd.pinned (OpenSpec.ofChange fnExactPlaceReadWrong)

/-- 'laws.FnExactPlaceReadings': WHATEVER THE INPUT: true; the input reads as it did. -/
def fnExactPlaceReadingsSpec : ChangeSpec := { name := "fnExactPlaceReadings", fn := fun _ => fun
  | [d] => { results := [.lit (.bool true)], args := [d] }
  | _ => none }
def fnExactPlaceReadingsRow : OpenClaim := { program := "ytejhiilkbckobaadoor", sum := "7bdabe06f3c9f96957e63d4a3741f5045bf34c378547c0a1849440144f41e90e", func := "loop.example/peoplesnumerals/laws.FnExactPlaceReadings", spec := "fnExactPlaceReadings", inPlace := ["internal/bytealg.IndexByteString", "internal/bytealg.IndexString", "internal/abi.NoEscape", "internal/bytealg.MakeNoZero"], unfollowed := true, recurses := true, named := ["unicode/utf8.first", "unicode/utf8.acceptRanges", "internal/bytealg.MaxLen"], apart := false, laid := [("unicode/utf8.acceptRanges", laid_unicode_utf8_acceptRanges), ("unicode/utf8.first", laid_unicode_utf8_first)] }
def FnExactPlaceReadingsSaid : Prop := fnExactPlaceReadingsRow.holds Tryd.pinned (OpenSpec.ofChange fnExactPlaceReadingsSpec)

/-- ITS FALSE NEIGHBOUR: 'it returns false'. Refute it at one input. -/
def fnExactPlaceReadingsWrong : ChangeSpec := { name := "fnExactPlaceReadings", fn := fun _ => fun
  | [d] => { results := [.lit (.bool false)], args := [d] }
  | _ => none }
def FnExactPlaceReadingsWrongFalsely : Prop := fnExactPlaceReadingsRow.holds Tryd.pinned (OpenSpec.ofChange fnExactPlaceReadingsWrong)

/-- 'laws.FnReadings': WHATEVER THE INPUT: true; the input reads as it did. -/
def fnReadingsSpec : ChangeSpec := { name := "fnReadings", fn := fun _ => fun
  | [d] => { results := [.lit (.bool true)], args := [d] }
  | _ => none }
def fnReadingsRow : OpenClaim := { program := "ytejhiilkbckobaadoor", sum := "7bdabe06f3c9f96957e63d4a3741f5045bf34c378547c0a1849440144f41e90e", func := "loop.example/peoplesnumerals/laws.FnReadings", spec := "fnReadings", inPlace := ["internal/bytealg.IndexByteString", "internal/bytealg.IndexString", "internal/abi.NoEscape", "internal/bytealg.MakeNoZero"], unfollowed := true, recurses := true, named := ["unicode/utf8.first", "unicode/utf8.acceptRanges", "internal/bytealg.MaxLen"], apart := false, laid := [("unicode/utf8.acceptRanges", laid_unicode_utf8_acceptRanges), ("unicode/utf8.first", laid_unicode_utf8_first)] }
def FnReadingsSaid : Prop := fnReadingsRow.holds Tryd.pinned (OpenSpec.ofChange fnReadingsSpec)

/-- ITS FALSE NEIGHBOUR: 'it returns false'. Refute it at one input. -/
def fnReadingsWrong : ChangeSpec := { name := "fnReadings", fn := fun _ => fun
  | [d] => { results := [.lit (.bool false)], args := [d] }
  | _ => none }
def FnReadingsWrongFalsely : Prop := fnReadingsRow.holds Tryd.pinned (OpenSpec.ofChange fnReadingsWrong)

/- THE SECOND FORM. 'bulk': how many values and letters a reading holds, each counted each time it is reached (what is shared counts as often as it is met; a slice's spare places count too). A statement '..UptoSaid' is the law's where the arguments, and the package variables that the reading takes, are together of bulk at most 1048576: NARROWER than '..Said'. Prove '..Said' where nothing that the law and all that it calls make is longer than what came in: it says more and counts as full. Else prove '..UptoSaid'. A law counts once. -/
mutual
def uptoBulk {H : Type} : DataW H → Nat
  | .lit (.string bytes) => bytes.length + 1
  | .lit _ => 1
  | .nil => 1
  | .ptr d => uptoBulk d + 1
  | .slice elems spare => uptoBulkAll elems + uptoBulkAll spare + 1
  | .agg parts => uptoBulkAll parts + 1
  | .iface _ d => uptoBulk d + 1
  | .map entries => uptoBulkEntries entries + 1
  | .held _ => 1
def uptoBulkAll {H : Type} : List (DataW H) → Nat
  | [] => 0
  | d :: r => uptoBulk d + uptoBulkAll r
def uptoBulkEntries {H : Type} : List (Lit × DataW H) → Nat
  | [] => 0
  | x :: r => uptoBulkEntry x + uptoBulkEntries r
def uptoBulkEntry {H : Type} : Lit × DataW H → Nat
  | (.string bytes, d) => bytes.length + uptoBulk d + 1
  | (_, d) => uptoBulk d + 1
 end
def uptoSmall : (H : Type) → List (DataW H) → Bool := fun _ ds => decide (uptoBulkAll ds ≤ 1048576)
def OpenSpec.upto (s : _root_.Go.ChangeSpec) : _root_.Go.OpenSpec := { _root_.Go.OpenSpec.ofChange s with cond := some uptoSmall }

/-- 'laws.FnClay', WHERE WHAT IT READS IS OF BULK AT MOST 1048576: true; the input reads as it did. -/
def fnClayUptoRow : OpenClaim := { program := "ytejhiilkbckobaadoor", sum := "7bdabe06f3c9f96957e63d4a3741f5045bf34c378547c0a1849440144f41e90e", func := "loop.example/peoplesnumerals/laws.FnClay", spec := "fnClay", inPlace := ["internal/abi.NoEscape", "internal/bytealg.MakeNoZero", "internal/bytealg.CountString", "internal/bytealg.IndexByteString", "internal/bytealg.IndexString"], recurses := true, named := ["unicode/utf8.first", "unicode/utf8.acceptRanges", "internal/bytealg.MaxLen"], apart := false, laid := [("unicode/utf8.acceptRanges", laid_unicode_utf8_acceptRanges), ("unicode/utf8.first", laid_unicode_utf8_first)], narrowed := true }
def FnClayUptoSaid : Prop := fnClayUptoRow.holds Tryd.pinned (OpenSpec.upto fnClaySpec)

/-- 'laws.FnClayRead', WHERE WHAT IT READS IS OF BULK AT MOST 1048576: true; the input reads as it did. -/
def fnClayReadUptoRow : OpenClaim := { program := "ytejhiilkbckobaadoor", sum := "7bdabe06f3c9f96957e63d4a3741f5045bf34c378547c0a1849440144f41e90e", func := "loop.example/peoplesnumerals/laws.FnClayRead", spec := "fnClayRead", inPlace := ["internal/bytealg.CountString", "internal/bytealg.IndexByteString", "internal/bytealg.IndexString", "internal/abi.NoEscape", "internal/bytealg.MakeNoZero"], recurses := true, named := ["unicode/utf8.first", "unicode/utf8.acceptRanges", "internal/bytealg.MaxLen"], apart := false, laid := [("unicode/utf8.acceptRanges", laid_unicode_utf8_acceptRanges), ("unicode/utf8.first", laid_unicode_utf8_first)], narrowed := true }
def FnClayReadUptoSaid : Prop := fnClayReadUptoRow.holds Tryd.pinned (OpenSpec.upto fnClayReadSpec)

/-- 'laws.FnExactPlaceRead', WHERE WHAT IT READS IS OF BULK AT MOST 1048576: true; the input reads as it did. -/
def fnExactPlaceReadUptoRow : OpenClaim := { program := "ytejhiilkbckobaadoor", sum := "7bdabe06f3c9f96957e63d4a3741f5045bf34c378547c0a1849440144f41e90e", func := "loop.example/peoplesnumerals/laws.FnExactPlaceRead", spec := "fnExactPlaceRead", inPlace := ["internal/bytealg.CountString", "internal/bytealg.IndexByteString", "internal/bytealg.IndexString", "internal/abi.NoEscape", "internal/bytealg.MakeNoZero"], recurses := true, named := ["unicode/utf8.first", "unicode/utf8.acceptRanges", "internal/bytealg.MaxLen"], apart := false, laid := [("unicode/utf8.acceptRanges", laid_unicode_utf8_acceptRanges), ("unicode/utf8.first", laid_unicode_utf8_first)], narrowed := true }
def FnExactPlaceReadUptoSaid : Prop := fnExactPlaceReadUptoRow.holds Tryd.pinned (OpenSpec.upto fnExactPlaceReadSpec)

/-- 'laws.FnExactPlaceReadings', WHERE WHAT IT READS IS OF BULK AT MOST 1048576: true; the input reads as it did. -/
def fnExactPlaceReadingsUptoRow : OpenClaim := { program := "ytejhiilkbckobaadoor", sum := "7bdabe06f3c9f96957e63d4a3741f5045bf34c378547c0a1849440144f41e90e", func := "loop.example/peoplesnumerals/laws.FnExactPlaceReadings", spec := "fnExactPlaceReadings", inPlace := ["internal/bytealg.IndexByteString", "internal/bytealg.IndexString", "internal/abi.NoEscape", "internal/bytealg.MakeNoZero"], unfollowed := true, recurses := true, named := ["unicode/utf8.first", "unicode/utf8.acceptRanges", "internal/bytealg.MaxLen"], apart := false, laid := [("unicode/utf8.acceptRanges", laid_unicode_utf8_acceptRanges), ("unicode/utf8.first", laid_unicode_utf8_first)], narrowed := true }
def FnExactPlaceReadingsUptoSaid : Prop := fnExactPlaceReadingsUptoRow.holds Tryd.pinned (OpenSpec.upto fnExactPlaceReadingsSpec)

/-- 'laws.FnReadings', WHERE WHAT IT READS IS OF BULK AT MOST 1048576: true; the input reads as it did. -/
def fnReadingsUptoRow : OpenClaim := { program := "ytejhiilkbckobaadoor", sum := "7bdabe06f3c9f96957e63d4a3741f5045bf34c378547c0a1849440144f41e90e", func := "loop.example/peoplesnumerals/laws.FnReadings", spec := "fnReadings", inPlace := ["internal/bytealg.IndexByteString", "internal/bytealg.IndexString", "internal/abi.NoEscape", "internal/bytealg.MakeNoZero"], unfollowed := true, recurses := true, named := ["unicode/utf8.first", "unicode/utf8.acceptRanges", "internal/bytealg.MaxLen"], apart := false, laid := [("unicode/utf8.acceptRanges", laid_unicode_utf8_acceptRanges), ("unicode/utf8.first", laid_unicode_utf8_first)], narrowed := true }
def FnReadingsUptoSaid : Prop := fnReadingsUptoRow.holds Tryd.pinned (OpenSpec.upto fnReadingsSpec)

end Rows
end Go.Proofs.YtejhiilkbckobaaDoor
