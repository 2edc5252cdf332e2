/-
  No cell of these rows narrows 'for every input' (looked for: loops, veiled, ifaces, maps, wideKeys, modest, calm, conditions, laid).
  DERIVED. THE GIVEN ROWS OF THIS SEAT. 9 by the template 'for every input the law returns true; each argument reads behind the call as it read before'; 0 by the template 'total and deterministic' (their statements: YtejhiilkbckobaaTotals.lean).
  GIVEN WITH THE SEED: the statements are not yours to turn. If you find one false, say at which input.
  Laid BY PROGRAM, IN A SANDBOX (cutbox-rows.mjs): the forced cells as the released guide's own fill.sh prints them over the translation d33fc6a9bf781c47… (all of the seat's roots in one cut). By AI agents, Wed Nov 11 2026. No macro, syntax, notation, axiom, sorry.
-/
import Derived.Test.YtejhiilkbckobaaChecked
import GoSem.Claim
import GoSem.ClaimJoined
import GoSem.ClaimMapViews
import Derived.JoinedTies
import Derived.KernelRfl
namespace Go.Proofs.Ytejhiilkbckobaa
/- THE CELL 'sum', in the pinned program and in every row, IS THE sha256 OF THE DUMP (.gsa) THAT YtejhiilkbckobaaProg.lean LOADS. Nothing in Lean hashes anything: it is a label: what it is worth is what the hold of that sum in a sandbox is worth. -/
noncomputable def Try.pinned : Pinned := { name := "ytejhiilkbckobaa", sum := "d33fc6a9bf781c47c8aaaf5f71fa42f293234519b1e5871479c5bef2d9f08a0b", checked := Try.checked }
namespace Rows
def none {H : Type} : Left H := { results := [], args := [] }

/-- 'laws.FnDays': WHATEVER THE INPUT: true; the input reads as it did. -/
def fnDaysSpec : ChangeSpec := { name := "fnDays", fn := fun _ => fun
  | [d] => { results := [.lit (.bool true)], args := [d] }
  | _ => none }
def fnDaysRow : OpenClaim := { program := "ytejhiilkbckobaa", sum := "d33fc6a9bf781c47c8aaaf5f71fa42f293234519b1e5871479c5bef2d9f08a0b", func := "loop.example/peoplesnumerals/laws.FnDays", spec := "fnDays", apart := false }
def FnDaysSaid : Prop := fnDaysRow.holds Try.pinned (OpenSpec.ofChange fnDaysSpec)

/-- ITS FALSE NEIGHBOUR: 'it returns false'. Refute it at one input. -/
def fnDaysWrong : ChangeSpec := { name := "fnDays", fn := fun _ => fun
  | [d] => { results := [.lit (.bool false)], args := [d] }
  | _ => none }
def FnDaysWrongFalsely : Prop := fnDaysRow.holds Try.pinned (OpenSpec.ofChange fnDaysWrong)

/-- 'laws.FnDigits': WHATEVER THE INPUT: true; the input reads as it did. -/
def fnDigitsSpec : ChangeSpec := { name := "fnDigits", fn := fun _ => fun
  | [d] => { results := [.lit (.bool true)], args := [d] }
  | _ => none }
def fnDigitsRow : OpenClaim := { program := "ytejhiilkbckobaa", sum := "d33fc6a9bf781c47c8aaaf5f71fa42f293234519b1e5871479c5bef2d9f08a0b", func := "loop.example/peoplesnumerals/laws.FnDigits", spec := "fnDigits", apart := false }
def FnDigitsSaid : Prop := fnDigitsRow.holds Try.pinned (OpenSpec.ofChange fnDigitsSpec)

/-- ITS FALSE NEIGHBOUR: 'it returns false'. Refute it at one input. -/
def fnDigitsWrong : ChangeSpec := { name := "fnDigits", fn := fun _ => fun
  | [d] => { results := [.lit (.bool false)], args := [d] }
  | _ => none }
def FnDigitsWrongFalsely : Prop := fnDigitsRow.holds Try.pinned (OpenSpec.ofChange fnDigitsWrong)

/-- 'laws.FnExactPlaceDays': WHATEVER THE INPUT: true; the input reads as it did. -/
def fnExactPlaceDaysSpec : ChangeSpec := { name := "fnExactPlaceDays", fn := fun _ => fun
  | [d] => { results := [.lit (.bool true)], args := [d] }
  | _ => none }
def fnExactPlaceDaysRow : OpenClaim := { program := "ytejhiilkbckobaa", sum := "d33fc6a9bf781c47c8aaaf5f71fa42f293234519b1e5871479c5bef2d9f08a0b", func := "loop.example/peoplesnumerals/laws.FnExactPlaceDays", spec := "fnExactPlaceDays", apart := false }
def FnExactPlaceDaysSaid : Prop := fnExactPlaceDaysRow.holds Try.pinned (OpenSpec.ofChange fnExactPlaceDaysSpec)

/-- ITS FALSE NEIGHBOUR: 'it returns false'. Refute it at one input. -/
def fnExactPlaceDaysWrong : ChangeSpec := { name := "fnExactPlaceDays", fn := fun _ => fun
  | [d] => { results := [.lit (.bool false)], args := [d] }
  | _ => none }
def FnExactPlaceDaysWrongFalsely : Prop := fnExactPlaceDaysRow.holds Try.pinned (OpenSpec.ofChange fnExactPlaceDaysWrong)

/-- 'laws.FnExactPlaceDigits': WHATEVER THE INPUT: true; the input reads as it did. -/
def fnExactPlaceDigitsSpec : ChangeSpec := { name := "fnExactPlaceDigits", fn := fun _ => fun
  | [d1, d2] => { results := [.lit (.bool true)], args := [d1, d2] }
  | _ => none }
def fnExactPlaceDigitsRow : OpenClaim := { program := "ytejhiilkbckobaa", sum := "d33fc6a9bf781c47c8aaaf5f71fa42f293234519b1e5871479c5bef2d9f08a0b", func := "loop.example/peoplesnumerals/laws.FnExactPlaceDigits", spec := "fnExactPlaceDigits", apart := false }
def FnExactPlaceDigitsSaid : Prop := fnExactPlaceDigitsRow.holds Try.pinned (OpenSpec.ofChange fnExactPlaceDigitsSpec)

/-- ITS FALSE NEIGHBOUR: 'it returns false'. Refute it at one input. -/
def fnExactPlaceDigitsWrong : ChangeSpec := { name := "fnExactPlaceDigits", fn := fun _ => fun
  | [d1, d2] => { results := [.lit (.bool false)], args := [d1, d2] }
  | _ => none }
def FnExactPlaceDigitsWrongFalsely : Prop := fnExactPlaceDigitsRow.holds Try.pinned (OpenSpec.ofChange fnExactPlaceDigitsWrong)

/-- 'laws.FnExactPlaceFrom': WHATEVER THE INPUT: true; the input reads as it did. -/
def fnExactPlaceFromSpec : ChangeSpec := { name := "fnExactPlaceFrom", fn := fun _ => fun
  | [d] => { results := [.lit (.bool true)], args := [d] }
  | _ => none }
def fnExactPlaceFromRow : OpenClaim := { program := "ytejhiilkbckobaa", sum := "d33fc6a9bf781c47c8aaaf5f71fa42f293234519b1e5871479c5bef2d9f08a0b", func := "loop.example/peoplesnumerals/laws.FnExactPlaceFrom", spec := "fnExactPlaceFrom", apart := false }
def FnExactPlaceFromSaid : Prop := fnExactPlaceFromRow.holds Try.pinned (OpenSpec.ofChange fnExactPlaceFromSpec)

/-- ITS FALSE NEIGHBOUR: 'it returns false'. Refute it at one input. -/
def fnExactPlaceFromWrong : ChangeSpec := { name := "fnExactPlaceFrom", fn := fun _ => fun
  | [d] => { results := [.lit (.bool false)], args := [d] }
  | _ => none }
def FnExactPlaceFromWrongFalsely : Prop := fnExactPlaceFromRow.holds Try.pinned (OpenSpec.ofChange fnExactPlaceFromWrong)

/-- 'laws.FnExactPlaceNumber': WHATEVER THE INPUT: true; the input reads as it did. -/
def fnExactPlaceNumberSpec : ChangeSpec := { name := "fnExactPlaceNumber", fn := fun _ => fun
  | [d1, d2] => { results := [.lit (.bool true)], args := [d1, d2] }
  | _ => none }
def fnExactPlaceNumberRow : OpenClaim := { program := "ytejhiilkbckobaa", sum := "d33fc6a9bf781c47c8aaaf5f71fa42f293234519b1e5871479c5bef2d9f08a0b", func := "loop.example/peoplesnumerals/laws.FnExactPlaceNumber", spec := "fnExactPlaceNumber", apart := false }
def FnExactPlaceNumberSaid : Prop := fnExactPlaceNumberRow.holds Try.pinned (OpenSpec.ofChange fnExactPlaceNumberSpec)

/-- ITS FALSE NEIGHBOUR: 'it returns false'. Refute it at one input. -/
def fnExactPlaceNumberWrong : ChangeSpec := { name := "fnExactPlaceNumber", fn := fun _ => fun
  | [d1, d2] => { results := [.lit (.bool false)], args := [d1, d2] }
  | _ => none }
def FnExactPlaceNumberWrongFalsely : Prop := fnExactPlaceNumberRow.holds Try.pinned (OpenSpec.ofChange fnExactPlaceNumberWrong)

/-- 'laws.FnExactPlaceOf': WHATEVER THE INPUT: true; the input reads as it did. -/
def fnExactPlaceOfSpec : ChangeSpec := { name := "fnExactPlaceOf", fn := fun _ => fun
  | [d] => { results := [.lit (.bool true)], args := [d] }
  | _ => none }
def fnExactPlaceOfRow : OpenClaim := { program := "ytejhiilkbckobaa", sum := "d33fc6a9bf781c47c8aaaf5f71fa42f293234519b1e5871479c5bef2d9f08a0b", func := "loop.example/peoplesnumerals/laws.FnExactPlaceOf", spec := "fnExactPlaceOf", inPlace := ["internal/abi.NoEscape", "internal/bytealg.MakeNoZero"], recurses := true, apart := false }
def FnExactPlaceOfSaid : Prop := fnExactPlaceOfRow.holds Try.pinned (OpenSpec.ofChange fnExactPlaceOfSpec)

/-- ITS FALSE NEIGHBOUR: 'it returns false'. Refute it at one input. -/
def fnExactPlaceOfWrong : ChangeSpec := { name := "fnExactPlaceOf", fn := fun _ => fun
  | [d] => { results := [.lit (.bool false)], args := [d] }
  | _ => none }
def FnExactPlaceOfWrongFalsely : Prop := fnExactPlaceOfRow.holds Try.pinned (OpenSpec.ofChange fnExactPlaceOfWrong)

/-- 'laws.FnFrom': WHATEVER THE INPUT: true; the input reads as it did. -/
def fnFromSpec : ChangeSpec := { name := "fnFrom", fn := fun _ => fun
  | [d] => { results := [.lit (.bool true)], args := [d] }
  | _ => none }
def fnFromRow : OpenClaim := { program := "ytejhiilkbckobaa", sum := "d33fc6a9bf781c47c8aaaf5f71fa42f293234519b1e5871479c5bef2d9f08a0b", func := "loop.example/peoplesnumerals/laws.FnFrom", spec := "fnFrom", apart := false }
def FnFromSaid : Prop := fnFromRow.holds Try.pinned (OpenSpec.ofChange fnFromSpec)

/-- ITS FALSE NEIGHBOUR: 'it returns false'. Refute it at one input. -/
def fnFromWrong : ChangeSpec := { name := "fnFrom", fn := fun _ => fun
  | [d] => { results := [.lit (.bool false)], args := [d] }
  | _ => none }
def FnFromWrongFalsely : Prop := fnFromRow.holds Try.pinned (OpenSpec.ofChange fnFromWrong)

/-- 'laws.FnNumber': WHATEVER THE INPUT: true; the input reads as it did. -/
def fnNumberSpec : ChangeSpec := { name := "fnNumber", fn := fun _ => fun
  | [d] => { results := [.lit (.bool true)], args := [d] }
  | _ => none }
def fnNumberRow : OpenClaim := { program := "ytejhiilkbckobaa", sum := "d33fc6a9bf781c47c8aaaf5f71fa42f293234519b1e5871479c5bef2d9f08a0b", func := "loop.example/peoplesnumerals/laws.FnNumber", spec := "fnNumber", apart := false }
def FnNumberSaid : Prop := fnNumberRow.holds Try.pinned (OpenSpec.ofChange fnNumberSpec)

/-- ITS FALSE NEIGHBOUR: 'it returns false'. Refute it at one input. -/
def fnNumberWrong : ChangeSpec := { name := "fnNumber", fn := fun _ => fun
  | [d] => { results := [.lit (.bool false)], args := [d] }
  | _ => none }
def FnNumberWrongFalsely : Prop := fnNumberRow.holds Try.pinned (OpenSpec.ofChange fnNumberWrong)

/- THE SECOND FORM. 'bulk': how many values and letters a reading holds, each counted each time it is reached (what is shared counts as often as it is met; a slice's spare places count too). A statement '..UptoSaid' is the law's where the arguments, and the package variables that the reading takes, are together of bulk at most 1048576: NARROWER than '..Said'. Prove '..Said' where nothing that the law and all that it calls make is longer than what came in: it says more and counts as full. Else prove '..UptoSaid'. A law counts once. -/
mutual
def uptoBulk {H : Type} : DataW H → Nat
  | .lit (.string bytes) => bytes.length + 1
  | .lit _ => 1
  | .nil => 1
  | .ptr d => uptoBulk d + 1
  | .slice elems spare => uptoBulkAll elems + uptoBulkAll spare + 1
  | .agg parts => uptoBulkAll parts + 1
  | .iface _ d => uptoBulk d + 1
  | .map entries => uptoBulkEntries entries + 1
  | .held _ => 1
def uptoBulkAll {H : Type} : List (DataW H) → Nat
  | [] => 0
  | d :: r => uptoBulk d + uptoBulkAll r
def uptoBulkEntries {H : Type} : List (Lit × DataW H) → Nat
  | [] => 0
  | x :: r => uptoBulkEntry x + uptoBulkEntries r
def uptoBulkEntry {H : Type} : Lit × DataW H → Nat
  | (.string bytes, d) => bytes.length + uptoBulk d + 1
  | (_, d) => uptoBulk d + 1
 end
def uptoSmall : (H : Type) → List (DataW H) → Bool := fun _ ds => decide (uptoBulkAll ds ≤ 1048576)
def OpenSpec.upto (s : _root_.Go.ChangeSpec) : _root_.Go.OpenSpec := { _root_.Go.OpenSpec.ofChange s with cond := some uptoSmall }

/-- 'laws.FnDays', WHERE WHAT IT READS IS OF BULK AT MOST 1048576: true; the input reads as it did. -/
def fnDaysUptoRow : OpenClaim := { program := "ytejhiilkbckobaa", sum := "d33fc6a9bf781c47c8aaaf5f71fa42f293234519b1e5871479c5bef2d9f08a0b", func := "loop.example/peoplesnumerals/laws.FnDays", spec := "fnDays", apart := false, narrowed := true }
def FnDaysUptoSaid : Prop := fnDaysUptoRow.holds Try.pinned (OpenSpec.upto fnDaysSpec)

/-- 'laws.FnDigits', WHERE WHAT IT READS IS OF BULK AT MOST 1048576: true; the input reads as it did. -/
def fnDigitsUptoRow : OpenClaim := { program := "ytejhiilkbckobaa", sum := "d33fc6a9bf781c47c8aaaf5f71fa42f293234519b1e5871479c5bef2d9f08a0b", func := "loop.example/peoplesnumerals/laws.FnDigits", spec := "fnDigits", apart := false, narrowed := true }
def FnDigitsUptoSaid : Prop := fnDigitsUptoRow.holds Try.pinned (OpenSpec.upto fnDigitsSpec)

/-- 'laws.FnExactPlaceDays', WHERE WHAT IT READS IS OF BULK AT MOST 1048576: true; the input reads as it did. -/
def fnExactPlaceDaysUptoRow : OpenClaim := { program := "ytejhiilkbckobaa", sum := "d33fc6a9bf781c47c8aaaf5f71fa42f293234519b1e5871479c5bef2d9f08a0b", func := "loop.example/peoplesnumerals/laws.FnExactPlaceDays", spec := "fnExactPlaceDays", apart := false, narrowed := true }
def FnExactPlaceDaysUptoSaid : Prop := fnExactPlaceDaysUptoRow.holds Try.pinned (OpenSpec.upto fnExactPlaceDaysSpec)

/-- 'laws.FnExactPlaceDigits', WHERE WHAT IT READS IS OF BULK AT MOST 1048576: true; the input reads as it did. -/
def fnExactPlaceDigitsUptoRow : OpenClaim := { program := "ytejhiilkbckobaa", sum := "d33fc6a9bf781c47c8aaaf5f71fa42f293234519b1e5871479c5bef2d9f08a0b", func := "loop.example/peoplesnumerals/laws.FnExactPlaceDigits", spec := "fnExactPlaceDigits", apart := false, narrowed := true }
def FnExactPlaceDigitsUptoSaid : Prop := fnExactPlaceDigitsUptoRow.holds Try.pinned (OpenSpec.upto fnExactPlaceDigitsSpec)

/-- 'laws.FnExactPlaceFrom', WHERE WHAT IT READS IS OF BULK AT MOST 1048576: true; the input reads as it did. -/
def fnExactPlaceFromUptoRow : OpenClaim := { program := "ytejhiilkbckobaa", sum := "d33fc6a9bf781c47c8aaaf5f71fa42f293234519b1e5871479c5bef2d9f08a0b", func := "loop.example/peoplesnumerals/laws.FnExactPlaceFrom", spec := "fnExactPlaceFrom", apart := false, narrowed := true }
def FnExactPlaceFromUptoSaid : Prop := fnExactPlaceFromUptoRow.holds Try.pinned (OpenSpec.upto fnExactPlaceFromSpec)

/-- 'laws.FnExactPlaceNumber', WHERE WHAT IT READS IS OF BULK AT MOST 1048576: true; the input reads as it did. -/
def fnExactPlaceNumberUptoRow : OpenClaim := { program := "ytejhiilkbckobaa", sum := "d33fc6a9bf781c47c8aaaf5f71fa42f293234519b1e5871479c5bef2d9f08a0b", func := "loop.example/peoplesnumerals/laws.FnExactPlaceNumber", spec := "fnExactPlaceNumber", apart := false, narrowed := true }
def FnExactPlaceNumberUptoSaid : Prop := fnExactPlaceNumberUptoRow.holds Try.pinned (OpenSpec.upto fnExactPlaceNumberSpec)

/-- 'laws.FnExactPlaceOf', WHERE WHAT IT READS IS OF BULK AT MOST 1048576: true; the input reads as it did. -/
def fnExactPlaceOfUptoRow : OpenClaim := { program := "ytejhiilkbckobaa", sum := "d33fc6a9bf781c47c8aaaf5f71fa42f293234519b1e5871479c5bef2d9f08a0b", func := "loop.example/peoplesnumerals/laws.FnExactPlaceOf", spec := "fnExactPlaceOf", inPlace := ["internal/abi.NoEscape", "internal/bytealg.MakeNoZero"], recurses := true, apart := false, narrowed := true }
def FnExactPlaceOfUptoSaid : Prop := fnExactPlaceOfUptoRow.holds Try.pinned (OpenSpec.upto fnExactPlaceOfSpec)

/-- 'laws.FnFrom', WHERE WHAT IT READS IS OF BULK AT MOST 1048576: true; the input reads as it did. -/
def fnFromUptoRow : OpenClaim := { program := "ytejhiilkbckobaa", sum := "d33fc6a9bf781c47c8aaaf5f71fa42f293234519b1e5871479c5bef2d9f08a0b", func := "loop.example/peoplesnumerals/laws.FnFrom", spec := "fnFrom", apart := false, narrowed := true }
def FnFromUptoSaid : Prop := fnFromUptoRow.holds Try.pinned (OpenSpec.upto fnFromSpec)

/-- 'laws.FnNumber', WHERE WHAT IT READS IS OF BULK AT MOST 1048576: true; the input reads as it did. -/
def fnNumberUptoRow : OpenClaim := { program := "ytejhiilkbckobaa", sum := "d33fc6a9bf781c47c8aaaf5f71fa42f293234519b1e5871479c5bef2d9f08a0b", func := "loop.example/peoplesnumerals/laws.FnNumber", spec := "fnNumber", apart := false, narrowed := true }
def FnNumberUptoSaid : Prop := fnNumberUptoRow.holds Try.pinned (OpenSpec.upto fnNumberSpec)

end Rows
end Go.Proofs.Ytejhiilkbckobaa
