/-
  NARROWER THAN 'FOR EVERY INPUT', by the rows' own cells (each row's printed sentence says how): FnAlphaAdd: laid · FnAlpha: laid · FnAlphaSame: laid · FnExactAlphaAdd: laid · FnExactAlphaLeast: laid · FnExactAlphaNines: laid · FnExactAlphaOf: laid · FnExactAlphaRead: laid · FnExactAlphaSame: laid · FnExactAlphaSum: laid · FnLeast: laid · FnNines: laid · FnRead: laid · FnWordSum: laid.
  DERIVED. THE GIVEN ROWS OF THIS SEAT. 14 by the template 'for every input the law returns true; each argument reads behind the call as it read before'; 0 by the template 'total and deterministic' (their statements: YtdognkjpiineiaaDoorTotals.lean).
  GIVEN WITH THE SEED: the statements are not yours to turn. If you find one false, say at which input.
  Laid BY PROGRAM, IN A SANDBOX (cutbox-rows.mjs): the forced cells as the released guide's own fill.sh prints them over the translation d711841f0be744ca… (all of the seat's roots in one cut). By AI agents, Wed Nov 11 2026. No macro, syntax, notation, axiom, sorry.
-/
import Derived.Test.YtdognkjpiineiaaDoorChecked
import GoSem.Claim
import GoSem.ClaimJoined
import GoSem.ClaimMapViews
import Derived.JoinedTies
import Derived.KernelRfl
namespace Go.Proofs.YtdognkjpiineiaaDoor
/- THE CELL 'sum', in the pinned program and in every row, IS THE sha256 OF THE DUMP (.gsa) THAT YtdognkjpiineiaaDoorProg.lean LOADS. Nothing in Lean hashes anything: it is a label: what it is worth is what the hold of that sum in a sandbox is worth. -/
noncomputable def Tryd.pinned : Pinned := { name := "ytdognkjpiineiaadoor", sum := "d711841f0be744ca57afb475a5f1cc9d18191e810fb9e5cf965dfd080f399f0c", checked := Tryd.checked }
namespace Rows
def none {H : Type} : Left H := { results := [], args := [] }

/- WHAT THE LISTED PACKAGE-LEVEL VARIABLES READ AS WHEN THE CALL BEGINS. Each datum BY PROGRAM (the guide's laid-datum.mjs) off the statement by which the dump's own 'gosem.cut.vars' lays the variable. In a bare row this is a premise. The card (YtdognkjpiineiaaDoorCards.lean) ties it to the program's text. -/
def laid_loop_example_peoplesnumerals_impl_alphaRankValues {H : Type} : DataW H := .agg [.lit (.int .i64 1), .lit (.int .i64 10), .lit (.int .i64 100)]

/-- 'laws.FnAlphaAdd': WHATEVER THE INPUT: true; the input reads as it did. -/
def fnAlphaAddSpec : ChangeSpec := { name := "fnAlphaAdd", vars := ["loop.example/peoplesnumerals/impl.alphaRankValues"], fn := fun _ => fun
  | [d, g1] => { results := [.lit (.bool true)], args := [d], vars := [g1] }
  | _ => none }
def fnAlphaAddRow : OpenClaim := { program := "ytdognkjpiineiaadoor", sum := "d711841f0be744ca57afb475a5f1cc9d18191e810fb9e5cf965dfd080f399f0c", func := "loop.example/peoplesnumerals/laws.FnAlphaAdd", spec := "fnAlphaAdd", inPlace := ["internal/bytealg.IndexByteString"], named := ["loop.example/peoplesnumerals/impl.alphaRankValues"], apart := false, laid := [("loop.example/peoplesnumerals/impl.alphaRankValues", laid_loop_example_peoplesnumerals_impl_alphaRankValues)] }
def FnAlphaAddSaid : Prop := fnAlphaAddRow.holds Tryd.pinned (OpenSpec.ofChange fnAlphaAddSpec)

/-- ITS FALSE NEIGHBOUR: 'it returns false'. Refute it at one input. -/
def fnAlphaAddWrong : ChangeSpec := { name := "fnAlphaAdd", vars := ["loop.example/peoplesnumerals/impl.alphaRankValues"], fn := fun _ => fun
  | [d, g1] => { results := [.lit (.bool false)], args := [d], vars := [g1] }
  | _ => none }
def FnAlphaAddWrongFalsely : Prop := fnAlphaAddRow.holds Tryd.pinned (OpenSpec.ofChange fnAlphaAddWrong)

/-- 'laws.FnAlpha': WHATEVER THE INPUT: true; the input reads as it did. -/
def fnAlphaSpec : ChangeSpec := { name := "fnAlpha", vars := ["loop.example/peoplesnumerals/impl.alphaRankValues"], fn := fun _ => fun
  | [d, g1] => { results := [.lit (.bool true)], args := [d], vars := [g1] }
  | _ => none }
def fnAlphaRow : OpenClaim := { program := "ytdognkjpiineiaadoor", sum := "d711841f0be744ca57afb475a5f1cc9d18191e810fb9e5cf965dfd080f399f0c", func := "loop.example/peoplesnumerals/laws.FnAlpha", spec := "fnAlpha", inPlace := ["internal/bytealg.IndexByteString"], named := ["loop.example/peoplesnumerals/impl.alphaRankValues"], apart := false, laid := [("loop.example/peoplesnumerals/impl.alphaRankValues", laid_loop_example_peoplesnumerals_impl_alphaRankValues)] }
def FnAlphaSaid : Prop := fnAlphaRow.holds Tryd.pinned (OpenSpec.ofChange fnAlphaSpec)

/-- ITS FALSE NEIGHBOUR: 'it returns false'. Refute it at one input. -/
def fnAlphaWrong : ChangeSpec := { name := "fnAlpha", vars := ["loop.example/peoplesnumerals/impl.alphaRankValues"], fn := fun _ => fun
  | [d, g1] => { results := [.lit (.bool false)], args := [d], vars := [g1] }
  | _ => none }
def FnAlphaWrongFalsely : Prop := fnAlphaRow.holds Tryd.pinned (OpenSpec.ofChange fnAlphaWrong)

/-- 'laws.FnAlphaSame': WHATEVER THE INPUT: true; the input reads as it did. -/
def fnAlphaSameSpec : ChangeSpec := { name := "fnAlphaSame", vars := ["loop.example/peoplesnumerals/impl.alphaRankValues"], fn := fun _ => fun
  | [d, g1] => { results := [.lit (.bool true)], args := [d], vars := [g1] }
  | _ => none }
def fnAlphaSameRow : OpenClaim := { program := "ytdognkjpiineiaadoor", sum := "d711841f0be744ca57afb475a5f1cc9d18191e810fb9e5cf965dfd080f399f0c", func := "loop.example/peoplesnumerals/laws.FnAlphaSame", spec := "fnAlphaSame", inPlace := ["internal/bytealg.IndexByteString"], named := ["loop.example/peoplesnumerals/impl.alphaRankValues"], apart := false, laid := [("loop.example/peoplesnumerals/impl.alphaRankValues", laid_loop_example_peoplesnumerals_impl_alphaRankValues)] }
def FnAlphaSameSaid : Prop := fnAlphaSameRow.holds Tryd.pinned (OpenSpec.ofChange fnAlphaSameSpec)

/-- ITS FALSE NEIGHBOUR: 'it returns false'. Refute it at one input. -/
def fnAlphaSameWrong : ChangeSpec := { name := "fnAlphaSame", vars := ["loop.example/peoplesnumerals/impl.alphaRankValues"], fn := fun _ => fun
  | [d, g1] => { results := [.lit (.bool false)], args := [d], vars := [g1] }
  | _ => none }
def FnAlphaSameWrongFalsely : Prop := fnAlphaSameRow.holds Tryd.pinned (OpenSpec.ofChange fnAlphaSameWrong)

/-- 'laws.FnExactAlphaAdd': WHATEVER THE INPUT: true; the input reads as it did. -/
def fnExactAlphaAddSpec : ChangeSpec := { name := "fnExactAlphaAdd", vars := ["loop.example/peoplesnumerals/impl.alphaRankValues"], fn := fun _ => fun
  | [d1, d2, g1] => { results := [.lit (.bool true)], args := [d1, d2], vars := [g1] }
  | _ => none }
def fnExactAlphaAddRow : OpenClaim := { program := "ytdognkjpiineiaadoor", sum := "d711841f0be744ca57afb475a5f1cc9d18191e810fb9e5cf965dfd080f399f0c", func := "loop.example/peoplesnumerals/laws.FnExactAlphaAdd", spec := "fnExactAlphaAdd", inPlace := ["internal/bytealg.IndexByteString"], named := ["loop.example/peoplesnumerals/impl.alphaRankValues"], apart := false, laid := [("loop.example/peoplesnumerals/impl.alphaRankValues", laid_loop_example_peoplesnumerals_impl_alphaRankValues)] }
def FnExactAlphaAddSaid : Prop := fnExactAlphaAddRow.holds Tryd.pinned (OpenSpec.ofChange fnExactAlphaAddSpec)

/-- ITS FALSE NEIGHBOUR: 'it returns false'. Refute it at one input. -/
def fnExactAlphaAddWrong : ChangeSpec := { name := "fnExactAlphaAdd", vars := ["loop.example/peoplesnumerals/impl.alphaRankValues"], fn := fun _ => fun
  | [d1, d2, g1] => { results := [.lit (.bool false)], args := [d1, d2], vars := [g1] }
  | _ => none }
def FnExactAlphaAddWrongFalsely : Prop := fnExactAlphaAddRow.holds Tryd.pinned (OpenSpec.ofChange fnExactAlphaAddWrong)

/-- 'laws.FnExactAlphaLeast': WHATEVER THE INPUT: true; the input reads as it did. -/
def fnExactAlphaLeastSpec : ChangeSpec := { name := "fnExactAlphaLeast", vars := ["loop.example/peoplesnumerals/impl.alphaRankValues"], fn := fun _ => fun
  | [d, g1] => { results := [.lit (.bool true)], args := [d], vars := [g1] }
  | _ => none }
def fnExactAlphaLeastRow : OpenClaim := { program := "ytdognkjpiineiaadoor", sum := "d711841f0be744ca57afb475a5f1cc9d18191e810fb9e5cf965dfd080f399f0c", func := "loop.example/peoplesnumerals/laws.FnExactAlphaLeast", spec := "fnExactAlphaLeast", inPlace := ["internal/bytealg.abigen_runtime_cmpstring"], unfollowed := true, recurses := true, named := ["loop.example/peoplesnumerals/impl.alphaRankValues"], apart := false, laid := [("loop.example/peoplesnumerals/impl.alphaRankValues", laid_loop_example_peoplesnumerals_impl_alphaRankValues)] }
def FnExactAlphaLeastSaid : Prop := fnExactAlphaLeastRow.holds Tryd.pinned (OpenSpec.ofChange fnExactAlphaLeastSpec)

/-- ITS FALSE NEIGHBOUR: 'it returns false'. Refute it at one input. -/
def fnExactAlphaLeastWrong : ChangeSpec := { name := "fnExactAlphaLeast", vars := ["loop.example/peoplesnumerals/impl.alphaRankValues"], fn := fun _ => fun
  | [d, g1] => { results := [.lit (.bool false)], args := [d], vars := [g1] }
  | _ => none }
def FnExactAlphaLeastWrongFalsely : Prop := fnExactAlphaLeastRow.holds Tryd.pinned (OpenSpec.ofChange fnExactAlphaLeastWrong)

/-- 'laws.FnExactAlphaNines': WHATEVER THE INPUT: true; the input reads as it did. -/
def fnExactAlphaNinesSpec : ChangeSpec := { name := "fnExactAlphaNines", vars := ["loop.example/peoplesnumerals/impl.alphaRankValues"], fn := fun _ => fun
  | [d, g1] => { results := [.lit (.bool true)], args := [d], vars := [g1] }
  | _ => none }
def fnExactAlphaNinesRow : OpenClaim := { program := "ytdognkjpiineiaadoor", sum := "d711841f0be744ca57afb475a5f1cc9d18191e810fb9e5cf965dfd080f399f0c", func := "loop.example/peoplesnumerals/laws.FnExactAlphaNines", spec := "fnExactAlphaNines", inPlace := ["internal/bytealg.IndexByteString"], named := ["loop.example/peoplesnumerals/impl.alphaRankValues"], apart := false, laid := [("loop.example/peoplesnumerals/impl.alphaRankValues", laid_loop_example_peoplesnumerals_impl_alphaRankValues)] }
def FnExactAlphaNinesSaid : Prop := fnExactAlphaNinesRow.holds Tryd.pinned (OpenSpec.ofChange fnExactAlphaNinesSpec)

/-- ITS FALSE NEIGHBOUR: 'it returns false'. Refute it at one input. -/
def fnExactAlphaNinesWrong : ChangeSpec := { name := "fnExactAlphaNines", vars := ["loop.example/peoplesnumerals/impl.alphaRankValues"], fn := fun _ => fun
  | [d, g1] => { results := [.lit (.bool false)], args := [d], vars := [g1] }
  | _ => none }
def FnExactAlphaNinesWrongFalsely : Prop := fnExactAlphaNinesRow.holds Tryd.pinned (OpenSpec.ofChange fnExactAlphaNinesWrong)

/-- 'laws.FnExactAlphaOf': WHATEVER THE INPUT: true; the input reads as it did. -/
def fnExactAlphaOfSpec : ChangeSpec := { name := "fnExactAlphaOf", vars := ["loop.example/peoplesnumerals/impl.alphaRankValues"], fn := fun _ => fun
  | [d, g1] => { results := [.lit (.bool true)], args := [d], vars := [g1] }
  | _ => none }
def fnExactAlphaOfRow : OpenClaim := { program := "ytdognkjpiineiaadoor", sum := "d711841f0be744ca57afb475a5f1cc9d18191e810fb9e5cf965dfd080f399f0c", func := "loop.example/peoplesnumerals/laws.FnExactAlphaOf", spec := "fnExactAlphaOf", named := ["loop.example/peoplesnumerals/impl.alphaRankValues"], apart := false, laid := [("loop.example/peoplesnumerals/impl.alphaRankValues", laid_loop_example_peoplesnumerals_impl_alphaRankValues)] }
def FnExactAlphaOfSaid : Prop := fnExactAlphaOfRow.holds Tryd.pinned (OpenSpec.ofChange fnExactAlphaOfSpec)

/-- ITS FALSE NEIGHBOUR: 'it returns false'. Refute it at one input. -/
def fnExactAlphaOfWrong : ChangeSpec := { name := "fnExactAlphaOf", vars := ["loop.example/peoplesnumerals/impl.alphaRankValues"], fn := fun _ => fun
  | [d, g1] => { results := [.lit (.bool false)], args := [d], vars := [g1] }
  | _ => none }
def FnExactAlphaOfWrongFalsely : Prop := fnExactAlphaOfRow.holds Tryd.pinned (OpenSpec.ofChange fnExactAlphaOfWrong)

/-- 'laws.FnExactAlphaRead': WHATEVER THE INPUT: true; the input reads as it did. -/
def fnExactAlphaReadSpec : ChangeSpec := { name := "fnExactAlphaRead", vars := ["loop.example/peoplesnumerals/impl.alphaRankValues"], fn := fun _ => fun
  | [d, g1] => { results := [.lit (.bool true)], args := [d], vars := [g1] }
  | _ => none }
def fnExactAlphaReadRow : OpenClaim := { program := "ytdognkjpiineiaadoor", sum := "d711841f0be744ca57afb475a5f1cc9d18191e810fb9e5cf965dfd080f399f0c", func := "loop.example/peoplesnumerals/laws.FnExactAlphaRead", spec := "fnExactAlphaRead", inPlace := ["internal/bytealg.IndexByteString"], named := ["loop.example/peoplesnumerals/impl.alphaRankValues"], apart := false, laid := [("loop.example/peoplesnumerals/impl.alphaRankValues", laid_loop_example_peoplesnumerals_impl_alphaRankValues)] }
def FnExactAlphaReadSaid : Prop := fnExactAlphaReadRow.holds Tryd.pinned (OpenSpec.ofChange fnExactAlphaReadSpec)

/-- ITS FALSE NEIGHBOUR: 'it returns false'. Refute it at one input. -/
def fnExactAlphaReadWrong : ChangeSpec := { name := "fnExactAlphaRead", vars := ["loop.example/peoplesnumerals/impl.alphaRankValues"], fn := fun _ => fun
  | [d, g1] => { results := [.lit (.bool false)], args := [d], vars := [g1] }
  | _ => none }
def FnExactAlphaReadWrongFalsely : Prop := fnExactAlphaReadRow.holds Tryd.pinned (OpenSpec.ofChange fnExactAlphaReadWrong)

/-- 'laws.FnExactAlphaSame': WHATEVER THE INPUT: true; the input reads as it did. -/
def fnExactAlphaSameSpec : ChangeSpec := { name := "fnExactAlphaSame", vars := ["loop.example/peoplesnumerals/impl.alphaRankValues"], fn := fun _ => fun
  | [d1, d2, g1] => { results := [.lit (.bool true)], args := [d1, d2], vars := [g1] }
  | _ => none }
def fnExactAlphaSameRow : OpenClaim := { program := "ytdognkjpiineiaadoor", sum := "d711841f0be744ca57afb475a5f1cc9d18191e810fb9e5cf965dfd080f399f0c", func := "loop.example/peoplesnumerals/laws.FnExactAlphaSame", spec := "fnExactAlphaSame", inPlace := ["internal/bytealg.IndexByteString"], named := ["loop.example/peoplesnumerals/impl.alphaRankValues"], apart := false, laid := [("loop.example/peoplesnumerals/impl.alphaRankValues", laid_loop_example_peoplesnumerals_impl_alphaRankValues)] }
def FnExactAlphaSameSaid : Prop := fnExactAlphaSameRow.holds Tryd.pinned (OpenSpec.ofChange fnExactAlphaSameSpec)

/-- ITS FALSE NEIGHBOUR: 'it returns false'. Refute it at one input. -/
def fnExactAlphaSameWrong : ChangeSpec := { name := "fnExactAlphaSame", vars := ["loop.example/peoplesnumerals/impl.alphaRankValues"], fn := fun _ => fun
  | [d1, d2, g1] => { results := [.lit (.bool false)], args := [d1, d2], vars := [g1] }
  | _ => none }
def FnExactAlphaSameWrongFalsely : Prop := fnExactAlphaSameRow.holds Tryd.pinned (OpenSpec.ofChange fnExactAlphaSameWrong)

/-- 'laws.FnExactAlphaSum': WHATEVER THE INPUT: true; the input reads as it did. -/
def fnExactAlphaSumSpec : ChangeSpec := { name := "fnExactAlphaSum", vars := ["loop.example/peoplesnumerals/impl.alphaRankValues"], fn := fun _ => fun
  | [d, g1] => { results := [.lit (.bool true)], args := [d], vars := [g1] }
  | _ => none }
def fnExactAlphaSumRow : OpenClaim := { program := "ytdognkjpiineiaadoor", sum := "d711841f0be744ca57afb475a5f1cc9d18191e810fb9e5cf965dfd080f399f0c", func := "loop.example/peoplesnumerals/laws.FnExactAlphaSum", spec := "fnExactAlphaSum", inPlace := ["internal/bytealg.IndexByteString"], named := ["loop.example/peoplesnumerals/impl.alphaRankValues"], apart := false, laid := [("loop.example/peoplesnumerals/impl.alphaRankValues", laid_loop_example_peoplesnumerals_impl_alphaRankValues)] }
def FnExactAlphaSumSaid : Prop := fnExactAlphaSumRow.holds Tryd.pinned (OpenSpec.ofChange fnExactAlphaSumSpec)

/-- ITS FALSE NEIGHBOUR: 'it returns false'. Refute it at one input. -/
def fnExactAlphaSumWrong : ChangeSpec := { name := "fnExactAlphaSum", vars := ["loop.example/peoplesnumerals/impl.alphaRankValues"], fn := fun _ => fun
  | [d, g1] => { results := [.lit (.bool false)], args := [d], vars := [g1] }
  | _ => none }
def FnExactAlphaSumWrongFalsely : Prop := fnExactAlphaSumRow.holds Tryd.pinned (OpenSpec.ofChange fnExactAlphaSumWrong)

/-- 'laws.FnLeast': WHATEVER THE INPUT: true; the input reads as it did. -/
def fnLeastSpec : ChangeSpec := { name := "fnLeast", vars := ["loop.example/peoplesnumerals/impl.alphaRankValues"], fn := fun _ => fun
  | [d, g1] => { results := [.lit (.bool true)], args := [d], vars := [g1] }
  | _ => none }
def fnLeastRow : OpenClaim := { program := "ytdognkjpiineiaadoor", sum := "d711841f0be744ca57afb475a5f1cc9d18191e810fb9e5cf965dfd080f399f0c", func := "loop.example/peoplesnumerals/laws.FnLeast", spec := "fnLeast", inPlace := ["internal/bytealg.abigen_runtime_cmpstring", "internal/bytealg.IndexByteString"], unfollowed := true, recurses := true, named := ["loop.example/peoplesnumerals/impl.alphaRankValues"], apart := false, laid := [("loop.example/peoplesnumerals/impl.alphaRankValues", laid_loop_example_peoplesnumerals_impl_alphaRankValues)] }
def FnLeastSaid : Prop := fnLeastRow.holds Tryd.pinned (OpenSpec.ofChange fnLeastSpec)

/-- ITS FALSE NEIGHBOUR: 'it returns false'. Refute it at one input. -/
def fnLeastWrong : ChangeSpec := { name := "fnLeast", vars := ["loop.example/peoplesnumerals/impl.alphaRankValues"], fn := fun _ => fun
  | [d, g1] => { results := [.lit (.bool false)], args := [d], vars := [g1] }
  | _ => none }
def FnLeastWrongFalsely : Prop := fnLeastRow.holds Tryd.pinned (OpenSpec.ofChange fnLeastWrong)

/-- 'laws.FnNines': WHATEVER THE INPUT: true; the input reads as it did. -/
def fnNinesSpec : ChangeSpec := { name := "fnNines", vars := ["loop.example/peoplesnumerals/impl.alphaRankValues"], fn := fun _ => fun
  | [d, g1] => { results := [.lit (.bool true)], args := [d], vars := [g1] }
  | _ => none }
def fnNinesRow : OpenClaim := { program := "ytdognkjpiineiaadoor", sum := "d711841f0be744ca57afb475a5f1cc9d18191e810fb9e5cf965dfd080f399f0c", func := "loop.example/peoplesnumerals/laws.FnNines", spec := "fnNines", inPlace := ["internal/bytealg.IndexByteString"], named := ["loop.example/peoplesnumerals/impl.alphaRankValues"], apart := false, laid := [("loop.example/peoplesnumerals/impl.alphaRankValues", laid_loop_example_peoplesnumerals_impl_alphaRankValues)] }
def FnNinesSaid : Prop := fnNinesRow.holds Tryd.pinned (OpenSpec.ofChange fnNinesSpec)

/-- ITS FALSE NEIGHBOUR: 'it returns false'. Refute it at one input. -/
def fnNinesWrong : ChangeSpec := { name := "fnNines", vars := ["loop.example/peoplesnumerals/impl.alphaRankValues"], fn := fun _ => fun
  | [d, g1] => { results := [.lit (.bool false)], args := [d], vars := [g1] }
  | _ => none }
def FnNinesWrongFalsely : Prop := fnNinesRow.holds Tryd.pinned (OpenSpec.ofChange fnNinesWrong)

/-- 'laws.FnRead': WHATEVER THE INPUT: true; the input reads as it did. -/
def fnReadSpec : ChangeSpec := { name := "fnRead", vars := ["loop.example/peoplesnumerals/impl.alphaRankValues"], fn := fun _ => fun
  | [d, g1] => { results := [.lit (.bool true)], args := [d], vars := [g1] }
  | _ => none }
def fnReadRow : OpenClaim := { program := "ytdognkjpiineiaadoor", sum := "d711841f0be744ca57afb475a5f1cc9d18191e810fb9e5cf965dfd080f399f0c", func := "loop.example/peoplesnumerals/laws.FnRead", spec := "fnRead", inPlace := ["internal/bytealg.IndexByteString"], named := ["loop.example/peoplesnumerals/impl.alphaRankValues"], apart := false, laid := [("loop.example/peoplesnumerals/impl.alphaRankValues", laid_loop_example_peoplesnumerals_impl_alphaRankValues)] }
def FnReadSaid : Prop := fnReadRow.holds Tryd.pinned (OpenSpec.ofChange fnReadSpec)

/-- ITS FALSE NEIGHBOUR: 'it returns false'. Refute it at one input. -/
def fnReadWrong : ChangeSpec := { name := "fnRead", vars := ["loop.example/peoplesnumerals/impl.alphaRankValues"], fn := fun _ => fun
  | [d, g1] => { results := [.lit (.bool false)], args := [d], vars := [g1] }
  | _ => none }
def FnReadWrongFalsely : Prop := fnReadRow.holds Tryd.pinned (OpenSpec.ofChange fnReadWrong)

/-- 'laws.FnWordSum': WHATEVER THE INPUT: true; the input reads as it did. -/
def fnWordSumSpec : ChangeSpec := { name := "fnWordSum", vars := ["loop.example/peoplesnumerals/impl.alphaRankValues"], fn := fun _ => fun
  | [d, g1] => { results := [.lit (.bool true)], args := [d], vars := [g1] }
  | _ => none }
def fnWordSumRow : OpenClaim := { program := "ytdognkjpiineiaadoor", sum := "d711841f0be744ca57afb475a5f1cc9d18191e810fb9e5cf965dfd080f399f0c", func := "loop.example/peoplesnumerals/laws.FnWordSum", spec := "fnWordSum", inPlace := ["internal/bytealg.IndexByteString"], named := ["loop.example/peoplesnumerals/impl.alphaRankValues"], apart := false, laid := [("loop.example/peoplesnumerals/impl.alphaRankValues", laid_loop_example_peoplesnumerals_impl_alphaRankValues)] }
def FnWordSumSaid : Prop := fnWordSumRow.holds Tryd.pinned (OpenSpec.ofChange fnWordSumSpec)

/-- ITS FALSE NEIGHBOUR: 'it returns false'. Refute it at one input. -/
def fnWordSumWrong : ChangeSpec := { name := "fnWordSum", vars := ["loop.example/peoplesnumerals/impl.alphaRankValues"], fn := fun _ => fun
  | [d, g1] => { results := [.lit (.bool false)], args := [d], vars := [g1] }
  | _ => none }
def FnWordSumWrongFalsely : Prop := fnWordSumRow.holds Tryd.pinned (OpenSpec.ofChange fnWordSumWrong)

/- THE SECOND FORM. 'bulk': how many values and letters a reading holds, each counted each time it is reached (what is shared counts as often as it is met; a slice's spare places count too). A statement '..UptoSaid' is the law's where the arguments, and the package variables that the reading takes, are together of bulk at most 1048576: NARROWER than '..Said'. Prove '..Said' where nothing that the law and all that it calls make is longer than what came in: it says more and counts as full. Else prove '..UptoSaid'. A law counts once. -/
mutual
def uptoBulk {H : Type} : DataW H → Nat
  | .lit (.string bytes) => bytes.length + 1
  | .lit _ => 1
  | .nil => 1
  | .ptr d => uptoBulk d + 1
  | .slice elems spare => uptoBulkAll elems + uptoBulkAll spare + 1
  | .agg parts => uptoBulkAll parts + 1
  | .iface _ d => uptoBulk d + 1
  | .map entries => uptoBulkEntries entries + 1
  | .held _ => 1
def uptoBulkAll {H : Type} : List (DataW H) → Nat
  | [] => 0
  | d :: r => uptoBulk d + uptoBulkAll r
def uptoBulkEntries {H : Type} : List (Lit × DataW H) → Nat
  | [] => 0
  | x :: r => uptoBulkEntry x + uptoBulkEntries r
def uptoBulkEntry {H : Type} : Lit × DataW H → Nat
  | (.string bytes, d) => bytes.length + uptoBulk d + 1
  | (_, d) => uptoBulk d + 1
 end
def uptoSmall : (H : Type) → List (DataW H) → Bool := fun _ ds => decide (uptoBulkAll ds ≤ 1048576)
def OpenSpec.upto (s : _root_.Go.ChangeSpec) : _root_.Go.OpenSpec := { _root_.Go.OpenSpec.ofChange s with cond := some uptoSmall }

/-- 'laws.FnAlphaAdd', WHERE WHAT IT READS IS OF BULK AT MOST 1048576: true; the input reads as it did. -/
def fnAlphaAddUptoRow : OpenClaim := { program := "ytdognkjpiineiaadoor", sum := "d711841f0be744ca57afb475a5f1cc9d18191e810fb9e5cf965dfd080f399f0c", func := "loop.example/peoplesnumerals/laws.FnAlphaAdd", spec := "fnAlphaAdd", inPlace := ["internal/bytealg.IndexByteString"], named := ["loop.example/peoplesnumerals/impl.alphaRankValues"], apart := false, laid := [("loop.example/peoplesnumerals/impl.alphaRankValues", laid_loop_example_peoplesnumerals_impl_alphaRankValues)], narrowed := true }
def FnAlphaAddUptoSaid : Prop := fnAlphaAddUptoRow.holds Tryd.pinned (OpenSpec.upto fnAlphaAddSpec)

/-- 'laws.FnAlpha', WHERE WHAT IT READS IS OF BULK AT MOST 1048576: true; the input reads as it did. -/
def fnAlphaUptoRow : OpenClaim := { program := "ytdognkjpiineiaadoor", sum := "d711841f0be744ca57afb475a5f1cc9d18191e810fb9e5cf965dfd080f399f0c", func := "loop.example/peoplesnumerals/laws.FnAlpha", spec := "fnAlpha", inPlace := ["internal/bytealg.IndexByteString"], named := ["loop.example/peoplesnumerals/impl.alphaRankValues"], apart := false, laid := [("loop.example/peoplesnumerals/impl.alphaRankValues", laid_loop_example_peoplesnumerals_impl_alphaRankValues)], narrowed := true }
def FnAlphaUptoSaid : Prop := fnAlphaUptoRow.holds Tryd.pinned (OpenSpec.upto fnAlphaSpec)

/-- 'laws.FnAlphaSame', WHERE WHAT IT READS IS OF BULK AT MOST 1048576: true; the input reads as it did. -/
def fnAlphaSameUptoRow : OpenClaim := { program := "ytdognkjpiineiaadoor", sum := "d711841f0be744ca57afb475a5f1cc9d18191e810fb9e5cf965dfd080f399f0c", func := "loop.example/peoplesnumerals/laws.FnAlphaSame", spec := "fnAlphaSame", inPlace := ["internal/bytealg.IndexByteString"], named := ["loop.example/peoplesnumerals/impl.alphaRankValues"], apart := false, laid := [("loop.example/peoplesnumerals/impl.alphaRankValues", laid_loop_example_peoplesnumerals_impl_alphaRankValues)], narrowed := true }
def FnAlphaSameUptoSaid : Prop := fnAlphaSameUptoRow.holds Tryd.pinned (OpenSpec.upto fnAlphaSameSpec)

/-- 'laws.FnExactAlphaAdd', WHERE WHAT IT READS IS OF BULK AT MOST 1048576: true; the input reads as it did. -/
def fnExactAlphaAddUptoRow : OpenClaim := { program := "ytdognkjpiineiaadoor", sum := "d711841f0be744ca57afb475a5f1cc9d18191e810fb9e5cf965dfd080f399f0c", func := "loop.example/peoplesnumerals/laws.FnExactAlphaAdd", spec := "fnExactAlphaAdd", inPlace := ["internal/bytealg.IndexByteString"], named := ["loop.example/peoplesnumerals/impl.alphaRankValues"], apart := false, laid := [("loop.example/peoplesnumerals/impl.alphaRankValues", laid_loop_example_peoplesnumerals_impl_alphaRankValues)], narrowed := true }
def FnExactAlphaAddUptoSaid : Prop := fnExactAlphaAddUptoRow.holds Tryd.pinned (OpenSpec.upto fnExactAlphaAddSpec)

/-- 'laws.FnExactAlphaLeast', WHERE WHAT IT READS IS OF BULK AT MOST 1048576: true; the input reads as it did. -/
def fnExactAlphaLeastUptoRow : OpenClaim := { program := "ytdognkjpiineiaadoor", sum := "d711841f0be744ca57afb475a5f1cc9d18191e810fb9e5cf965dfd080f399f0c", func := "loop.example/peoplesnumerals/laws.FnExactAlphaLeast", spec := "fnExactAlphaLeast", inPlace := ["internal/bytealg.abigen_runtime_cmpstring"], unfollowed := true, recurses := true, named := ["loop.example/peoplesnumerals/impl.alphaRankValues"], apart := false, laid := [("loop.example/peoplesnumerals/impl.alphaRankValues", laid_loop_example_peoplesnumerals_impl_alphaRankValues)], narrowed := true }
def FnExactAlphaLeastUptoSaid : Prop := fnExactAlphaLeastUptoRow.holds Tryd.pinned (OpenSpec.upto fnExactAlphaLeastSpec)

/-- 'laws.FnExactAlphaNines', WHERE WHAT IT READS IS OF BULK AT MOST 1048576: true; the input reads as it did. -/
def fnExactAlphaNinesUptoRow : OpenClaim := { program := "ytdognkjpiineiaadoor", sum := "d711841f0be744ca57afb475a5f1cc9d18191e810fb9e5cf965dfd080f399f0c", func := "loop.example/peoplesnumerals/laws.FnExactAlphaNines", spec := "fnExactAlphaNines", inPlace := ["internal/bytealg.IndexByteString"], named := ["loop.example/peoplesnumerals/impl.alphaRankValues"], apart := false, laid := [("loop.example/peoplesnumerals/impl.alphaRankValues", laid_loop_example_peoplesnumerals_impl_alphaRankValues)], narrowed := true }
def FnExactAlphaNinesUptoSaid : Prop := fnExactAlphaNinesUptoRow.holds Tryd.pinned (OpenSpec.upto fnExactAlphaNinesSpec)

/-- 'laws.FnExactAlphaOf', WHERE WHAT IT READS IS OF BULK AT MOST 1048576: true; the input reads as it did. -/
def fnExactAlphaOfUptoRow : OpenClaim := { program := "ytdognkjpiineiaadoor", sum := "d711841f0be744ca57afb475a5f1cc9d18191e810fb9e5cf965dfd080f399f0c", func := "loop.example/peoplesnumerals/laws.FnExactAlphaOf", spec := "fnExactAlphaOf", named := ["loop.example/peoplesnumerals/impl.alphaRankValues"], apart := false, laid := [("loop.example/peoplesnumerals/impl.alphaRankValues", laid_loop_example_peoplesnumerals_impl_alphaRankValues)], narrowed := true }
def FnExactAlphaOfUptoSaid : Prop := fnExactAlphaOfUptoRow.holds Tryd.pinned (OpenSpec.upto fnExactAlphaOfSpec)

/-- 'laws.FnExactAlphaRead', WHERE WHAT IT READS IS OF BULK AT MOST 1048576: true; the input reads as it did. -/
def fnExactAlphaReadUptoRow : OpenClaim := { program := "ytdognkjpiineiaadoor", sum := "d711841f0be744ca57afb475a5f1cc9d18191e810fb9e5cf965dfd080f399f0c", func := "loop.example/peoplesnumerals/laws.FnExactAlphaRead", spec := "fnExactAlphaRead", inPlace := ["internal/bytealg.IndexByteString"], named := ["loop.example/peoplesnumerals/impl.alphaRankValues"], apart := false, laid := [("loop.example/peoplesnumerals/impl.alphaRankValues", laid_loop_example_peoplesnumerals_impl_alphaRankValues)], narrowed := true }
def FnExactAlphaReadUptoSaid : Prop := fnExactAlphaReadUptoRow.holds Tryd.pinned (OpenSpec.upto fnExactAlphaReadSpec)

/-- 'laws.FnExactAlphaSame', WHERE WHAT IT READS IS OF BULK AT MOST 1048576: true; the input reads as it did. -/
def fnExactAlphaSameUptoRow : OpenClaim := { program := "ytdognkjpiineiaadoor", sum := "d711841f0be744ca57afb475a5f1cc9d18191e810fb9e5cf965dfd080f399f0c", func := "loop.example/peoplesnumerals/laws.FnExactAlphaSame", spec := "fnExactAlphaSame", inPlace := ["internal/bytealg.IndexByteString"], named := ["loop.example/peoplesnumerals/impl.alphaRankValues"], apart := false, laid := [("loop.example/peoplesnumerals/impl.alphaRankValues", laid_loop_example_peoplesnumerals_impl_alphaRankValues)], narrowed := true }
def FnExactAlphaSameUptoSaid : Prop := fnExactAlphaSameUptoRow.holds Tryd.pinned (OpenSpec.upto fnExactAlphaSameSpec)

/-- 'laws.FnExactAlphaSum', WHERE WHAT IT READS IS OF BULK AT MOST 1048576: true; the input reads as it did. -/
def fnExactAlphaSumUptoRow : OpenClaim := { program := "ytdognkjpiineiaadoor", sum := "d711841f0be744ca57afb475a5f1cc9d18191e810fb9e5cf965dfd080f399f0c", func := "loop.example/peoplesnumerals/laws.FnExactAlphaSum", spec := "fnExactAlphaSum", inPlace := ["internal/bytealg.IndexByteString"], named := ["loop.example/peoplesnumerals/impl.alphaRankValues"], apart := false, laid := [("loop.example/peoplesnumerals/impl.alphaRankValues", laid_loop_example_peoplesnumerals_impl_alphaRankValues)], narrowed := true }
def FnExactAlphaSumUptoSaid : Prop := fnExactAlphaSumUptoRow.holds Tryd.pinned (OpenSpec.upto fnExactAlphaSumSpec)

/-- 'laws.FnLeast', WHERE WHAT IT READS IS OF BULK AT MOST 1048576: true; the input reads as it did. -/
def fnLeastUptoRow : OpenClaim := { program := "ytdognkjpiineiaadoor", sum := "d711841f0be744ca57afb475a5f1cc9d18191e810fb9e5cf965dfd080f399f0c", func := "loop.example/peoplesnumerals/laws.FnLeast", spec := "fnLeast", inPlace := ["internal/bytealg.abigen_runtime_cmpstring", "internal/bytealg.IndexByteString"], unfollowed := true, recurses := true, named := ["loop.example/peoplesnumerals/impl.alphaRankValues"], apart := false, laid := [("loop.example/peoplesnumerals/impl.alphaRankValues", laid_loop_example_peoplesnumerals_impl_alphaRankValues)], narrowed := true }
def FnLeastUptoSaid : Prop := fnLeastUptoRow.holds Tryd.pinned (OpenSpec.upto fnLeastSpec)

/-- 'laws.FnNines', WHERE WHAT IT READS IS OF BULK AT MOST 1048576: true; the input reads as it did. -/
def fnNinesUptoRow : OpenClaim := { program := "ytdognkjpiineiaadoor", sum := "d711841f0be744ca57afb475a5f1cc9d18191e810fb9e5cf965dfd080f399f0c", func := "loop.example/peoplesnumerals/laws.FnNines", spec := "fnNines", inPlace := ["internal/bytealg.IndexByteString"], named := ["loop.example/peoplesnumerals/impl.alphaRankValues"], apart := false, laid := [("loop.example/peoplesnumerals/impl.alphaRankValues", laid_loop_example_peoplesnumerals_impl_alphaRankValues)], narrowed := true }
def FnNinesUptoSaid : Prop := fnNinesUptoRow.holds Tryd.pinned (OpenSpec.upto fnNinesSpec)

/-- 'laws.FnRead', WHERE WHAT IT READS IS OF BULK AT MOST 1048576: true; the input reads as it did. -/
def fnReadUptoRow : OpenClaim := { program := "ytdognkjpiineiaadoor", sum := "d711841f0be744ca57afb475a5f1cc9d18191e810fb9e5cf965dfd080f399f0c", func := "loop.example/peoplesnumerals/laws.FnRead", spec := "fnRead", inPlace := ["internal/bytealg.IndexByteString"], named := ["loop.example/peoplesnumerals/impl.alphaRankValues"], apart := false, laid := [("loop.example/peoplesnumerals/impl.alphaRankValues", laid_loop_example_peoplesnumerals_impl_alphaRankValues)], narrowed := true }
def FnReadUptoSaid : Prop := fnReadUptoRow.holds Tryd.pinned (OpenSpec.upto fnReadSpec)

/-- 'laws.FnWordSum', WHERE WHAT IT READS IS OF BULK AT MOST 1048576: true; the input reads as it did. -/
def fnWordSumUptoRow : OpenClaim := { program := "ytdognkjpiineiaadoor", sum := "d711841f0be744ca57afb475a5f1cc9d18191e810fb9e5cf965dfd080f399f0c", func := "loop.example/peoplesnumerals/laws.FnWordSum", spec := "fnWordSum", inPlace := ["internal/bytealg.IndexByteString"], named := ["loop.example/peoplesnumerals/impl.alphaRankValues"], apart := false, laid := [("loop.example/peoplesnumerals/impl.alphaRankValues", laid_loop_example_peoplesnumerals_impl_alphaRankValues)], narrowed := true }
def FnWordSumUptoSaid : Prop := fnWordSumUptoRow.holds Tryd.pinned (OpenSpec.upto fnWordSumSpec)

end Rows
end Go.Proofs.YtdognkjpiineiaaDoor
