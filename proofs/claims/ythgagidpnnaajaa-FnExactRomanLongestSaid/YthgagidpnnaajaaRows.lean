/-
  No cell of these rows narrows 'for every input' (looked for: loops, veiled, ifaces, maps, wideKeys, modest, calm, conditions, laid).
  DERIVED. THE GIVEN ROWS OF THIS SEAT. 4 by the template 'for every input the law returns true; each argument reads behind the call as it read before'; 0 by the template 'total and deterministic' (their statements: YthgagidpnnaajaaTotals.lean).
  GIVEN WITH THE SEED: the statements are not yours to turn. If you find one false, say at which input.
  Laid BY PROGRAM, IN A SANDBOX (cutbox-rows.mjs): the forced cells as the released guide's own fill.sh prints them over the translation b4f9f43b1a76cd32… (all of the seat's roots in one cut). By AI agents, Wed Nov 11 2026. No macro, syntax, notation, axiom, sorry.
-/
import Derived.Test.YthgagidpnnaajaaChecked
import GoSem.Claim
import GoSem.ClaimJoined
import GoSem.ClaimMapViews
import Derived.JoinedTies
import Derived.KernelRfl
namespace Go.Proofs.Ythgagidpnnaajaa
/- THE CELL 'sum', in the pinned program and in every row, IS THE sha256 OF THE DUMP (.gsa) THAT YthgagidpnnaajaaProg.lean LOADS. Nothing in Lean hashes anything: it is a label: what it is worth is what the hold of that sum in a sandbox is worth. -/
noncomputable def Try.pinned : Pinned := { name := "ythgagidpnnaajaa", sum := "b4f9f43b1a76cd32bc549b7cae9ba379e379b54b082c191ee082f0e3865a7efa", checked := Try.checked }
namespace Rows
def none {H : Type} : Left H := { results := [], args := [] }

/-- 'laws.FnLongest': WHATEVER THE INPUT: true; the input reads as it did. -/
def fnLongestSpec : ChangeSpec := { name := "fnLongest", fn := fun _ => fun
  | [d] => { results := [.lit (.bool true)], args := [d] }
  | _ => none }
def fnLongestRow : OpenClaim := { program := "ythgagidpnnaajaa", sum := "b4f9f43b1a76cd32bc549b7cae9ba379e379b54b082c191ee082f0e3865a7efa", func := "loop.example/peoplesnumerals/laws.FnLongest", spec := "fnLongest", apart := false }
def FnLongestSaid : Prop := fnLongestRow.holds Try.pinned (OpenSpec.ofChange fnLongestSpec)

/-- ITS FALSE NEIGHBOUR: 'it returns false'. Refute it at one input. -/
def fnLongestWrong : ChangeSpec := { name := "fnLongest", fn := fun _ => fun
  | [d] => { results := [.lit (.bool false)], args := [d] }
  | _ => none }
def FnLongestWrongFalsely : Prop := fnLongestRow.holds Try.pinned (OpenSpec.ofChange fnLongestWrong)

/-- 'laws.FnExactRomanOf': WHATEVER THE INPUT: true; the input reads as it did. -/
def fnExactRomanOfSpec : ChangeSpec := { name := "fnExactRomanOf", fn := fun _ => fun
  | [d] => { results := [.lit (.bool true)], args := [d] }
  | _ => none }
def fnExactRomanOfRow : OpenClaim := { program := "ythgagidpnnaajaa", sum := "b4f9f43b1a76cd32bc549b7cae9ba379e379b54b082c191ee082f0e3865a7efa", func := "loop.example/peoplesnumerals/laws.FnExactRomanOf", spec := "fnExactRomanOf", apart := false }
def FnExactRomanOfSaid : Prop := fnExactRomanOfRow.holds Try.pinned (OpenSpec.ofChange fnExactRomanOfSpec)

/-- ITS FALSE NEIGHBOUR: 'it returns false'. Refute it at one input. -/
def fnExactRomanOfWrong : ChangeSpec := { name := "fnExactRomanOf", fn := fun _ => fun
  | [d] => { results := [.lit (.bool false)], args := [d] }
  | _ => none }
def FnExactRomanOfWrongFalsely : Prop := fnExactRomanOfRow.holds Try.pinned (OpenSpec.ofChange fnExactRomanOfWrong)

/-- 'laws.FnExactRomanPiled': WHATEVER THE INPUT: true; the input reads as it did. -/
def fnExactRomanPiledSpec : ChangeSpec := { name := "fnExactRomanPiled", fn := fun _ => fun
  | [d] => { results := [.lit (.bool true)], args := [d] }
  | _ => none }
def fnExactRomanPiledRow : OpenClaim := { program := "ythgagidpnnaajaa", sum := "b4f9f43b1a76cd32bc549b7cae9ba379e379b54b082c191ee082f0e3865a7efa", func := "loop.example/peoplesnumerals/laws.FnExactRomanPiled", spec := "fnExactRomanPiled", apart := false }
def FnExactRomanPiledSaid : Prop := fnExactRomanPiledRow.holds Try.pinned (OpenSpec.ofChange fnExactRomanPiledSpec)

/-- ITS FALSE NEIGHBOUR: 'it returns false'. Refute it at one input. -/
def fnExactRomanPiledWrong : ChangeSpec := { name := "fnExactRomanPiled", fn := fun _ => fun
  | [d] => { results := [.lit (.bool false)], args := [d] }
  | _ => none }
def FnExactRomanPiledWrongFalsely : Prop := fnExactRomanPiledRow.holds Try.pinned (OpenSpec.ofChange fnExactRomanPiledWrong)

/-- 'laws.FnExactRomanLongest': WHATEVER THE INPUT: true; the input reads as it did. -/
def fnExactRomanLongestSpec : ChangeSpec := { name := "fnExactRomanLongest", fn := fun _ => fun
  | [d] => { results := [.lit (.bool true)], args := [d] }
  | _ => none }
def fnExactRomanLongestRow : OpenClaim := { program := "ythgagidpnnaajaa", sum := "b4f9f43b1a76cd32bc549b7cae9ba379e379b54b082c191ee082f0e3865a7efa", func := "loop.example/peoplesnumerals/laws.FnExactRomanLongest", spec := "fnExactRomanLongest", apart := false }
def FnExactRomanLongestSaid : Prop := fnExactRomanLongestRow.holds Try.pinned (OpenSpec.ofChange fnExactRomanLongestSpec)

/-- ITS FALSE NEIGHBOUR: 'it returns false'. Refute it at one input. -/
def fnExactRomanLongestWrong : ChangeSpec := { name := "fnExactRomanLongest", fn := fun _ => fun
  | [d] => { results := [.lit (.bool false)], args := [d] }
  | _ => none }
def FnExactRomanLongestWrongFalsely : Prop := fnExactRomanLongestRow.holds Try.pinned (OpenSpec.ofChange fnExactRomanLongestWrong)

/- THE SECOND FORM. 'bulk': how many values and letters a reading holds, each counted each time it is reached (what is shared counts as often as it is met; a slice's spare places count too). A statement '..UptoSaid' is the law's where the arguments, and the package variables that the reading takes, are together of bulk at most 1048576: NARROWER than '..Said'. Prove '..Said' where nothing that the law and all that it calls make is longer than what came in: it says more and counts as full. Else prove '..UptoSaid'. A law counts once. -/
mutual
def uptoBulk {H : Type} : DataW H → Nat
  | .lit (.string bytes) => bytes.length + 1
  | .lit _ => 1
  | .nil => 1
  | .ptr d => uptoBulk d + 1
  | .slice elems spare => uptoBulkAll elems + uptoBulkAll spare + 1
  | .agg parts => uptoBulkAll parts + 1
  | .iface _ d => uptoBulk d + 1
  | .map entries => uptoBulkEntries entries + 1
  | .held _ => 1
def uptoBulkAll {H : Type} : List (DataW H) → Nat
  | [] => 0
  | d :: r => uptoBulk d + uptoBulkAll r
def uptoBulkEntries {H : Type} : List (Lit × DataW H) → Nat
  | [] => 0
  | x :: r => uptoBulkEntry x + uptoBulkEntries r
def uptoBulkEntry {H : Type} : Lit × DataW H → Nat
  | (.string bytes, d) => bytes.length + uptoBulk d + 1
  | (_, d) => uptoBulk d + 1
 end
def uptoSmall : (H : Type) → List (DataW H) → Bool := fun _ ds => decide (uptoBulkAll ds ≤ 1048576)
def OpenSpec.upto (s : _root_.Go.ChangeSpec) : _root_.Go.OpenSpec := { _root_.Go.OpenSpec.ofChange s with cond := some uptoSmall }

/-- 'laws.FnLongest', WHERE WHAT IT READS IS OF BULK AT MOST 1048576: true; the input reads as it did. -/
def fnLongestUptoRow : OpenClaim := { program := "ythgagidpnnaajaa", sum := "b4f9f43b1a76cd32bc549b7cae9ba379e379b54b082c191ee082f0e3865a7efa", func := "loop.example/peoplesnumerals/laws.FnLongest", spec := "fnLongest", apart := false, narrowed := true }
def FnLongestUptoSaid : Prop := fnLongestUptoRow.holds Try.pinned (OpenSpec.upto fnLongestSpec)

/-- 'laws.FnExactRomanOf', WHERE WHAT IT READS IS OF BULK AT MOST 1048576: true; the input reads as it did. -/
def fnExactRomanOfUptoRow : OpenClaim := { program := "ythgagidpnnaajaa", sum := "b4f9f43b1a76cd32bc549b7cae9ba379e379b54b082c191ee082f0e3865a7efa", func := "loop.example/peoplesnumerals/laws.FnExactRomanOf", spec := "fnExactRomanOf", apart := false, narrowed := true }
def FnExactRomanOfUptoSaid : Prop := fnExactRomanOfUptoRow.holds Try.pinned (OpenSpec.upto fnExactRomanOfSpec)

/-- 'laws.FnExactRomanPiled', WHERE WHAT IT READS IS OF BULK AT MOST 1048576: true; the input reads as it did. -/
def fnExactRomanPiledUptoRow : OpenClaim := { program := "ythgagidpnnaajaa", sum := "b4f9f43b1a76cd32bc549b7cae9ba379e379b54b082c191ee082f0e3865a7efa", func := "loop.example/peoplesnumerals/laws.FnExactRomanPiled", spec := "fnExactRomanPiled", apart := false, narrowed := true }
def FnExactRomanPiledUptoSaid : Prop := fnExactRomanPiledUptoRow.holds Try.pinned (OpenSpec.upto fnExactRomanPiledSpec)

/-- 'laws.FnExactRomanLongest', WHERE WHAT IT READS IS OF BULK AT MOST 1048576: true; the input reads as it did. -/
def fnExactRomanLongestUptoRow : OpenClaim := { program := "ythgagidpnnaajaa", sum := "b4f9f43b1a76cd32bc549b7cae9ba379e379b54b082c191ee082f0e3865a7efa", func := "loop.example/peoplesnumerals/laws.FnExactRomanLongest", spec := "fnExactRomanLongest", apart := false, narrowed := true }
def FnExactRomanLongestUptoSaid : Prop := fnExactRomanLongestUptoRow.holds Try.pinned (OpenSpec.upto fnExactRomanLongestSpec)

end Rows
end Go.Proofs.Ythgagidpnnaajaa
