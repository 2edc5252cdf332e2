/-
  NARROWER THAN 'FOR EVERY INPUT', by the rows' own cells (each row's printed sentence says how): FnRomanSame: laid · FnExactRomanSame: laid.
  DERIVED. THE GIVEN ROWS OF THIS SEAT. 2 by the template 'for every input the law returns true; each argument reads behind the call as it read before'; 0 by the template 'total and deterministic' (their statements: YtdpndgmneoaieaaDoorTotals.lean).
  GIVEN WITH THE SEED: the statements are not yours to turn. If you find one false, say at which input.
  Laid BY PROGRAM, IN A SANDBOX (cutbox-rows.mjs): the forced cells as the released guide's own fill.sh prints them over the translation 581a077b2dc82d57… (all of the seat's roots in one cut). By AI agents, Wed Nov 11 2026. No macro, syntax, notation, axiom, sorry.
-/
import Derived.Test.YtdpndgmneoaieaaDoorChecked
import GoSem.Claim
import GoSem.ClaimJoined
import GoSem.ClaimMapViews
import Derived.JoinedTies
import Derived.KernelRfl
namespace Go.Proofs.YtdpndgmneoaieaaDoor
/- THE CELL 'sum', in the pinned program and in every row, IS THE sha256 OF THE DUMP (.gsa) THAT YtdpndgmneoaieaaDoorProg.lean LOADS. Nothing in Lean hashes anything: it is a label: what it is worth is what the hold of that sum in a sandbox is worth. -/
noncomputable def Tryd.pinned : Pinned := { name := "ytdpndgmneoaieaadoor", sum := "581a077b2dc82d5738d9083ed6f72da7066f2729a1e95cde15d36392c41df9b4", checked := Tryd.checked }
namespace Rows
def none {H : Type} : Left H := { results := [], args := [] }

/- WHAT THE LISTED PACKAGE-LEVEL VARIABLES READ AS WHEN THE CALL BEGINS. Each datum BY PROGRAM (the guide's laid-datum.mjs) off the statement by which the dump's own 'gosem.cut.vars' lays the variable. In a bare row this is a premise. The card (YtdpndgmneoaieaaDoorCards.lean) ties it to the program's text. -/
def laid_loop_example_peoplesnumerals_impl_letterValues {H : Type} : DataW H := .agg [.lit (.int .i64 100), .lit (.int .i64 500), .lit (.int .i64 1), .lit (.int .i64 50), .lit (.int .i64 1000), .lit (.int .i64 5), .lit (.int .i64 10)]

/-- 'laws.FnRomanSame': WHATEVER THE INPUT: true; the input reads as it did. -/
def fnRomanSameSpec : ChangeSpec := { name := "fnRomanSame", vars := ["loop.example/peoplesnumerals/impl.letterValues"], fn := fun _ => fun
  | [d, g1] => { results := [.lit (.bool true)], args := [d], vars := [g1] }
  | _ => none }
def fnRomanSameRow : OpenClaim := { program := "ytdpndgmneoaieaadoor", sum := "581a077b2dc82d5738d9083ed6f72da7066f2729a1e95cde15d36392c41df9b4", func := "loop.example/peoplesnumerals/laws.FnRomanSame", spec := "fnRomanSame", unfollowed := true, recurses := true, named := ["loop.example/peoplesnumerals/impl.letterValues"], plainKeys := false, apart := false, laid := [("loop.example/peoplesnumerals/impl.letterValues", laid_loop_example_peoplesnumerals_impl_letterValues)] }
def FnRomanSameSaid : Prop := fnRomanSameRow.holds Tryd.pinned (OpenSpec.ofChange fnRomanSameSpec)

/-- ITS FALSE NEIGHBOUR: 'it returns false'. Refute it at one input. -/
def fnRomanSameWrong : ChangeSpec := { name := "fnRomanSame", vars := ["loop.example/peoplesnumerals/impl.letterValues"], fn := fun _ => fun
  | [d, g1] => { results := [.lit (.bool false)], args := [d], vars := [g1] }
  | _ => none }
def FnRomanSameWrongFalsely : Prop := fnRomanSameRow.holds Tryd.pinned (OpenSpec.ofChange fnRomanSameWrong)

/-- 'laws.FnExactRomanSame': WHATEVER THE INPUT: true; the input reads as it did. -/
def fnExactRomanSameSpec : ChangeSpec := { name := "fnExactRomanSame", vars := ["loop.example/peoplesnumerals/impl.letterValues"], fn := fun _ => fun
  | [d1, d2, g1] => { results := [.lit (.bool true)], args := [d1, d2], vars := [g1] }
  | _ => none }
def fnExactRomanSameRow : OpenClaim := { program := "ytdpndgmneoaieaadoor", sum := "581a077b2dc82d5738d9083ed6f72da7066f2729a1e95cde15d36392c41df9b4", func := "loop.example/peoplesnumerals/laws.FnExactRomanSame", spec := "fnExactRomanSame", named := ["loop.example/peoplesnumerals/impl.letterValues"], plainKeys := false, apart := false, laid := [("loop.example/peoplesnumerals/impl.letterValues", laid_loop_example_peoplesnumerals_impl_letterValues)] }
def FnExactRomanSameSaid : Prop := fnExactRomanSameRow.holds Tryd.pinned (OpenSpec.ofChange fnExactRomanSameSpec)

/-- ITS FALSE NEIGHBOUR: 'it returns false'. Refute it at one input. -/
def fnExactRomanSameWrong : ChangeSpec := { name := "fnExactRomanSame", vars := ["loop.example/peoplesnumerals/impl.letterValues"], fn := fun _ => fun
  | [d1, d2, g1] => { results := [.lit (.bool false)], args := [d1, d2], vars := [g1] }
  | _ => none }
def FnExactRomanSameWrongFalsely : Prop := fnExactRomanSameRow.holds Tryd.pinned (OpenSpec.ofChange fnExactRomanSameWrong)

/- THE SECOND FORM. 'bulk': how many values and letters a reading holds, each counted each time it is reached (what is shared counts as often as it is met; a slice's spare places count too). A statement '..UptoSaid' is the law's where the arguments, and the package variables that the reading takes, are together of bulk at most 1048576: NARROWER than '..Said'. Prove '..Said' where nothing that the law and all that it calls make is longer than what came in: it says more and counts as full. Else prove '..UptoSaid'. A law counts once. -/
mutual
def uptoBulk {H : Type} : DataW H → Nat
  | .lit (.string bytes) => bytes.length + 1
  | .lit _ => 1
  | .nil => 1
  | .ptr d => uptoBulk d + 1
  | .slice elems spare => uptoBulkAll elems + uptoBulkAll spare + 1
  | .agg parts => uptoBulkAll parts + 1
  | .iface _ d => uptoBulk d + 1
  | .map entries => uptoBulkEntries entries + 1
  | .held _ => 1
def uptoBulkAll {H : Type} : List (DataW H) → Nat
  | [] => 0
  | d :: r => uptoBulk d + uptoBulkAll r
def uptoBulkEntries {H : Type} : List (Lit × DataW H) → Nat
  | [] => 0
  | x :: r => uptoBulkEntry x + uptoBulkEntries r
def uptoBulkEntry {H : Type} : Lit × DataW H → Nat
  | (.string bytes, d) => bytes.length + uptoBulk d + 1
  | (_, d) => uptoBulk d + 1
 end
def uptoSmall : (H : Type) → List (DataW H) → Bool := fun _ ds => decide (uptoBulkAll ds ≤ 1048576)
def OpenSpec.upto (s : _root_.Go.ChangeSpec) : _root_.Go.OpenSpec := { _root_.Go.OpenSpec.ofChange s with cond := some uptoSmall }

/-- 'laws.FnRomanSame', WHERE WHAT IT READS IS OF BULK AT MOST 1048576: true; the input reads as it did. -/
def fnRomanSameUptoRow : OpenClaim := { program := "ytdpndgmneoaieaadoor", sum := "581a077b2dc82d5738d9083ed6f72da7066f2729a1e95cde15d36392c41df9b4", func := "loop.example/peoplesnumerals/laws.FnRomanSame", spec := "fnRomanSame", unfollowed := true, recurses := true, named := ["loop.example/peoplesnumerals/impl.letterValues"], plainKeys := false, apart := false, laid := [("loop.example/peoplesnumerals/impl.letterValues", laid_loop_example_peoplesnumerals_impl_letterValues)], narrowed := true }
def FnRomanSameUptoSaid : Prop := fnRomanSameUptoRow.holds Tryd.pinned (OpenSpec.upto fnRomanSameSpec)

/-- 'laws.FnExactRomanSame', WHERE WHAT IT READS IS OF BULK AT MOST 1048576: true; the input reads as it did. -/
def fnExactRomanSameUptoRow : OpenClaim := { program := "ytdpndgmneoaieaadoor", sum := "581a077b2dc82d5738d9083ed6f72da7066f2729a1e95cde15d36392c41df9b4", func := "loop.example/peoplesnumerals/laws.FnExactRomanSame", spec := "fnExactRomanSame", named := ["loop.example/peoplesnumerals/impl.letterValues"], plainKeys := false, apart := false, laid := [("loop.example/peoplesnumerals/impl.letterValues", laid_loop_example_peoplesnumerals_impl_letterValues)], narrowed := true }
def FnExactRomanSameUptoSaid : Prop := fnExactRomanSameUptoRow.holds Tryd.pinned (OpenSpec.upto fnExactRomanSameSpec)

end Rows
end Go.Proofs.YtdpndgmneoaieaaDoor
