/-
  DERIVED. GIVEN WITH THE SEED: THE CARDS: each row of YtdpndgmneoaieaaDoorRows.lean that lists a variable, with what it lists TIED to the program's text (the seventh form; the later family's looks); each row that meets fmt, with fmt's text TOLD by the authors' own Lean function (tested against real Go, not proved from fmt's source: count such statements apart). THE CARD IS WHAT COUNTS. Prove the row's statement (the work); the ties are given (YtdpndgmneoaieaaDoorTie.lean); close each card by the builder's one call (the guide's Derived/Test/ToyasCard.lean, 'card_holds'). Laid BY PROGRAM, IN A SANDBOX (cutbox-door.mjs). By AI agents, Wed Nov 11 2026. No macro, syntax, notation, axiom, sorry.
-/
import Derived.Test.YtdpndgmneoaieaaDoorRows
import GoSem.ClaimSeven
namespace Go.Proofs.YtdpndgmneoaieaaDoor
namespace Rows

/-- THE TIED CARD OF 'laws.FnRomanSame'. -/
def fnRomanSameCard : Claim7 := { stood := { row := fnRomanSameRow, standIns := [], harness := (true, "8452b862b9cedee76114ae2b67a5109a2c0479c68974e220a1afc31ed3817ee8"), looks := false }, kinds := [], alts := [], laidByText := true, laidKinds := [.data], laidTests := true, laidLooks := .later }
def FnRomanSameCardSaid : Prop := Claim7.holds Tryd.pinned (.plain (OpenSpec.ofChange fnRomanSameSpec)) fnRomanSameCard

/-- THE TIED CARD OF 'laws.FnExactRomanSame'. -/
def fnExactRomanSameCard : Claim7 := { stood := { row := fnExactRomanSameRow, standIns := [], harness := (true, "8452b862b9cedee76114ae2b67a5109a2c0479c68974e220a1afc31ed3817ee8"), looks := false }, kinds := [], alts := [], laidByText := true, laidKinds := [.data], laidTests := true, laidLooks := .later }
def FnExactRomanSameCardSaid : Prop := Claim7.holds Tryd.pinned (.plain (OpenSpec.ofChange fnExactRomanSameSpec)) fnExactRomanSameCard

/-- THE SECOND FORM's CARD OF 'laws.FnRomanSame'. -/
def fnRomanSameUptoCard : Claim7 := { stood := { row := fnRomanSameUptoRow, standIns := [], harness := (true, "8452b862b9cedee76114ae2b67a5109a2c0479c68974e220a1afc31ed3817ee8"), looks := false }, kinds := [], alts := [], laidByText := true, laidKinds := [.data], laidTests := true, laidLooks := .later }
def FnRomanSameUptoCardSaid : Prop := Claim7.holds Tryd.pinned (.plain (OpenSpec.upto fnRomanSameSpec)) fnRomanSameUptoCard

/-- THE SECOND FORM's CARD OF 'laws.FnExactRomanSame'. -/
def fnExactRomanSameUptoCard : Claim7 := { stood := { row := fnExactRomanSameUptoRow, standIns := [], harness := (true, "8452b862b9cedee76114ae2b67a5109a2c0479c68974e220a1afc31ed3817ee8"), looks := false }, kinds := [], alts := [], laidByText := true, laidKinds := [.data], laidTests := true, laidLooks := .later }
def FnExactRomanSameUptoCardSaid : Prop := Claim7.holds Tryd.pinned (.plain (OpenSpec.upto fnExactRomanSameSpec)) fnExactRomanSameUptoCard
end Rows
end Go.Proofs.YtdpndgmneoaieaaDoor
