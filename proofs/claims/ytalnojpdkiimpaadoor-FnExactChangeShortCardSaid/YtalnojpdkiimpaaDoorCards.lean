/-
  DERIVED. GIVEN WITH THE SEED: THE CARDS: each row of YtalnojpdkiimpaaDoorRows.lean that lists a variable, with what it lists TIED to the program's text (the seventh form; the later family's looks); each row that meets fmt, with fmt's text TOLD by the authors' own Lean function (tested against real Go, not proved from fmt's source: count such statements apart). THE CARD IS WHAT COUNTS. Prove the row's statement (the work); the ties are given (YtalnojpdkiimpaaDoorTie.lean); close each card by the builder's one call (the guide's Derived/Test/ToyasCard.lean, 'card_holds'). Laid BY PROGRAM, IN A SANDBOX (cutbox-door.mjs). By AI agents, Wed Nov 11 2026. No macro, syntax, notation, axiom, sorry.
-/
import Derived.Test.YtalnojpdkiimpaaDoorRows
import GoSem.ClaimSeven
namespace Go.Proofs.YtalnojpdkiimpaaDoor
namespace Rows

/-- THE TIED CARD OF 'laws.FnLength'. -/
def fnLengthCard : Claim7 := { stood := { row := fnLengthRow, standIns := [], harness := (true, "b97499b2000e0b757bb880c39c8fe025e3c16a317488a7ea5940bcfc23902235"), looks := true }, kinds := [], alts := [], laidByText := true, laidKinds := [.data, .data, .data, .data, .data], laidTests := true, laidLooks := .later }
def FnLengthCardSaid : Prop := Claim7.holds Tryd.pinned (.plain (OpenSpec.ofChange fnLengthSpec)) fnLengthCard

/-- THE TIED CARD OF 'laws.FnChangeShort'. -/
def fnChangeShortCard : Claim7 := { stood := { row := fnChangeShortRow, standIns := [], harness := (true, "b97499b2000e0b757bb880c39c8fe025e3c16a317488a7ea5940bcfc23902235"), looks := true }, kinds := [], alts := [], laidByText := true, laidKinds := [.data, .data, .data, .data, .data], laidTests := true, laidLooks := .later }
def FnChangeShortCardSaid : Prop := Claim7.holds Tryd.pinned (.plain (OpenSpec.ofChange fnChangeShortSpec)) fnChangeShortCard

/-- THE TIED CARD OF 'laws.FnExactChangeOf'. -/
def fnExactChangeOfCard : Claim7 := { stood := { row := fnExactChangeOfRow, standIns := [], harness := (true, "b97499b2000e0b757bb880c39c8fe025e3c16a317488a7ea5940bcfc23902235"), looks := true }, kinds := [], alts := [], laidByText := true, laidKinds := [.data, .data, .data, .data, .data], laidTests := true, laidLooks := .later }
def FnExactChangeOfCardSaid : Prop := Claim7.holds Tryd.pinned (.plain (OpenSpec.ofChange fnExactChangeOfSpec)) fnExactChangeOfCard

/-- THE TIED CARD OF 'laws.FnExactChangeLength'. -/
def fnExactChangeLengthCard : Claim7 := { stood := { row := fnExactChangeLengthRow, standIns := [], harness := (true, "b97499b2000e0b757bb880c39c8fe025e3c16a317488a7ea5940bcfc23902235"), looks := true }, kinds := [], alts := [], laidByText := true, laidKinds := [.data, .data, .data, .data, .data], laidTests := true, laidLooks := .later }
def FnExactChangeLengthCardSaid : Prop := Claim7.holds Tryd.pinned (.plain (OpenSpec.ofChange fnExactChangeLengthSpec)) fnExactChangeLengthCard

/-- THE TIED CARD OF 'laws.FnExactChangeShort'. -/
def fnExactChangeShortCard : Claim7 := { stood := { row := fnExactChangeShortRow, standIns := [], harness := (true, "b97499b2000e0b757bb880c39c8fe025e3c16a317488a7ea5940bcfc23902235"), looks := true }, kinds := [], alts := [], laidByText := true, laidKinds := [.data, .data, .data, .data, .data], laidTests := true, laidLooks := .later }
def FnExactChangeShortCardSaid : Prop := Claim7.holds Tryd.pinned (.plain (OpenSpec.ofChange fnExactChangeShortSpec)) fnExactChangeShortCard

/-- THE SECOND FORM's CARD OF 'laws.FnLength'. -/
def fnLengthUptoCard : Claim7 := { stood := { row := fnLengthUptoRow, standIns := [], harness := (true, "b97499b2000e0b757bb880c39c8fe025e3c16a317488a7ea5940bcfc23902235"), looks := true }, kinds := [], alts := [], laidByText := true, laidKinds := [.data, .data, .data, .data, .data], laidTests := true, laidLooks := .later }
def FnLengthUptoCardSaid : Prop := Claim7.holds Tryd.pinned (.plain (OpenSpec.upto fnLengthSpec)) fnLengthUptoCard

/-- THE SECOND FORM's CARD OF 'laws.FnChangeShort'. -/
def fnChangeShortUptoCard : Claim7 := { stood := { row := fnChangeShortUptoRow, standIns := [], harness := (true, "b97499b2000e0b757bb880c39c8fe025e3c16a317488a7ea5940bcfc23902235"), looks := true }, kinds := [], alts := [], laidByText := true, laidKinds := [.data, .data, .data, .data, .data], laidTests := true, laidLooks := .later }
def FnChangeShortUptoCardSaid : Prop := Claim7.holds Tryd.pinned (.plain (OpenSpec.upto fnChangeShortSpec)) fnChangeShortUptoCard

/-- THE SECOND FORM's CARD OF 'laws.FnExactChangeOf'. -/
def fnExactChangeOfUptoCard : Claim7 := { stood := { row := fnExactChangeOfUptoRow, standIns := [], harness := (true, "b97499b2000e0b757bb880c39c8fe025e3c16a317488a7ea5940bcfc23902235"), looks := true }, kinds := [], alts := [], laidByText := true, laidKinds := [.data, .data, .data, .data, .data], laidTests := true, laidLooks := .later }
def FnExactChangeOfUptoCardSaid : Prop := Claim7.holds Tryd.pinned (.plain (OpenSpec.upto fnExactChangeOfSpec)) fnExactChangeOfUptoCard

/-- THE SECOND FORM's CARD OF 'laws.FnExactChangeLength'. -/
def fnExactChangeLengthUptoCard : Claim7 := { stood := { row := fnExactChangeLengthUptoRow, standIns := [], harness := (true, "b97499b2000e0b757bb880c39c8fe025e3c16a317488a7ea5940bcfc23902235"), looks := true }, kinds := [], alts := [], laidByText := true, laidKinds := [.data, .data, .data, .data, .data], laidTests := true, laidLooks := .later }
def FnExactChangeLengthUptoCardSaid : Prop := Claim7.holds Tryd.pinned (.plain (OpenSpec.upto fnExactChangeLengthSpec)) fnExactChangeLengthUptoCard

/-- THE SECOND FORM's CARD OF 'laws.FnExactChangeShort'. -/
def fnExactChangeShortUptoCard : Claim7 := { stood := { row := fnExactChangeShortUptoRow, standIns := [], harness := (true, "b97499b2000e0b757bb880c39c8fe025e3c16a317488a7ea5940bcfc23902235"), looks := true }, kinds := [], alts := [], laidByText := true, laidKinds := [.data, .data, .data, .data, .data], laidTests := true, laidLooks := .later }
def FnExactChangeShortUptoCardSaid : Prop := Claim7.holds Tryd.pinned (.plain (OpenSpec.upto fnExactChangeShortSpec)) fnExactChangeShortUptoCard
end Rows
end Go.Proofs.YtalnojpdkiimpaaDoor
