/-
  DERIVED. GIVEN WITH THE SEED: THE CARDS: each row of YthbdnmnhoifnoaaGreatDoorRows.lean that lists a variable, with what it lists TIED to the program's text (the seventh form; the later family's looks); each row that meets fmt, with fmt's text TOLD by the authors' own Lean function (tested against real Go, not proved from fmt's source: count such statements apart). THE CARD IS WHAT COUNTS. Prove the row's statement (the work); the ties are given (YthbdnmnhoifnoaaGreatDoorTie.lean); close each card by the builder's one call (the guide's Derived/Test/ToyasCard.lean, 'card_holds'). Laid BY PROGRAM, IN A SANDBOX (cutbox-door.mjs). By AI agents, Wed Nov 11 2026. No macro, syntax, notation, axiom, sorry.
-/
import Derived.Test.YthbdnmnhoifnoaaGreatDoorRows
import GoSem.ClaimSeven
namespace Go.Proofs.YthbdnmnhoifnoaaGreatDoor
namespace Rows

/-- THE TIED CARD OF 'laws.FnExecuteRoman'. -/
def fnExecuteRomanCard : Claim7 := { stood := { row := fnExecuteRomanRow, standIns := [], harness := (true, "cb20124ba618b89262a9117ead457eb27ba8c7a054d6a00bfc0f2818adf380a4"), looks := true }, kinds := [], alts := [], laidByText := true, laidKinds := [.data, .data, .data, .data, .handle, .data, .data, .data, .data, .data, .data, .pinned], laidTests := true, laidLooks := .later }
def FnExecuteRomanCardSaid : Prop := Claim7.holds Tryz.pinned (.plain (OpenSpec.ofChange fnExecuteRomanSpec)) fnExecuteRomanCard

/-- THE TIED CARD OF 'laws.FnExecuteClay'. -/
def fnExecuteClayCard : Claim7 := { stood := { row := fnExecuteClayRow, standIns := [], harness := (true, "cb20124ba618b89262a9117ead457eb27ba8c7a054d6a00bfc0f2818adf380a4"), looks := true }, kinds := [], alts := [], laidByText := true, laidKinds := [.data, .data, .data, .data, .handle, .data, .data, .data, .data, .data, .data, .pinned], laidTests := true, laidLooks := .later }
def FnExecuteClayCardSaid : Prop := Claim7.holds Tryz.pinned (.plain (OpenSpec.ofChange fnExecuteClaySpec)) fnExecuteClayCard

/-- THE SECOND FORM's CARD OF 'laws.FnExecuteRoman'. -/
def fnExecuteRomanUptoCard : Claim7 := { stood := { row := fnExecuteRomanUptoRow, standIns := [], harness := (true, "cb20124ba618b89262a9117ead457eb27ba8c7a054d6a00bfc0f2818adf380a4"), looks := true }, kinds := [], alts := [], laidByText := true, laidKinds := [.data, .data, .data, .data, .handle, .data, .data, .data, .data, .data, .data, .pinned], laidTests := true, laidLooks := .later }
def FnExecuteRomanUptoCardSaid : Prop := Claim7.holds Tryz.pinned (.plain (OpenSpec.upto fnExecuteRomanSpec)) fnExecuteRomanUptoCard

/-- THE SECOND FORM's CARD OF 'laws.FnExecuteClay'. -/
def fnExecuteClayUptoCard : Claim7 := { stood := { row := fnExecuteClayUptoRow, standIns := [], harness := (true, "cb20124ba618b89262a9117ead457eb27ba8c7a054d6a00bfc0f2818adf380a4"), looks := true }, kinds := [], alts := [], laidByText := true, laidKinds := [.data, .data, .data, .data, .handle, .data, .data, .data, .data, .data, .data, .pinned], laidTests := true, laidLooks := .later }
def FnExecuteClayUptoCardSaid : Prop := Claim7.holds Tryz.pinned (.plain (OpenSpec.upto fnExecuteClaySpec)) fnExecuteClayUptoCard
end Rows
end Go.Proofs.YthbdnmnhoifnoaaGreatDoor
