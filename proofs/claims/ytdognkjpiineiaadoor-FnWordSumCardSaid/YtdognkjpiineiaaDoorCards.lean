/-
  DERIVED. GIVEN WITH THE SEED: THE CARDS: each row of YtdognkjpiineiaaDoorRows.lean that lists a variable, with what it lists TIED to the program's text (the seventh form; the later family's looks); each row that meets fmt, with fmt's text TOLD by the authors' own Lean function (tested against real Go, not proved from fmt's source: count such statements apart). THE CARD IS WHAT COUNTS. Prove the row's statement (the work); the ties are given (YtdognkjpiineiaaDoorTie.lean); close each card by the builder's one call (the guide's Derived/Test/ToyasCard.lean, 'card_holds'). Laid BY PROGRAM, IN A SANDBOX (cutbox-door.mjs). By AI agents, Wed Nov 11 2026. No macro, syntax, notation, axiom, sorry.
-/
import Derived.Test.YtdognkjpiineiaaDoorRows
import GoSem.ClaimSeven
namespace Go.Proofs.YtdognkjpiineiaaDoor
namespace Rows

/-- THE TIED CARD OF 'laws.FnAlphaAdd'. -/
def fnAlphaAddCard : Claim7 := { stood := { row := fnAlphaAddRow, standIns := [], harness := (true, "1490deb616aafa9e361a08320955faf65cd222d6c563224bce6d2205dcbf3e64"), looks := false }, kinds := [], alts := [], laidByText := true, laidKinds := [.data], laidTests := true, laidLooks := .later }
def FnAlphaAddCardSaid : Prop := Claim7.holds Tryd.pinned (.plain (OpenSpec.ofChange fnAlphaAddSpec)) fnAlphaAddCard

/-- THE TIED CARD OF 'laws.FnAlpha'. -/
def fnAlphaCard : Claim7 := { stood := { row := fnAlphaRow, standIns := [], harness := (true, "1490deb616aafa9e361a08320955faf65cd222d6c563224bce6d2205dcbf3e64"), looks := false }, kinds := [], alts := [], laidByText := true, laidKinds := [.data], laidTests := true, laidLooks := .later }
def FnAlphaCardSaid : Prop := Claim7.holds Tryd.pinned (.plain (OpenSpec.ofChange fnAlphaSpec)) fnAlphaCard

/-- THE TIED CARD OF 'laws.FnAlphaSame'. -/
def fnAlphaSameCard : Claim7 := { stood := { row := fnAlphaSameRow, standIns := [], harness := (true, "1490deb616aafa9e361a08320955faf65cd222d6c563224bce6d2205dcbf3e64"), looks := false }, kinds := [], alts := [], laidByText := true, laidKinds := [.data], laidTests := true, laidLooks := .later }
def FnAlphaSameCardSaid : Prop := Claim7.holds Tryd.pinned (.plain (OpenSpec.ofChange fnAlphaSameSpec)) fnAlphaSameCard

/-- THE TIED CARD OF 'laws.FnExactAlphaAdd'. -/
def fnExactAlphaAddCard : Claim7 := { stood := { row := fnExactAlphaAddRow, standIns := [], harness := (true, "1490deb616aafa9e361a08320955faf65cd222d6c563224bce6d2205dcbf3e64"), looks := false }, kinds := [], alts := [], laidByText := true, laidKinds := [.data], laidTests := true, laidLooks := .later }
def FnExactAlphaAddCardSaid : Prop := Claim7.holds Tryd.pinned (.plain (OpenSpec.ofChange fnExactAlphaAddSpec)) fnExactAlphaAddCard

/-- THE TIED CARD OF 'laws.FnExactAlphaLeast'. -/
def fnExactAlphaLeastCard : Claim7 := { stood := { row := fnExactAlphaLeastRow, standIns := [], harness := (true, "1490deb616aafa9e361a08320955faf65cd222d6c563224bce6d2205dcbf3e64"), looks := false }, kinds := [], alts := [], laidByText := true, laidKinds := [.data], laidTests := true, laidLooks := .later }
def FnExactAlphaLeastCardSaid : Prop := Claim7.holds Tryd.pinned (.plain (OpenSpec.ofChange fnExactAlphaLeastSpec)) fnExactAlphaLeastCard

/-- THE TIED CARD OF 'laws.FnExactAlphaNines'. -/
def fnExactAlphaNinesCard : Claim7 := { stood := { row := fnExactAlphaNinesRow, standIns := [], harness := (true, "1490deb616aafa9e361a08320955faf65cd222d6c563224bce6d2205dcbf3e64"), looks := false }, kinds := [], alts := [], laidByText := true, laidKinds := [.data], laidTests := true, laidLooks := .later }
def FnExactAlphaNinesCardSaid : Prop := Claim7.holds Tryd.pinned (.plain (OpenSpec.ofChange fnExactAlphaNinesSpec)) fnExactAlphaNinesCard

/-- THE TIED CARD OF 'laws.FnExactAlphaOf'. -/
def fnExactAlphaOfCard : Claim7 := { stood := { row := fnExactAlphaOfRow, standIns := [], harness := (true, "1490deb616aafa9e361a08320955faf65cd222d6c563224bce6d2205dcbf3e64"), looks := false }, kinds := [], alts := [], laidByText := true, laidKinds := [.data], laidTests := true, laidLooks := .later }
def FnExactAlphaOfCardSaid : Prop := Claim7.holds Tryd.pinned (.plain (OpenSpec.ofChange fnExactAlphaOfSpec)) fnExactAlphaOfCard

/-- THE TIED CARD OF 'laws.FnExactAlphaRead'. -/
def fnExactAlphaReadCard : Claim7 := { stood := { row := fnExactAlphaReadRow, standIns := [], harness := (true, "1490deb616aafa9e361a08320955faf65cd222d6c563224bce6d2205dcbf3e64"), looks := false }, kinds := [], alts := [], laidByText := true, laidKinds := [.data], laidTests := true, laidLooks := .later }
def FnExactAlphaReadCardSaid : Prop := Claim7.holds Tryd.pinned (.plain (OpenSpec.ofChange fnExactAlphaReadSpec)) fnExactAlphaReadCard

/-- THE TIED CARD OF 'laws.FnExactAlphaSame'. -/
def fnExactAlphaSameCard : Claim7 := { stood := { row := fnExactAlphaSameRow, standIns := [], harness := (true, "1490deb616aafa9e361a08320955faf65cd222d6c563224bce6d2205dcbf3e64"), looks := false }, kinds := [], alts := [], laidByText := true, laidKinds := [.data], laidTests := true, laidLooks := .later }
def FnExactAlphaSameCardSaid : Prop := Claim7.holds Tryd.pinned (.plain (OpenSpec.ofChange fnExactAlphaSameSpec)) fnExactAlphaSameCard

/-- THE TIED CARD OF 'laws.FnExactAlphaSum'. -/
def fnExactAlphaSumCard : Claim7 := { stood := { row := fnExactAlphaSumRow, standIns := [], harness := (true, "1490deb616aafa9e361a08320955faf65cd222d6c563224bce6d2205dcbf3e64"), looks := false }, kinds := [], alts := [], laidByText := true, laidKinds := [.data], laidTests := true, laidLooks := .later }
def FnExactAlphaSumCardSaid : Prop := Claim7.holds Tryd.pinned (.plain (OpenSpec.ofChange fnExactAlphaSumSpec)) fnExactAlphaSumCard

/-- THE TIED CARD OF 'laws.FnLeast'. -/
def fnLeastCard : Claim7 := { stood := { row := fnLeastRow, standIns := [], harness := (true, "1490deb616aafa9e361a08320955faf65cd222d6c563224bce6d2205dcbf3e64"), looks := false }, kinds := [], alts := [], laidByText := true, laidKinds := [.data], laidTests := true, laidLooks := .later }
def FnLeastCardSaid : Prop := Claim7.holds Tryd.pinned (.plain (OpenSpec.ofChange fnLeastSpec)) fnLeastCard

/-- THE TIED CARD OF 'laws.FnNines'. -/
def fnNinesCard : Claim7 := { stood := { row := fnNinesRow, standIns := [], harness := (true, "1490deb616aafa9e361a08320955faf65cd222d6c563224bce6d2205dcbf3e64"), looks := false }, kinds := [], alts := [], laidByText := true, laidKinds := [.data], laidTests := true, laidLooks := .later }
def FnNinesCardSaid : Prop := Claim7.holds Tryd.pinned (.plain (OpenSpec.ofChange fnNinesSpec)) fnNinesCard

/-- THE TIED CARD OF 'laws.FnRead'. -/
def fnReadCard : Claim7 := { stood := { row := fnReadRow, standIns := [], harness := (true, "1490deb616aafa9e361a08320955faf65cd222d6c563224bce6d2205dcbf3e64"), looks := false }, kinds := [], alts := [], laidByText := true, laidKinds := [.data], laidTests := true, laidLooks := .later }
def FnReadCardSaid : Prop := Claim7.holds Tryd.pinned (.plain (OpenSpec.ofChange fnReadSpec)) fnReadCard

/-- THE TIED CARD OF 'laws.FnWordSum'. -/
def fnWordSumCard : Claim7 := { stood := { row := fnWordSumRow, standIns := [], harness := (true, "1490deb616aafa9e361a08320955faf65cd222d6c563224bce6d2205dcbf3e64"), looks := false }, kinds := [], alts := [], laidByText := true, laidKinds := [.data], laidTests := true, laidLooks := .later }
def FnWordSumCardSaid : Prop := Claim7.holds Tryd.pinned (.plain (OpenSpec.ofChange fnWordSumSpec)) fnWordSumCard

/-- THE SECOND FORM's CARD OF 'laws.FnAlphaAdd'. -/
def fnAlphaAddUptoCard : Claim7 := { stood := { row := fnAlphaAddUptoRow, standIns := [], harness := (true, "1490deb616aafa9e361a08320955faf65cd222d6c563224bce6d2205dcbf3e64"), looks := false }, kinds := [], alts := [], laidByText := true, laidKinds := [.data], laidTests := true, laidLooks := .later }
def FnAlphaAddUptoCardSaid : Prop := Claim7.holds Tryd.pinned (.plain (OpenSpec.upto fnAlphaAddSpec)) fnAlphaAddUptoCard

/-- THE SECOND FORM's CARD OF 'laws.FnAlpha'. -/
def fnAlphaUptoCard : Claim7 := { stood := { row := fnAlphaUptoRow, standIns := [], harness := (true, "1490deb616aafa9e361a08320955faf65cd222d6c563224bce6d2205dcbf3e64"), looks := false }, kinds := [], alts := [], laidByText := true, laidKinds := [.data], laidTests := true, laidLooks := .later }
def FnAlphaUptoCardSaid : Prop := Claim7.holds Tryd.pinned (.plain (OpenSpec.upto fnAlphaSpec)) fnAlphaUptoCard

/-- THE SECOND FORM's CARD OF 'laws.FnAlphaSame'. -/
def fnAlphaSameUptoCard : Claim7 := { stood := { row := fnAlphaSameUptoRow, standIns := [], harness := (true, "1490deb616aafa9e361a08320955faf65cd222d6c563224bce6d2205dcbf3e64"), looks := false }, kinds := [], alts := [], laidByText := true, laidKinds := [.data], laidTests := true, laidLooks := .later }
def FnAlphaSameUptoCardSaid : Prop := Claim7.holds Tryd.pinned (.plain (OpenSpec.upto fnAlphaSameSpec)) fnAlphaSameUptoCard

/-- THE SECOND FORM's CARD OF 'laws.FnExactAlphaAdd'. -/
def fnExactAlphaAddUptoCard : Claim7 := { stood := { row := fnExactAlphaAddUptoRow, standIns := [], harness := (true, "1490deb616aafa9e361a08320955faf65cd222d6c563224bce6d2205dcbf3e64"), looks := false }, kinds := [], alts := [], laidByText := true, laidKinds := [.data], laidTests := true, laidLooks := .later }
def FnExactAlphaAddUptoCardSaid : Prop := Claim7.holds Tryd.pinned (.plain (OpenSpec.upto fnExactAlphaAddSpec)) fnExactAlphaAddUptoCard

/-- THE SECOND FORM's CARD OF 'laws.FnExactAlphaLeast'. -/
def fnExactAlphaLeastUptoCard : Claim7 := { stood := { row := fnExactAlphaLeastUptoRow, standIns := [], harness := (true, "1490deb616aafa9e361a08320955faf65cd222d6c563224bce6d2205dcbf3e64"), looks := false }, kinds := [], alts := [], laidByText := true, laidKinds := [.data], laidTests := true, laidLooks := .later }
def FnExactAlphaLeastUptoCardSaid : Prop := Claim7.holds Tryd.pinned (.plain (OpenSpec.upto fnExactAlphaLeastSpec)) fnExactAlphaLeastUptoCard

/-- THE SECOND FORM's CARD OF 'laws.FnExactAlphaNines'. -/
def fnExactAlphaNinesUptoCard : Claim7 := { stood := { row := fnExactAlphaNinesUptoRow, standIns := [], harness := (true, "1490deb616aafa9e361a08320955faf65cd222d6c563224bce6d2205dcbf3e64"), looks := false }, kinds := [], alts := [], laidByText := true, laidKinds := [.data], laidTests := true, laidLooks := .later }
def FnExactAlphaNinesUptoCardSaid : Prop := Claim7.holds Tryd.pinned (.plain (OpenSpec.upto fnExactAlphaNinesSpec)) fnExactAlphaNinesUptoCard

/-- THE SECOND FORM's CARD OF 'laws.FnExactAlphaOf'. -/
def fnExactAlphaOfUptoCard : Claim7 := { stood := { row := fnExactAlphaOfUptoRow, standIns := [], harness := (true, "1490deb616aafa9e361a08320955faf65cd222d6c563224bce6d2205dcbf3e64"), looks := false }, kinds := [], alts := [], laidByText := true, laidKinds := [.data], laidTests := true, laidLooks := .later }
def FnExactAlphaOfUptoCardSaid : Prop := Claim7.holds Tryd.pinned (.plain (OpenSpec.upto fnExactAlphaOfSpec)) fnExactAlphaOfUptoCard

/-- THE SECOND FORM's CARD OF 'laws.FnExactAlphaRead'. -/
def fnExactAlphaReadUptoCard : Claim7 := { stood := { row := fnExactAlphaReadUptoRow, standIns := [], harness := (true, "1490deb616aafa9e361a08320955faf65cd222d6c563224bce6d2205dcbf3e64"), looks := false }, kinds := [], alts := [], laidByText := true, laidKinds := [.data], laidTests := true, laidLooks := .later }
def FnExactAlphaReadUptoCardSaid : Prop := Claim7.holds Tryd.pinned (.plain (OpenSpec.upto fnExactAlphaReadSpec)) fnExactAlphaReadUptoCard

/-- THE SECOND FORM's CARD OF 'laws.FnExactAlphaSame'. -/
def fnExactAlphaSameUptoCard : Claim7 := { stood := { row := fnExactAlphaSameUptoRow, standIns := [], harness := (true, "1490deb616aafa9e361a08320955faf65cd222d6c563224bce6d2205dcbf3e64"), looks := false }, kinds := [], alts := [], laidByText := true, laidKinds := [.data], laidTests := true, laidLooks := .later }
def FnExactAlphaSameUptoCardSaid : Prop := Claim7.holds Tryd.pinned (.plain (OpenSpec.upto fnExactAlphaSameSpec)) fnExactAlphaSameUptoCard

/-- THE SECOND FORM's CARD OF 'laws.FnExactAlphaSum'. -/
def fnExactAlphaSumUptoCard : Claim7 := { stood := { row := fnExactAlphaSumUptoRow, standIns := [], harness := (true, "1490deb616aafa9e361a08320955faf65cd222d6c563224bce6d2205dcbf3e64"), looks := false }, kinds := [], alts := [], laidByText := true, laidKinds := [.data], laidTests := true, laidLooks := .later }
def FnExactAlphaSumUptoCardSaid : Prop := Claim7.holds Tryd.pinned (.plain (OpenSpec.upto fnExactAlphaSumSpec)) fnExactAlphaSumUptoCard

/-- THE SECOND FORM's CARD OF 'laws.FnLeast'. -/
def fnLeastUptoCard : Claim7 := { stood := { row := fnLeastUptoRow, standIns := [], harness := (true, "1490deb616aafa9e361a08320955faf65cd222d6c563224bce6d2205dcbf3e64"), looks := false }, kinds := [], alts := [], laidByText := true, laidKinds := [.data], laidTests := true, laidLooks := .later }
def FnLeastUptoCardSaid : Prop := Claim7.holds Tryd.pinned (.plain (OpenSpec.upto fnLeastSpec)) fnLeastUptoCard

/-- THE SECOND FORM's CARD OF 'laws.FnNines'. -/
def fnNinesUptoCard : Claim7 := { stood := { row := fnNinesUptoRow, standIns := [], harness := (true, "1490deb616aafa9e361a08320955faf65cd222d6c563224bce6d2205dcbf3e64"), looks := false }, kinds := [], alts := [], laidByText := true, laidKinds := [.data], laidTests := true, laidLooks := .later }
def FnNinesUptoCardSaid : Prop := Claim7.holds Tryd.pinned (.plain (OpenSpec.upto fnNinesSpec)) fnNinesUptoCard

/-- THE SECOND FORM's CARD OF 'laws.FnRead'. -/
def fnReadUptoCard : Claim7 := { stood := { row := fnReadUptoRow, standIns := [], harness := (true, "1490deb616aafa9e361a08320955faf65cd222d6c563224bce6d2205dcbf3e64"), looks := false }, kinds := [], alts := [], laidByText := true, laidKinds := [.data], laidTests := true, laidLooks := .later }
def FnReadUptoCardSaid : Prop := Claim7.holds Tryd.pinned (.plain (OpenSpec.upto fnReadSpec)) fnReadUptoCard

/-- THE SECOND FORM's CARD OF 'laws.FnWordSum'. -/
def fnWordSumUptoCard : Claim7 := { stood := { row := fnWordSumUptoRow, standIns := [], harness := (true, "1490deb616aafa9e361a08320955faf65cd222d6c563224bce6d2205dcbf3e64"), looks := false }, kinds := [], alts := [], laidByText := true, laidKinds := [.data], laidTests := true, laidLooks := .later }
def FnWordSumUptoCardSaid : Prop := Claim7.holds Tryd.pinned (.plain (OpenSpec.upto fnWordSumSpec)) fnWordSumUptoCard
end Rows
end Go.Proofs.YtdognkjpiineiaaDoor
