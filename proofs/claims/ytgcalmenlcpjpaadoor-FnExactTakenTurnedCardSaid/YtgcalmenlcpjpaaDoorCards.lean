/-
  DERIVED. GIVEN WITH THE SEED: THE CARDS: each row of YtgcalmenlcpjpaaDoorRows.lean that lists a variable, with what it lists TIED to the program's text (the seventh form; the later family's looks); each row that meets fmt, with fmt's text TOLD by the authors' own Lean function (tested against real Go, not proved from fmt's source: count such statements apart). THE CARD IS WHAT COUNTS. Prove the row's statement (the work); the ties are given (YtgcalmenlcpjpaaDoorTie.lean); close each card by the builder's one call (the guide's Derived/Test/ToyasCard.lean, 'card_holds'). Laid BY PROGRAM, IN A SANDBOX (cutbox-door.mjs). By AI agents, Wed Nov 11 2026. No macro, syntax, notation, axiom, sorry.
-/
import Derived.Test.YtgcalmenlcpjpaaDoorRows
import GoSem.ClaimSeven
namespace Go.Proofs.YtgcalmenlcpjpaaDoor
namespace Rows

/-- THE TIED CARD OF 'laws.FnTaken'. -/
def fnTakenCard : Claim7 := { stood := { row := fnTakenRow, standIns := [], harness := (true, "7a1c97b36f7d6c6c85c323f4be1b3a7438ff3b2006a49c683c6e7e35e5dd7985"), looks := true }, kinds := [], alts := [], laidByText := true, laidKinds := [.handle], laidTests := true, laidLooks := .later }
def FnTakenCardSaid : Prop := Claim7.holds Tryd.pinned (.plain (OpenSpec.ofChange fnTakenSpec)) fnTakenCard

/-- THE TIED CARD OF 'laws.FnTakenLeast'. -/
def fnTakenLeastCard : Claim7 := { stood := { row := fnTakenLeastRow, standIns := [], harness := (true, "7a1c97b36f7d6c6c85c323f4be1b3a7438ff3b2006a49c683c6e7e35e5dd7985"), looks := true }, kinds := [], alts := [], laidByText := true, laidKinds := [.handle], laidTests := true, laidLooks := .later }
def FnTakenLeastCardSaid : Prop := Claim7.holds Tryd.pinned (.plain (OpenSpec.ofChange fnTakenLeastSpec)) fnTakenLeastCard

/-- THE TIED CARD OF 'laws.FnTakenSize'. -/
def fnTakenSizeCard : Claim7 := { stood := { row := fnTakenSizeRow, standIns := [], harness := (true, "7a1c97b36f7d6c6c85c323f4be1b3a7438ff3b2006a49c683c6e7e35e5dd7985"), looks := true }, kinds := [], alts := [], laidByText := true, laidKinds := [.handle], laidTests := true, laidLooks := .later }
def FnTakenSizeCardSaid : Prop := Claim7.holds Tryd.pinned (.plain (OpenSpec.ofChange fnTakenSizeSpec)) fnTakenSizeCard

/-- THE TIED CARD OF 'laws.FnSaved'. -/
def fnSavedCard : Claim7 := { stood := { row := fnSavedRow, standIns := [], harness := (true, "7a1c97b36f7d6c6c85c323f4be1b3a7438ff3b2006a49c683c6e7e35e5dd7985"), looks := true }, kinds := [], alts := [], laidByText := true, laidKinds := [.handle], laidTests := true, laidLooks := .later }
def FnSavedCardSaid : Prop := Claim7.holds Tryd.pinned (.plain (OpenSpec.ofChange fnSavedSpec)) fnSavedCard

/-- THE TIED CARD OF 'laws.FnMost'. -/
def fnMostCard : Claim7 := { stood := { row := fnMostRow, standIns := [], harness := (true, "7a1c97b36f7d6c6c85c323f4be1b3a7438ff3b2006a49c683c6e7e35e5dd7985"), looks := true }, kinds := [], alts := [], laidByText := true, laidKinds := [.handle], laidTests := true, laidLooks := .later }
def FnMostCardSaid : Prop := Claim7.holds Tryd.pinned (.plain (OpenSpec.ofChange fnMostSpec)) fnMostCard

/-- THE TIED CARD OF 'laws.FnTurned'. -/
def fnTurnedCard : Claim7 := { stood := { row := fnTurnedRow, standIns := [], harness := (true, "7a1c97b36f7d6c6c85c323f4be1b3a7438ff3b2006a49c683c6e7e35e5dd7985"), looks := true }, kinds := [], alts := [], laidByText := true, laidKinds := [.handle], laidTests := true, laidLooks := .later }
def FnTurnedCardSaid : Prop := Claim7.holds Tryd.pinned (.plain (OpenSpec.ofChange fnTurnedSpec)) fnTurnedCard

/-- THE TIED CARD OF 'laws.FnExactTakenOf'. -/
def fnExactTakenOfCard : Claim7 := { stood := { row := fnExactTakenOfRow, standIns := [], harness := (true, "7a1c97b36f7d6c6c85c323f4be1b3a7438ff3b2006a49c683c6e7e35e5dd7985"), looks := true }, kinds := [], alts := [], laidByText := true, laidKinds := [.handle], laidTests := true, laidLooks := .later }
def FnExactTakenOfCardSaid : Prop := Claim7.holds Tryd.pinned (.plain (OpenSpec.ofChange fnExactTakenOfSpec)) fnExactTakenOfCard

/-- THE TIED CARD OF 'laws.FnExactTakenValue'. -/
def fnExactTakenValueCard : Claim7 := { stood := { row := fnExactTakenValueRow, standIns := [], harness := (true, "7a1c97b36f7d6c6c85c323f4be1b3a7438ff3b2006a49c683c6e7e35e5dd7985"), looks := true }, kinds := [], alts := [], laidByText := true, laidKinds := [.handle], laidTests := true, laidLooks := .later }
def FnExactTakenValueCardSaid : Prop := Claim7.holds Tryd.pinned (.plain (OpenSpec.ofChange fnExactTakenValueSpec)) fnExactTakenValueCard

/-- THE TIED CARD OF 'laws.FnExactTakenSize'. -/
def fnExactTakenSizeCard : Claim7 := { stood := { row := fnExactTakenSizeRow, standIns := [], harness := (true, "7a1c97b36f7d6c6c85c323f4be1b3a7438ff3b2006a49c683c6e7e35e5dd7985"), looks := true }, kinds := [], alts := [], laidByText := true, laidKinds := [.handle], laidTests := true, laidLooks := .later }
def FnExactTakenSizeCardSaid : Prop := Claim7.holds Tryd.pinned (.plain (OpenSpec.ofChange fnExactTakenSizeSpec)) fnExactTakenSizeCard

/-- THE TIED CARD OF 'laws.FnExactTakenSaved'. -/
def fnExactTakenSavedCard : Claim7 := { stood := { row := fnExactTakenSavedRow, standIns := [], harness := (true, "7a1c97b36f7d6c6c85c323f4be1b3a7438ff3b2006a49c683c6e7e35e5dd7985"), looks := true }, kinds := [], alts := [], laidByText := true, laidKinds := [.handle], laidTests := true, laidLooks := .later }
def FnExactTakenSavedCardSaid : Prop := Claim7.holds Tryd.pinned (.plain (OpenSpec.ofChange fnExactTakenSavedSpec)) fnExactTakenSavedCard

/-- THE TIED CARD OF 'laws.FnExactTakenMost'. -/
def fnExactTakenMostCard : Claim7 := { stood := { row := fnExactTakenMostRow, standIns := [], harness := (true, "7a1c97b36f7d6c6c85c323f4be1b3a7438ff3b2006a49c683c6e7e35e5dd7985"), looks := true }, kinds := [], alts := [], laidByText := true, laidKinds := [.handle], laidTests := true, laidLooks := .later }
def FnExactTakenMostCardSaid : Prop := Claim7.holds Tryd.pinned (.plain (OpenSpec.ofChange fnExactTakenMostSpec)) fnExactTakenMostCard

/-- THE TIED CARD OF 'laws.FnExactTakenTurned'. -/
def fnExactTakenTurnedCard : Claim7 := { stood := { row := fnExactTakenTurnedRow, standIns := [], harness := (true, "7a1c97b36f7d6c6c85c323f4be1b3a7438ff3b2006a49c683c6e7e35e5dd7985"), looks := true }, kinds := [], alts := [], laidByText := true, laidKinds := [.handle], laidTests := true, laidLooks := .later }
def FnExactTakenTurnedCardSaid : Prop := Claim7.holds Tryd.pinned (.plain (OpenSpec.ofChange fnExactTakenTurnedSpec)) fnExactTakenTurnedCard

/-- THE SECOND FORM's CARD OF 'laws.FnTaken'. -/
def fnTakenUptoCard : Claim7 := { stood := { row := fnTakenUptoRow, standIns := [], harness := (true, "7a1c97b36f7d6c6c85c323f4be1b3a7438ff3b2006a49c683c6e7e35e5dd7985"), looks := true }, kinds := [], alts := [], laidByText := true, laidKinds := [.handle], laidTests := true, laidLooks := .later }
def FnTakenUptoCardSaid : Prop := Claim7.holds Tryd.pinned (.plain (OpenSpec.upto fnTakenSpec)) fnTakenUptoCard

/-- THE SECOND FORM's CARD OF 'laws.FnTakenLeast'. -/
def fnTakenLeastUptoCard : Claim7 := { stood := { row := fnTakenLeastUptoRow, standIns := [], harness := (true, "7a1c97b36f7d6c6c85c323f4be1b3a7438ff3b2006a49c683c6e7e35e5dd7985"), looks := true }, kinds := [], alts := [], laidByText := true, laidKinds := [.handle], laidTests := true, laidLooks := .later }
def FnTakenLeastUptoCardSaid : Prop := Claim7.holds Tryd.pinned (.plain (OpenSpec.upto fnTakenLeastSpec)) fnTakenLeastUptoCard

/-- THE SECOND FORM's CARD OF 'laws.FnTakenSize'. -/
def fnTakenSizeUptoCard : Claim7 := { stood := { row := fnTakenSizeUptoRow, standIns := [], harness := (true, "7a1c97b36f7d6c6c85c323f4be1b3a7438ff3b2006a49c683c6e7e35e5dd7985"), looks := true }, kinds := [], alts := [], laidByText := true, laidKinds := [.handle], laidTests := true, laidLooks := .later }
def FnTakenSizeUptoCardSaid : Prop := Claim7.holds Tryd.pinned (.plain (OpenSpec.upto fnTakenSizeSpec)) fnTakenSizeUptoCard

/-- THE SECOND FORM's CARD OF 'laws.FnSaved'. -/
def fnSavedUptoCard : Claim7 := { stood := { row := fnSavedUptoRow, standIns := [], harness := (true, "7a1c97b36f7d6c6c85c323f4be1b3a7438ff3b2006a49c683c6e7e35e5dd7985"), looks := true }, kinds := [], alts := [], laidByText := true, laidKinds := [.handle], laidTests := true, laidLooks := .later }
def FnSavedUptoCardSaid : Prop := Claim7.holds Tryd.pinned (.plain (OpenSpec.upto fnSavedSpec)) fnSavedUptoCard

/-- THE SECOND FORM's CARD OF 'laws.FnMost'. -/
def fnMostUptoCard : Claim7 := { stood := { row := fnMostUptoRow, standIns := [], harness := (true, "7a1c97b36f7d6c6c85c323f4be1b3a7438ff3b2006a49c683c6e7e35e5dd7985"), looks := true }, kinds := [], alts := [], laidByText := true, laidKinds := [.handle], laidTests := true, laidLooks := .later }
def FnMostUptoCardSaid : Prop := Claim7.holds Tryd.pinned (.plain (OpenSpec.upto fnMostSpec)) fnMostUptoCard

/-- THE SECOND FORM's CARD OF 'laws.FnTurned'. -/
def fnTurnedUptoCard : Claim7 := { stood := { row := fnTurnedUptoRow, standIns := [], harness := (true, "7a1c97b36f7d6c6c85c323f4be1b3a7438ff3b2006a49c683c6e7e35e5dd7985"), looks := true }, kinds := [], alts := [], laidByText := true, laidKinds := [.handle], laidTests := true, laidLooks := .later }
def FnTurnedUptoCardSaid : Prop := Claim7.holds Tryd.pinned (.plain (OpenSpec.upto fnTurnedSpec)) fnTurnedUptoCard

/-- THE SECOND FORM's CARD OF 'laws.FnExactTakenOf'. -/
def fnExactTakenOfUptoCard : Claim7 := { stood := { row := fnExactTakenOfUptoRow, standIns := [], harness := (true, "7a1c97b36f7d6c6c85c323f4be1b3a7438ff3b2006a49c683c6e7e35e5dd7985"), looks := true }, kinds := [], alts := [], laidByText := true, laidKinds := [.handle], laidTests := true, laidLooks := .later }
def FnExactTakenOfUptoCardSaid : Prop := Claim7.holds Tryd.pinned (.plain (OpenSpec.upto fnExactTakenOfSpec)) fnExactTakenOfUptoCard

/-- THE SECOND FORM's CARD OF 'laws.FnExactTakenValue'. -/
def fnExactTakenValueUptoCard : Claim7 := { stood := { row := fnExactTakenValueUptoRow, standIns := [], harness := (true, "7a1c97b36f7d6c6c85c323f4be1b3a7438ff3b2006a49c683c6e7e35e5dd7985"), looks := true }, kinds := [], alts := [], laidByText := true, laidKinds := [.handle], laidTests := true, laidLooks := .later }
def FnExactTakenValueUptoCardSaid : Prop := Claim7.holds Tryd.pinned (.plain (OpenSpec.upto fnExactTakenValueSpec)) fnExactTakenValueUptoCard

/-- THE SECOND FORM's CARD OF 'laws.FnExactTakenSize'. -/
def fnExactTakenSizeUptoCard : Claim7 := { stood := { row := fnExactTakenSizeUptoRow, standIns := [], harness := (true, "7a1c97b36f7d6c6c85c323f4be1b3a7438ff3b2006a49c683c6e7e35e5dd7985"), looks := true }, kinds := [], alts := [], laidByText := true, laidKinds := [.handle], laidTests := true, laidLooks := .later }
def FnExactTakenSizeUptoCardSaid : Prop := Claim7.holds Tryd.pinned (.plain (OpenSpec.upto fnExactTakenSizeSpec)) fnExactTakenSizeUptoCard

/-- THE SECOND FORM's CARD OF 'laws.FnExactTakenSaved'. -/
def fnExactTakenSavedUptoCard : Claim7 := { stood := { row := fnExactTakenSavedUptoRow, standIns := [], harness := (true, "7a1c97b36f7d6c6c85c323f4be1b3a7438ff3b2006a49c683c6e7e35e5dd7985"), looks := true }, kinds := [], alts := [], laidByText := true, laidKinds := [.handle], laidTests := true, laidLooks := .later }
def FnExactTakenSavedUptoCardSaid : Prop := Claim7.holds Tryd.pinned (.plain (OpenSpec.upto fnExactTakenSavedSpec)) fnExactTakenSavedUptoCard

/-- THE SECOND FORM's CARD OF 'laws.FnExactTakenMost'. -/
def fnExactTakenMostUptoCard : Claim7 := { stood := { row := fnExactTakenMostUptoRow, standIns := [], harness := (true, "7a1c97b36f7d6c6c85c323f4be1b3a7438ff3b2006a49c683c6e7e35e5dd7985"), looks := true }, kinds := [], alts := [], laidByText := true, laidKinds := [.handle], laidTests := true, laidLooks := .later }
def FnExactTakenMostUptoCardSaid : Prop := Claim7.holds Tryd.pinned (.plain (OpenSpec.upto fnExactTakenMostSpec)) fnExactTakenMostUptoCard

/-- THE SECOND FORM's CARD OF 'laws.FnExactTakenTurned'. -/
def fnExactTakenTurnedUptoCard : Claim7 := { stood := { row := fnExactTakenTurnedUptoRow, standIns := [], harness := (true, "7a1c97b36f7d6c6c85c323f4be1b3a7438ff3b2006a49c683c6e7e35e5dd7985"), looks := true }, kinds := [], alts := [], laidByText := true, laidKinds := [.handle], laidTests := true, laidLooks := .later }
def FnExactTakenTurnedUptoCardSaid : Prop := Claim7.holds Tryd.pinned (.plain (OpenSpec.upto fnExactTakenTurnedSpec)) fnExactTakenTurnedUptoCard
end Rows
end Go.Proofs.YtgcalmenlcpjpaaDoor
