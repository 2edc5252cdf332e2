/-
  DERIVED. GIVEN WITH THE SEED: THE CARDS: each row of YtdokdlcmplggfaaDoorRows.lean that lists a variable, with what it lists TIED to the program's text (the seventh form; the later family's looks); each row that meets fmt, with fmt's text TOLD by the authors' own Lean function (tested against real Go, not proved from fmt's source: count such statements apart). THE CARD IS WHAT COUNTS. Prove the row's statement (the work); the ties are given (YtdokdlcmplggfaaDoorTie.lean); close each card by the builder's one call (the guide's Derived/Test/ToyasCard.lean, 'card_holds'). Laid BY PROGRAM, IN A SANDBOX (cutbox-door.mjs). By AI agents, Wed Nov 11 2026. No macro, syntax, notation, axiom, sorry.
-/
import Derived.Test.YtdokdlcmplggfaaDoorRows
import GoSem.ClaimSeven
namespace Go.Proofs.YtdokdlcmplggfaaDoor
namespace Rows

/-- THE TIED CARD OF 'laws.FnStroke'. -/
def fnStrokeCard : Claim7 := { stood := { row := fnStrokeRow, standIns := [], harness := (true, "73898912a8937701c15af45366a9751b20bacef1c47842d72a8c0ec90062df40"), looks := false }, kinds := [], alts := [], laidByText := true, laidKinds := [.data], laidTests := true, laidLooks := .later }
def FnStrokeCardSaid : Prop := Claim7.holds Tryd.pinned (.plain (OpenSpec.ofChange fnStrokeSpec)) fnStrokeCard

/-- THE TIED CARD OF 'laws.FnStrokeRead'. -/
def fnStrokeReadCard : Claim7 := { stood := { row := fnStrokeReadRow, standIns := [], harness := (true, "73898912a8937701c15af45366a9751b20bacef1c47842d72a8c0ec90062df40"), looks := false }, kinds := [], alts := [], laidByText := true, laidKinds := [.data], laidTests := true, laidLooks := .later }
def FnStrokeReadCardSaid : Prop := Claim7.holds Tryd.pinned (.plain (OpenSpec.ofChange fnStrokeReadSpec)) fnStrokeReadCard

/-- THE TIED CARD OF 'laws.FnStrokes'. -/
def fnStrokesCard : Claim7 := { stood := { row := fnStrokesRow, standIns := [], harness := (true, "73898912a8937701c15af45366a9751b20bacef1c47842d72a8c0ec90062df40"), looks := false }, kinds := [], alts := [], laidByText := true, laidKinds := [.data, .data, .data], laidTests := true, laidLooks := .later }
def FnStrokesCardSaid : Prop := Claim7.holds Tryd.pinned (.plain (OpenSpec.ofChange fnStrokesSpec)) fnStrokesCard

/-- THE TIED CARD OF 'laws.FnStrokeTurned'. -/
def fnStrokeTurnedCard : Claim7 := { stood := { row := fnStrokeTurnedRow, standIns := [], harness := (true, "73898912a8937701c15af45366a9751b20bacef1c47842d72a8c0ec90062df40"), looks := false }, kinds := [], alts := [], laidByText := true, laidKinds := [.data, .data, .data], laidTests := true, laidLooks := .later }
def FnStrokeTurnedCardSaid : Prop := Claim7.holds Tryd.pinned (.plain (OpenSpec.ofChange fnStrokeTurnedSpec)) fnStrokeTurnedCard

/-- THE TIED CARD OF 'laws.FnMirror'. -/
def fnMirrorCard : Claim7 := { stood := { row := fnMirrorRow, standIns := [], harness := (true, "73898912a8937701c15af45366a9751b20bacef1c47842d72a8c0ec90062df40"), looks := false }, kinds := [], alts := [], laidByText := true, laidKinds := [.data, .data], laidTests := true, laidLooks := .later }
def FnMirrorCardSaid : Prop := Claim7.holds Tryd.pinned (.plain (OpenSpec.ofChange fnMirrorSpec)) fnMirrorCard

/-- THE TIED CARD OF 'laws.FnNear'. -/
def fnNearCard : Claim7 := { stood := { row := fnNearRow, standIns := [], harness := (true, "73898912a8937701c15af45366a9751b20bacef1c47842d72a8c0ec90062df40"), looks := false }, kinds := [], alts := [], laidByText := true, laidKinds := [.data], laidTests := true, laidLooks := .later }
def FnNearCardSaid : Prop := Claim7.holds Tryd.pinned (.plain (OpenSpec.ofChange fnNearSpec)) fnNearCard

/-- THE TIED CARD OF 'laws.FnExactStrokeOf'. -/
def fnExactStrokeOfCard : Claim7 := { stood := { row := fnExactStrokeOfRow, standIns := [], harness := (true, "73898912a8937701c15af45366a9751b20bacef1c47842d72a8c0ec90062df40"), looks := false }, kinds := [], alts := [], laidByText := true, laidKinds := [.data], laidTests := true, laidLooks := .later }
def FnExactStrokeOfCardSaid : Prop := Claim7.holds Tryd.pinned (.plain (OpenSpec.ofChange fnExactStrokeOfSpec)) fnExactStrokeOfCard

/-- THE TIED CARD OF 'laws.FnExactStrokeRead'. -/
def fnExactStrokeReadCard : Claim7 := { stood := { row := fnExactStrokeReadRow, standIns := [], harness := (true, "73898912a8937701c15af45366a9751b20bacef1c47842d72a8c0ec90062df40"), looks := false }, kinds := [], alts := [], laidByText := true, laidKinds := [.data], laidTests := true, laidLooks := .later }
def FnExactStrokeReadCardSaid : Prop := Claim7.holds Tryd.pinned (.plain (OpenSpec.ofChange fnExactStrokeReadSpec)) fnExactStrokeReadCard

/-- THE TIED CARD OF 'laws.FnExactStrokeCount'. -/
def fnExactStrokeCountCard : Claim7 := { stood := { row := fnExactStrokeCountRow, standIns := [], harness := (true, "73898912a8937701c15af45366a9751b20bacef1c47842d72a8c0ec90062df40"), looks := false }, kinds := [], alts := [], laidByText := true, laidKinds := [.data], laidTests := true, laidLooks := .later }
def FnExactStrokeCountCardSaid : Prop := Claim7.holds Tryd.pinned (.plain (OpenSpec.ofChange fnExactStrokeCountSpec)) fnExactStrokeCountCard

/-- THE TIED CARD OF 'laws.FnExactStrokeTurned'. -/
def fnExactStrokeTurnedCard : Claim7 := { stood := { row := fnExactStrokeTurnedRow, standIns := [], harness := (true, "73898912a8937701c15af45366a9751b20bacef1c47842d72a8c0ec90062df40"), looks := false }, kinds := [], alts := [], laidByText := true, laidKinds := [.data, .data], laidTests := true, laidLooks := .later }
def FnExactStrokeTurnedCardSaid : Prop := Claim7.holds Tryd.pinned (.plain (OpenSpec.ofChange fnExactStrokeTurnedSpec)) fnExactStrokeTurnedCard

/-- THE TIED CARD OF 'laws.FnExactStrokeMirror'. -/
def fnExactStrokeMirrorCard : Claim7 := { stood := { row := fnExactStrokeMirrorRow, standIns := [], harness := (true, "73898912a8937701c15af45366a9751b20bacef1c47842d72a8c0ec90062df40"), looks := false }, kinds := [], alts := [], laidByText := true, laidKinds := [.data, .data], laidTests := true, laidLooks := .later }
def FnExactStrokeMirrorCardSaid : Prop := Claim7.holds Tryd.pinned (.plain (OpenSpec.ofChange fnExactStrokeMirrorSpec)) fnExactStrokeMirrorCard

/-- THE TIED CARD OF 'laws.FnExactStrokeNear'. -/
def fnExactStrokeNearCard : Claim7 := { stood := { row := fnExactStrokeNearRow, standIns := [], harness := (true, "73898912a8937701c15af45366a9751b20bacef1c47842d72a8c0ec90062df40"), looks := false }, kinds := [], alts := [], laidByText := true, laidKinds := [.data], laidTests := true, laidLooks := .later }
def FnExactStrokeNearCardSaid : Prop := Claim7.holds Tryd.pinned (.plain (OpenSpec.ofChange fnExactStrokeNearSpec)) fnExactStrokeNearCard

/-- THE SECOND FORM's CARD OF 'laws.FnStroke'. -/
def fnStrokeUptoCard : Claim7 := { stood := { row := fnStrokeUptoRow, standIns := [], harness := (true, "73898912a8937701c15af45366a9751b20bacef1c47842d72a8c0ec90062df40"), looks := false }, kinds := [], alts := [], laidByText := true, laidKinds := [.data], laidTests := true, laidLooks := .later }
def FnStrokeUptoCardSaid : Prop := Claim7.holds Tryd.pinned (.plain (OpenSpec.upto fnStrokeSpec)) fnStrokeUptoCard

/-- THE SECOND FORM's CARD OF 'laws.FnStrokeRead'. -/
def fnStrokeReadUptoCard : Claim7 := { stood := { row := fnStrokeReadUptoRow, standIns := [], harness := (true, "73898912a8937701c15af45366a9751b20bacef1c47842d72a8c0ec90062df40"), looks := false }, kinds := [], alts := [], laidByText := true, laidKinds := [.data], laidTests := true, laidLooks := .later }
def FnStrokeReadUptoCardSaid : Prop := Claim7.holds Tryd.pinned (.plain (OpenSpec.upto fnStrokeReadSpec)) fnStrokeReadUptoCard

/-- THE SECOND FORM's CARD OF 'laws.FnStrokes'. -/
def fnStrokesUptoCard : Claim7 := { stood := { row := fnStrokesUptoRow, standIns := [], harness := (true, "73898912a8937701c15af45366a9751b20bacef1c47842d72a8c0ec90062df40"), looks := false }, kinds := [], alts := [], laidByText := true, laidKinds := [.data, .data, .data], laidTests := true, laidLooks := .later }
def FnStrokesUptoCardSaid : Prop := Claim7.holds Tryd.pinned (.plain (OpenSpec.upto fnStrokesSpec)) fnStrokesUptoCard

/-- THE SECOND FORM's CARD OF 'laws.FnStrokeTurned'. -/
def fnStrokeTurnedUptoCard : Claim7 := { stood := { row := fnStrokeTurnedUptoRow, standIns := [], harness := (true, "73898912a8937701c15af45366a9751b20bacef1c47842d72a8c0ec90062df40"), looks := false }, kinds := [], alts := [], laidByText := true, laidKinds := [.data, .data, .data], laidTests := true, laidLooks := .later }
def FnStrokeTurnedUptoCardSaid : Prop := Claim7.holds Tryd.pinned (.plain (OpenSpec.upto fnStrokeTurnedSpec)) fnStrokeTurnedUptoCard

/-- THE SECOND FORM's CARD OF 'laws.FnMirror'. -/
def fnMirrorUptoCard : Claim7 := { stood := { row := fnMirrorUptoRow, standIns := [], harness := (true, "73898912a8937701c15af45366a9751b20bacef1c47842d72a8c0ec90062df40"), looks := false }, kinds := [], alts := [], laidByText := true, laidKinds := [.data, .data], laidTests := true, laidLooks := .later }
def FnMirrorUptoCardSaid : Prop := Claim7.holds Tryd.pinned (.plain (OpenSpec.upto fnMirrorSpec)) fnMirrorUptoCard

/-- THE SECOND FORM's CARD OF 'laws.FnNear'. -/
def fnNearUptoCard : Claim7 := { stood := { row := fnNearUptoRow, standIns := [], harness := (true, "73898912a8937701c15af45366a9751b20bacef1c47842d72a8c0ec90062df40"), looks := false }, kinds := [], alts := [], laidByText := true, laidKinds := [.data], laidTests := true, laidLooks := .later }
def FnNearUptoCardSaid : Prop := Claim7.holds Tryd.pinned (.plain (OpenSpec.upto fnNearSpec)) fnNearUptoCard

/-- THE SECOND FORM's CARD OF 'laws.FnExactStrokeOf'. -/
def fnExactStrokeOfUptoCard : Claim7 := { stood := { row := fnExactStrokeOfUptoRow, standIns := [], harness := (true, "73898912a8937701c15af45366a9751b20bacef1c47842d72a8c0ec90062df40"), looks := false }, kinds := [], alts := [], laidByText := true, laidKinds := [.data], laidTests := true, laidLooks := .later }
def FnExactStrokeOfUptoCardSaid : Prop := Claim7.holds Tryd.pinned (.plain (OpenSpec.upto fnExactStrokeOfSpec)) fnExactStrokeOfUptoCard

/-- THE SECOND FORM's CARD OF 'laws.FnExactStrokeRead'. -/
def fnExactStrokeReadUptoCard : Claim7 := { stood := { row := fnExactStrokeReadUptoRow, standIns := [], harness := (true, "73898912a8937701c15af45366a9751b20bacef1c47842d72a8c0ec90062df40"), looks := false }, kinds := [], alts := [], laidByText := true, laidKinds := [.data], laidTests := true, laidLooks := .later }
def FnExactStrokeReadUptoCardSaid : Prop := Claim7.holds Tryd.pinned (.plain (OpenSpec.upto fnExactStrokeReadSpec)) fnExactStrokeReadUptoCard

/-- THE SECOND FORM's CARD OF 'laws.FnExactStrokeCount'. -/
def fnExactStrokeCountUptoCard : Claim7 := { stood := { row := fnExactStrokeCountUptoRow, standIns := [], harness := (true, "73898912a8937701c15af45366a9751b20bacef1c47842d72a8c0ec90062df40"), looks := false }, kinds := [], alts := [], laidByText := true, laidKinds := [.data], laidTests := true, laidLooks := .later }
def FnExactStrokeCountUptoCardSaid : Prop := Claim7.holds Tryd.pinned (.plain (OpenSpec.upto fnExactStrokeCountSpec)) fnExactStrokeCountUptoCard

/-- THE SECOND FORM's CARD OF 'laws.FnExactStrokeTurned'. -/
def fnExactStrokeTurnedUptoCard : Claim7 := { stood := { row := fnExactStrokeTurnedUptoRow, standIns := [], harness := (true, "73898912a8937701c15af45366a9751b20bacef1c47842d72a8c0ec90062df40"), looks := false }, kinds := [], alts := [], laidByText := true, laidKinds := [.data, .data], laidTests := true, laidLooks := .later }
def FnExactStrokeTurnedUptoCardSaid : Prop := Claim7.holds Tryd.pinned (.plain (OpenSpec.upto fnExactStrokeTurnedSpec)) fnExactStrokeTurnedUptoCard

/-- THE SECOND FORM's CARD OF 'laws.FnExactStrokeMirror'. -/
def fnExactStrokeMirrorUptoCard : Claim7 := { stood := { row := fnExactStrokeMirrorUptoRow, standIns := [], harness := (true, "73898912a8937701c15af45366a9751b20bacef1c47842d72a8c0ec90062df40"), looks := false }, kinds := [], alts := [], laidByText := true, laidKinds := [.data, .data], laidTests := true, laidLooks := .later }
def FnExactStrokeMirrorUptoCardSaid : Prop := Claim7.holds Tryd.pinned (.plain (OpenSpec.upto fnExactStrokeMirrorSpec)) fnExactStrokeMirrorUptoCard

/-- THE SECOND FORM's CARD OF 'laws.FnExactStrokeNear'. -/
def fnExactStrokeNearUptoCard : Claim7 := { stood := { row := fnExactStrokeNearUptoRow, standIns := [], harness := (true, "73898912a8937701c15af45366a9751b20bacef1c47842d72a8c0ec90062df40"), looks := false }, kinds := [], alts := [], laidByText := true, laidKinds := [.data], laidTests := true, laidLooks := .later }
def FnExactStrokeNearUptoCardSaid : Prop := Claim7.holds Tryd.pinned (.plain (OpenSpec.upto fnExactStrokeNearSpec)) fnExactStrokeNearUptoCard
end Rows
end Go.Proofs.YtdokdlcmplggfaaDoor
