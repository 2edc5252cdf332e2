/-
  DERIVED. GIVEN WITH THE SEED: THE CARDS: each row of YtejhiilkbckobaaDoorRows.lean that lists a variable, with what it lists TIED to the program's text (the seventh form; the later family's looks); each row that meets fmt, with fmt's text TOLD by the authors' own Lean function (tested against real Go, not proved from fmt's source: count such statements apart). THE CARD IS WHAT COUNTS. Prove the row's statement (the work); the ties are given (YtejhiilkbckobaaDoorTie.lean); close each card by the builder's one call (the guide's Derived/Test/ToyasCard.lean, 'card_holds'). Laid BY PROGRAM, IN A SANDBOX (cutbox-door.mjs). By AI agents, Wed Nov 11 2026. No macro, syntax, notation, axiom, sorry.
-/
import Derived.Test.YtejhiilkbckobaaDoorRows
import GoSem.ClaimSeven
namespace Go.Proofs.YtejhiilkbckobaaDoor
namespace Rows

/-- THE TIED CARD OF 'laws.FnClay'. -/
def fnClayCard : Claim7 := { stood := { row := fnClayRow, standIns := [], harness := (true, "6944c9a6bc06dc5df216b4e63756b79e495a72ece75992501e1fe54018e42920"), looks := false }, kinds := [], alts := [], laidByText := true, laidKinds := [.data, .pinned], laidTests := true, laidLooks := .later }
def FnClayCardSaid : Prop := Claim7.holds Tryd.pinned (.plain (OpenSpec.ofChange fnClaySpec)) fnClayCard

/-- THE TIED CARD OF 'laws.FnClayRead'. -/
def fnClayReadCard : Claim7 := { stood := { row := fnClayReadRow, standIns := [], harness := (true, "6944c9a6bc06dc5df216b4e63756b79e495a72ece75992501e1fe54018e42920"), looks := false }, kinds := [], alts := [], laidByText := true, laidKinds := [.data, .pinned], laidTests := true, laidLooks := .later }
def FnClayReadCardSaid : Prop := Claim7.holds Tryd.pinned (.plain (OpenSpec.ofChange fnClayReadSpec)) fnClayReadCard

/-- THE TIED CARD OF 'laws.FnExactPlaceRead'. -/
def fnExactPlaceReadCard : Claim7 := { stood := { row := fnExactPlaceReadRow, standIns := [], harness := (true, "6944c9a6bc06dc5df216b4e63756b79e495a72ece75992501e1fe54018e42920"), looks := false }, kinds := [], alts := [], laidByText := true, laidKinds := [.data, .pinned], laidTests := true, laidLooks := .later }
def FnExactPlaceReadCardSaid : Prop := Claim7.holds Tryd.pinned (.plain (OpenSpec.ofChange fnExactPlaceReadSpec)) fnExactPlaceReadCard

/-- THE TIED CARD OF 'laws.FnExactPlaceReadings'. -/
def fnExactPlaceReadingsCard : Claim7 := { stood := { row := fnExactPlaceReadingsRow, standIns := [], harness := (true, "6944c9a6bc06dc5df216b4e63756b79e495a72ece75992501e1fe54018e42920"), looks := false }, kinds := [], alts := [], laidByText := true, laidKinds := [.data, .pinned], laidTests := true, laidLooks := .later }
def FnExactPlaceReadingsCardSaid : Prop := Claim7.holds Tryd.pinned (.plain (OpenSpec.ofChange fnExactPlaceReadingsSpec)) fnExactPlaceReadingsCard

/-- THE TIED CARD OF 'laws.FnReadings'. -/
def fnReadingsCard : Claim7 := { stood := { row := fnReadingsRow, standIns := [], harness := (true, "6944c9a6bc06dc5df216b4e63756b79e495a72ece75992501e1fe54018e42920"), looks := false }, kinds := [], alts := [], laidByText := true, laidKinds := [.data, .pinned], laidTests := true, laidLooks := .later }
def FnReadingsCardSaid : Prop := Claim7.holds Tryd.pinned (.plain (OpenSpec.ofChange fnReadingsSpec)) fnReadingsCard

/-- THE SECOND FORM's CARD OF 'laws.FnClay'. -/
def fnClayUptoCard : Claim7 := { stood := { row := fnClayUptoRow, standIns := [], harness := (true, "6944c9a6bc06dc5df216b4e63756b79e495a72ece75992501e1fe54018e42920"), looks := false }, kinds := [], alts := [], laidByText := true, laidKinds := [.data, .pinned], laidTests := true, laidLooks := .later }
def FnClayUptoCardSaid : Prop := Claim7.holds Tryd.pinned (.plain (OpenSpec.upto fnClaySpec)) fnClayUptoCard

/-- THE SECOND FORM's CARD OF 'laws.FnClayRead'. -/
def fnClayReadUptoCard : Claim7 := { stood := { row := fnClayReadUptoRow, standIns := [], harness := (true, "6944c9a6bc06dc5df216b4e63756b79e495a72ece75992501e1fe54018e42920"), looks := false }, kinds := [], alts := [], laidByText := true, laidKinds := [.data, .pinned], laidTests := true, laidLooks := .later }
def FnClayReadUptoCardSaid : Prop := Claim7.holds Tryd.pinned (.plain (OpenSpec.upto fnClayReadSpec)) fnClayReadUptoCard

/-- THE SECOND FORM's CARD OF 'laws.FnExactPlaceRead'. -/
def fnExactPlaceReadUptoCard : Claim7 := { stood := { row := fnExactPlaceReadUptoRow, standIns := [], harness := (true, "6944c9a6bc06dc5df216b4e63756b79e495a72ece75992501e1fe54018e42920"), looks := false }, kinds := [], alts := [], laidByText := true, laidKinds := [.data, .pinned], laidTests := true, laidLooks := .later }
def FnExactPlaceReadUptoCardSaid : Prop := Claim7.holds Tryd.pinned (.plain (OpenSpec.upto fnExactPlaceReadSpec)) fnExactPlaceReadUptoCard

/-- THE SECOND FORM's CARD OF 'laws.FnExactPlaceReadings'. -/
def fnExactPlaceReadingsUptoCard : Claim7 := { stood := { row := fnExactPlaceReadingsUptoRow, standIns := [], harness := (true, "6944c9a6bc06dc5df216b4e63756b79e495a72ece75992501e1fe54018e42920"), looks := false }, kinds := [], alts := [], laidByText := true, laidKinds := [.data, .pinned], laidTests := true, laidLooks := .later }
def FnExactPlaceReadingsUptoCardSaid : Prop := Claim7.holds Tryd.pinned (.plain (OpenSpec.upto fnExactPlaceReadingsSpec)) fnExactPlaceReadingsUptoCard

/-- THE SECOND FORM's CARD OF 'laws.FnReadings'. -/
def fnReadingsUptoCard : Claim7 := { stood := { row := fnReadingsUptoRow, standIns := [], harness := (true, "6944c9a6bc06dc5df216b4e63756b79e495a72ece75992501e1fe54018e42920"), looks := false }, kinds := [], alts := [], laidByText := true, laidKinds := [.data, .pinned], laidTests := true, laidLooks := .later }
def FnReadingsUptoCardSaid : Prop := Claim7.holds Tryd.pinned (.plain (OpenSpec.upto fnReadingsSpec)) fnReadingsUptoCard
end Rows
end Go.Proofs.YtejhiilkbckobaaDoor
