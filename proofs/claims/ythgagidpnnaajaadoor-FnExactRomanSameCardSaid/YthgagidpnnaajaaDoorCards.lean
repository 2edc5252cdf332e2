/-
  DERIVED. GIVEN WITH THE SEED: THE CARDS: each row of YthgagidpnnaajaaDoorRows.lean that lists a variable, with what it lists TIED to the program's text (the seventh form; the later family's looks); each row that meets fmt, with fmt's text TOLD by the authors' own Lean function (tested against real Go, not proved from fmt's source: count such statements apart). THE CARD IS WHAT COUNTS. Prove the row's statement (the work); the ties are given (YthgagidpnnaajaaDoorTie.lean); close each card by the builder's one call (the guide's Derived/Test/ToyasCard.lean, 'card_holds'). Laid BY PROGRAM, IN A SANDBOX (cutbox-door.mjs). By AI agents, Wed Nov 11 2026. No macro, syntax, notation, axiom, sorry.
-/
import Derived.Test.YthgagidpnnaajaaDoorRows
import GoSem.ClaimSeven
namespace Go.Proofs.YthgagidpnnaajaaDoor
namespace Rows

/-- THE TIED CARD OF 'laws.FnRoman'. -/
def fnRomanCard : Claim7 := { stood := { row := fnRomanRow, standIns := [], harness := (true, "9f64df07c7074a19bd5bb203f17d5691a34b68a957272f3f8e45ecf2eb3479b9"), looks := false }, kinds := [], alts := [], laidByText := true, laidKinds := [.data], laidTests := true, laidLooks := .later }
def FnRomanCardSaid : Prop := Claim7.holds Tryd.pinned (.plain (OpenSpec.ofChange fnRomanSpec)) fnRomanCard

/-- THE TIED CARD OF 'laws.FnLoose'. -/
def fnLooseCard : Claim7 := { stood := { row := fnLooseRow, standIns := [], harness := (true, "9f64df07c7074a19bd5bb203f17d5691a34b68a957272f3f8e45ecf2eb3479b9"), looks := false }, kinds := [], alts := [], laidByText := true, laidKinds := [.data], laidTests := true, laidLooks := .later }
def FnLooseCardSaid : Prop := Claim7.holds Tryd.pinned (.plain (OpenSpec.ofChange fnLooseSpec)) fnLooseCard

/-- THE TIED CARD OF 'laws.FnStrict'. -/
def fnStrictCard : Claim7 := { stood := { row := fnStrictRow, standIns := [], harness := (true, "9f64df07c7074a19bd5bb203f17d5691a34b68a957272f3f8e45ecf2eb3479b9"), looks := false }, kinds := [], alts := [], laidByText := true, laidKinds := [.data], laidTests := true, laidLooks := .later }
def FnStrictCardSaid : Prop := Claim7.holds Tryd.pinned (.plain (OpenSpec.ofChange fnStrictSpec)) fnStrictCard

/-- THE TIED CARD OF 'laws.FnShort'. -/
def fnShortCard : Claim7 := { stood := { row := fnShortRow, standIns := [], harness := (true, "9f64df07c7074a19bd5bb203f17d5691a34b68a957272f3f8e45ecf2eb3479b9"), looks := false }, kinds := [], alts := [], laidByText := true, laidKinds := [.data], laidTests := true, laidLooks := .later }
def FnShortCardSaid : Prop := Claim7.holds Tryd.pinned (.plain (OpenSpec.ofChange fnShortSpec)) fnShortCard

/-- THE TIED CARD OF 'laws.FnAdd'. -/
def fnAddCard : Claim7 := { stood := { row := fnAddRow, standIns := [], harness := (true, "9f64df07c7074a19bd5bb203f17d5691a34b68a957272f3f8e45ecf2eb3479b9"), looks := false }, kinds := [], alts := [], laidByText := true, laidKinds := [.data], laidTests := true, laidLooks := .later }
def FnAddCardSaid : Prop := Claim7.holds Tryd.pinned (.plain (OpenSpec.ofChange fnAddSpec)) fnAddCard

/-- THE TIED CARD OF 'laws.FnPiled'. -/
def fnPiledCard : Claim7 := { stood := { row := fnPiledRow, standIns := [], harness := (true, "9f64df07c7074a19bd5bb203f17d5691a34b68a957272f3f8e45ecf2eb3479b9"), looks := false }, kinds := [], alts := [], laidByText := true, laidKinds := [.data], laidTests := true, laidLooks := .later }
def FnPiledCardSaid : Prop := Claim7.holds Tryd.pinned (.plain (OpenSpec.ofChange fnPiledSpec)) fnPiledCard

/-- THE TIED CARD OF 'laws.FnRomanSame'. -/
def fnRomanSameCard : Claim7 := { stood := { row := fnRomanSameRow, standIns := [], harness := (true, "9f64df07c7074a19bd5bb203f17d5691a34b68a957272f3f8e45ecf2eb3479b9"), looks := false }, kinds := [], alts := [], laidByText := true, laidKinds := [.data], laidTests := true, laidLooks := .later }
def FnRomanSameCardSaid : Prop := Claim7.holds Tryd.pinned (.plain (OpenSpec.ofChange fnRomanSameSpec)) fnRomanSameCard

/-- THE TIED CARD OF 'laws.FnExactRomanLoose'. -/
def fnExactRomanLooseCard : Claim7 := { stood := { row := fnExactRomanLooseRow, standIns := [], harness := (true, "9f64df07c7074a19bd5bb203f17d5691a34b68a957272f3f8e45ecf2eb3479b9"), looks := false }, kinds := [], alts := [], laidByText := true, laidKinds := [.data], laidTests := true, laidLooks := .later }
def FnExactRomanLooseCardSaid : Prop := Claim7.holds Tryd.pinned (.plain (OpenSpec.ofChange fnExactRomanLooseSpec)) fnExactRomanLooseCard

/-- THE TIED CARD OF 'laws.FnExactRomanStrict'. -/
def fnExactRomanStrictCard : Claim7 := { stood := { row := fnExactRomanStrictRow, standIns := [], harness := (true, "9f64df07c7074a19bd5bb203f17d5691a34b68a957272f3f8e45ecf2eb3479b9"), looks := false }, kinds := [], alts := [], laidByText := true, laidKinds := [.data], laidTests := true, laidLooks := .later }
def FnExactRomanStrictCardSaid : Prop := Claim7.holds Tryd.pinned (.plain (OpenSpec.ofChange fnExactRomanStrictSpec)) fnExactRomanStrictCard

/-- THE TIED CARD OF 'laws.FnExactRomanShort'. -/
def fnExactRomanShortCard : Claim7 := { stood := { row := fnExactRomanShortRow, standIns := [], harness := (true, "9f64df07c7074a19bd5bb203f17d5691a34b68a957272f3f8e45ecf2eb3479b9"), looks := false }, kinds := [], alts := [], laidByText := true, laidKinds := [.data], laidTests := true, laidLooks := .later }
def FnExactRomanShortCardSaid : Prop := Claim7.holds Tryd.pinned (.plain (OpenSpec.ofChange fnExactRomanShortSpec)) fnExactRomanShortCard

/-- THE TIED CARD OF 'laws.FnExactRomanAdd'. -/
def fnExactRomanAddCard : Claim7 := { stood := { row := fnExactRomanAddRow, standIns := [], harness := (true, "9f64df07c7074a19bd5bb203f17d5691a34b68a957272f3f8e45ecf2eb3479b9"), looks := false }, kinds := [], alts := [], laidByText := true, laidKinds := [.data], laidTests := true, laidLooks := .later }
def FnExactRomanAddCardSaid : Prop := Claim7.holds Tryd.pinned (.plain (OpenSpec.ofChange fnExactRomanAddSpec)) fnExactRomanAddCard

/-- THE TIED CARD OF 'laws.FnExactRomanSame'. -/
def fnExactRomanSameCard : Claim7 := { stood := { row := fnExactRomanSameRow, standIns := [], harness := (true, "9f64df07c7074a19bd5bb203f17d5691a34b68a957272f3f8e45ecf2eb3479b9"), looks := false }, kinds := [], alts := [], laidByText := true, laidKinds := [.data], laidTests := true, laidLooks := .later }
def FnExactRomanSameCardSaid : Prop := Claim7.holds Tryd.pinned (.plain (OpenSpec.ofChange fnExactRomanSameSpec)) fnExactRomanSameCard

/-- THE SECOND FORM's CARD OF 'laws.FnRoman'. -/
def fnRomanUptoCard : Claim7 := { stood := { row := fnRomanUptoRow, standIns := [], harness := (true, "9f64df07c7074a19bd5bb203f17d5691a34b68a957272f3f8e45ecf2eb3479b9"), looks := false }, kinds := [], alts := [], laidByText := true, laidKinds := [.data], laidTests := true, laidLooks := .later }
def FnRomanUptoCardSaid : Prop := Claim7.holds Tryd.pinned (.plain (OpenSpec.upto fnRomanSpec)) fnRomanUptoCard

/-- THE SECOND FORM's CARD OF 'laws.FnLoose'. -/
def fnLooseUptoCard : Claim7 := { stood := { row := fnLooseUptoRow, standIns := [], harness := (true, "9f64df07c7074a19bd5bb203f17d5691a34b68a957272f3f8e45ecf2eb3479b9"), looks := false }, kinds := [], alts := [], laidByText := true, laidKinds := [.data], laidTests := true, laidLooks := .later }
def FnLooseUptoCardSaid : Prop := Claim7.holds Tryd.pinned (.plain (OpenSpec.upto fnLooseSpec)) fnLooseUptoCard

/-- THE SECOND FORM's CARD OF 'laws.FnStrict'. -/
def fnStrictUptoCard : Claim7 := { stood := { row := fnStrictUptoRow, standIns := [], harness := (true, "9f64df07c7074a19bd5bb203f17d5691a34b68a957272f3f8e45ecf2eb3479b9"), looks := false }, kinds := [], alts := [], laidByText := true, laidKinds := [.data], laidTests := true, laidLooks := .later }
def FnStrictUptoCardSaid : Prop := Claim7.holds Tryd.pinned (.plain (OpenSpec.upto fnStrictSpec)) fnStrictUptoCard

/-- THE SECOND FORM's CARD OF 'laws.FnShort'. -/
def fnShortUptoCard : Claim7 := { stood := { row := fnShortUptoRow, standIns := [], harness := (true, "9f64df07c7074a19bd5bb203f17d5691a34b68a957272f3f8e45ecf2eb3479b9"), looks := false }, kinds := [], alts := [], laidByText := true, laidKinds := [.data], laidTests := true, laidLooks := .later }
def FnShortUptoCardSaid : Prop := Claim7.holds Tryd.pinned (.plain (OpenSpec.upto fnShortSpec)) fnShortUptoCard

/-- THE SECOND FORM's CARD OF 'laws.FnAdd'. -/
def fnAddUptoCard : Claim7 := { stood := { row := fnAddUptoRow, standIns := [], harness := (true, "9f64df07c7074a19bd5bb203f17d5691a34b68a957272f3f8e45ecf2eb3479b9"), looks := false }, kinds := [], alts := [], laidByText := true, laidKinds := [.data], laidTests := true, laidLooks := .later }
def FnAddUptoCardSaid : Prop := Claim7.holds Tryd.pinned (.plain (OpenSpec.upto fnAddSpec)) fnAddUptoCard

/-- THE SECOND FORM's CARD OF 'laws.FnPiled'. -/
def fnPiledUptoCard : Claim7 := { stood := { row := fnPiledUptoRow, standIns := [], harness := (true, "9f64df07c7074a19bd5bb203f17d5691a34b68a957272f3f8e45ecf2eb3479b9"), looks := false }, kinds := [], alts := [], laidByText := true, laidKinds := [.data], laidTests := true, laidLooks := .later }
def FnPiledUptoCardSaid : Prop := Claim7.holds Tryd.pinned (.plain (OpenSpec.upto fnPiledSpec)) fnPiledUptoCard

/-- THE SECOND FORM's CARD OF 'laws.FnRomanSame'. -/
def fnRomanSameUptoCard : Claim7 := { stood := { row := fnRomanSameUptoRow, standIns := [], harness := (true, "9f64df07c7074a19bd5bb203f17d5691a34b68a957272f3f8e45ecf2eb3479b9"), looks := false }, kinds := [], alts := [], laidByText := true, laidKinds := [.data], laidTests := true, laidLooks := .later }
def FnRomanSameUptoCardSaid : Prop := Claim7.holds Tryd.pinned (.plain (OpenSpec.upto fnRomanSameSpec)) fnRomanSameUptoCard

/-- THE SECOND FORM's CARD OF 'laws.FnExactRomanLoose'. -/
def fnExactRomanLooseUptoCard : Claim7 := { stood := { row := fnExactRomanLooseUptoRow, standIns := [], harness := (true, "9f64df07c7074a19bd5bb203f17d5691a34b68a957272f3f8e45ecf2eb3479b9"), looks := false }, kinds := [], alts := [], laidByText := true, laidKinds := [.data], laidTests := true, laidLooks := .later }
def FnExactRomanLooseUptoCardSaid : Prop := Claim7.holds Tryd.pinned (.plain (OpenSpec.upto fnExactRomanLooseSpec)) fnExactRomanLooseUptoCard

/-- THE SECOND FORM's CARD OF 'laws.FnExactRomanStrict'. -/
def fnExactRomanStrictUptoCard : Claim7 := { stood := { row := fnExactRomanStrictUptoRow, standIns := [], harness := (true, "9f64df07c7074a19bd5bb203f17d5691a34b68a957272f3f8e45ecf2eb3479b9"), looks := false }, kinds := [], alts := [], laidByText := true, laidKinds := [.data], laidTests := true, laidLooks := .later }
def FnExactRomanStrictUptoCardSaid : Prop := Claim7.holds Tryd.pinned (.plain (OpenSpec.upto fnExactRomanStrictSpec)) fnExactRomanStrictUptoCard

/-- THE SECOND FORM's CARD OF 'laws.FnExactRomanShort'. -/
def fnExactRomanShortUptoCard : Claim7 := { stood := { row := fnExactRomanShortUptoRow, standIns := [], harness := (true, "9f64df07c7074a19bd5bb203f17d5691a34b68a957272f3f8e45ecf2eb3479b9"), looks := false }, kinds := [], alts := [], laidByText := true, laidKinds := [.data], laidTests := true, laidLooks := .later }
def FnExactRomanShortUptoCardSaid : Prop := Claim7.holds Tryd.pinned (.plain (OpenSpec.upto fnExactRomanShortSpec)) fnExactRomanShortUptoCard

/-- THE SECOND FORM's CARD OF 'laws.FnExactRomanAdd'. -/
def fnExactRomanAddUptoCard : Claim7 := { stood := { row := fnExactRomanAddUptoRow, standIns := [], harness := (true, "9f64df07c7074a19bd5bb203f17d5691a34b68a957272f3f8e45ecf2eb3479b9"), looks := false }, kinds := [], alts := [], laidByText := true, laidKinds := [.data], laidTests := true, laidLooks := .later }
def FnExactRomanAddUptoCardSaid : Prop := Claim7.holds Tryd.pinned (.plain (OpenSpec.upto fnExactRomanAddSpec)) fnExactRomanAddUptoCard

/-- THE SECOND FORM's CARD OF 'laws.FnExactRomanSame'. -/
def fnExactRomanSameUptoCard : Claim7 := { stood := { row := fnExactRomanSameUptoRow, standIns := [], harness := (true, "9f64df07c7074a19bd5bb203f17d5691a34b68a957272f3f8e45ecf2eb3479b9"), looks := false }, kinds := [], alts := [], laidByText := true, laidKinds := [.data], laidTests := true, laidLooks := .later }
def FnExactRomanSameUptoCardSaid : Prop := Claim7.holds Tryd.pinned (.plain (OpenSpec.upto fnExactRomanSameSpec)) fnExactRomanSameUptoCard
end Rows
end Go.Proofs.YthgagidpnnaajaaDoor
