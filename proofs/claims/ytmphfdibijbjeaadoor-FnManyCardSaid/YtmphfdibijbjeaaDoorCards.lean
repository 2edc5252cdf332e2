/-
  DERIVED. GIVEN WITH THE SEED: THE CARDS: each row of YtmphfdibijbjeaaDoorRows.lean that lists a variable, with what it lists TIED to the program's text (the seventh form; the later family's looks); each row that meets fmt, with fmt's text TOLD by the authors' own Lean function (tested against real Go, not proved from fmt's source: count such statements apart). THE CARD IS WHAT COUNTS. Prove the row's statement (the work); the ties are given (YtmphfdibijbjeaaDoorTie.lean); close each card by the builder's one call (the guide's Derived/Test/ToyasCard.lean, 'card_holds'). Laid BY PROGRAM, IN A SANDBOX (cutbox-door.mjs). By AI agents, Wed Nov 11 2026. No macro, syntax, notation, axiom, sorry.
-/
import Derived.Test.YtmphfdibijbjeaaDoorRows
import GoSem.ClaimSeven
namespace Go.Proofs.YtmphfdibijbjeaaDoor
namespace Rows

/-- THE TIED CARD OF 'laws.FnMany'. -/
def fnManyCard : Claim7 := { stood := { row := fnManyRow, standIns := [], harness := (true, "3d475db38a35b5abd76740dcff75ab62335e3a468a4cfdb3710c87bdc0c30cb7"), looks := false }, kinds := [], alts := [], goes := true, laidByText := true, laidKinds := [.data], laidTests := true, laidLooks := .later }
def FnManyCardSaid : Prop := Claim7.holds Tryd.pinned (.plain (OpenSpec.ofChange fnManySpec)) fnManyCard

/-- THE TIED CARD OF 'laws.FnExactStrokeMany'. -/
def fnExactStrokeManyCard : Claim7 := { stood := { row := fnExactStrokeManyRow, standIns := [], harness := (true, "3d475db38a35b5abd76740dcff75ab62335e3a468a4cfdb3710c87bdc0c30cb7"), looks := false }, kinds := [], alts := [], goes := true, laidByText := true, laidKinds := [.data], laidTests := true, laidLooks := .later }
def FnExactStrokeManyCardSaid : Prop := Claim7.holds Tryd.pinned (.plain (OpenSpec.ofChange fnExactStrokeManySpec)) fnExactStrokeManyCard

/-- THE SECOND FORM's CARD OF 'laws.FnMany'. -/
def fnManyUptoCard : Claim7 := { stood := { row := fnManyUptoRow, standIns := [], harness := (true, "3d475db38a35b5abd76740dcff75ab62335e3a468a4cfdb3710c87bdc0c30cb7"), looks := false }, kinds := [], alts := [], goes := true, laidByText := true, laidKinds := [.data], laidTests := true, laidLooks := .later }
def FnManyUptoCardSaid : Prop := Claim7.holds Tryd.pinned (.plain (OpenSpec.upto fnManySpec)) fnManyUptoCard

/-- THE SECOND FORM's CARD OF 'laws.FnExactStrokeMany'. -/
def fnExactStrokeManyUptoCard : Claim7 := { stood := { row := fnExactStrokeManyUptoRow, standIns := [], harness := (true, "3d475db38a35b5abd76740dcff75ab62335e3a468a4cfdb3710c87bdc0c30cb7"), looks := false }, kinds := [], alts := [], goes := true, laidByText := true, laidKinds := [.data], laidTests := true, laidLooks := .later }
def FnExactStrokeManyUptoCardSaid : Prop := Claim7.holds Tryd.pinned (.plain (OpenSpec.upto fnExactStrokeManySpec)) fnExactStrokeManyUptoCard
end Rows
end Go.Proofs.YtmphfdibijbjeaaDoor
