/-
  DERIVED. GIVEN WITH THE SEED: THE CARDS: each row of YtagipmfkmikagaaDoorRows.lean that lists a variable, with what it lists TIED to the program's text (the seventh form; the later family's looks); each row that meets fmt, with fmt's text TOLD by the authors' own Lean function (tested against real Go, not proved from fmt's source: count such statements apart). THE CARD IS WHAT COUNTS. Prove the row's statement (the work); the ties are given (YtagipmfkmikagaaDoorTie.lean); close each card by the builder's one call (the guide's Derived/Test/ToyasCard.lean, 'card_holds'). Laid BY PROGRAM, IN A SANDBOX (cutbox-door.mjs). By AI agents, Wed Nov 11 2026. No macro, syntax, notation, axiom, sorry.
-/
import Derived.Test.YtagipmfkmikagaaDoorRows
import GoSem.ClaimSeven
namespace Go.Proofs.YtagipmfkmikagaaDoor
namespace Rows

/-- THE TIED CARD OF 'laws.FnExactRankLong'. -/
def fnExactRankLongCard : Claim7 := { stood := { row := fnExactRankLongRow, standIns := [], harness := (true, "6ebc1565bdef363373abd4e7d1aeeef16fcd0e4dc331ada57ff5902eec2a2191"), looks := false }, kinds := [], alts := [], laidByText := true, laidKinds := [.data], laidTests := true, laidLooks := .later }
def FnExactRankLongCardSaid : Prop := Claim7.holds Tryd.pinned (.plain (OpenSpec.ofChange fnExactRankLongSpec)) fnExactRankLongCard

/-- THE TIED CARD OF 'laws.FnExactRankNoughts'. -/
def fnExactRankNoughtsCard : Claim7 := { stood := { row := fnExactRankNoughtsRow, standIns := [], harness := (true, "6ebc1565bdef363373abd4e7d1aeeef16fcd0e4dc331ada57ff5902eec2a2191"), looks := false }, kinds := [], alts := [], laidByText := true, laidKinds := [.data], laidTests := true, laidLooks := .later }
def FnExactRankNoughtsCardSaid : Prop := Claim7.holds Tryd.pinned (.plain (OpenSpec.ofChange fnExactRankNoughtsSpec)) fnExactRankNoughtsCard

/-- THE TIED CARD OF 'laws.FnExactRankOf'. -/
def fnExactRankOfCard : Claim7 := { stood := { row := fnExactRankOfRow, standIns := [], harness := (true, "6ebc1565bdef363373abd4e7d1aeeef16fcd0e4dc331ada57ff5902eec2a2191"), looks := false }, kinds := [], alts := [], laidByText := true, laidKinds := [.data], laidTests := true, laidLooks := .later }
def FnExactRankOfCardSaid : Prop := Claim7.holds Tryd.pinned (.plain (OpenSpec.ofChange fnExactRankOfSpec)) fnExactRankOfCard

/-- THE TIED CARD OF 'laws.FnExactRankRead'. -/
def fnExactRankReadCard : Claim7 := { stood := { row := fnExactRankReadRow, standIns := [], harness := (true, "6ebc1565bdef363373abd4e7d1aeeef16fcd0e4dc331ada57ff5902eec2a2191"), looks := false }, kinds := [], alts := [], laidByText := true, laidKinds := [.data], laidTests := true, laidLooks := .later }
def FnExactRankReadCardSaid : Prop := Claim7.holds Tryd.pinned (.plain (OpenSpec.ofChange fnExactRankReadSpec)) fnExactRankReadCard

/-- THE TIED CARD OF 'laws.FnExactRankShort'. -/
def fnExactRankShortCard : Claim7 := { stood := { row := fnExactRankShortRow, standIns := [], harness := (true, "6ebc1565bdef363373abd4e7d1aeeef16fcd0e4dc331ada57ff5902eec2a2191"), looks := false }, kinds := [], alts := [], laidByText := true, laidKinds := [.data], laidTests := true, laidLooks := .later }
def FnExactRankShortCardSaid : Prop := Claim7.holds Tryd.pinned (.plain (OpenSpec.ofChange fnExactRankShortSpec)) fnExactRankShortCard

/-- THE TIED CARD OF 'laws.FnExactRankSum'. -/
def fnExactRankSumCard : Claim7 := { stood := { row := fnExactRankSumRow, standIns := [], harness := (true, "6ebc1565bdef363373abd4e7d1aeeef16fcd0e4dc331ada57ff5902eec2a2191"), looks := false }, kinds := [], alts := [], laidByText := true, laidKinds := [.data], laidTests := true, laidLooks := .later }
def FnExactRankSumCardSaid : Prop := Claim7.holds Tryd.pinned (.plain (OpenSpec.ofChange fnExactRankSumSpec)) fnExactRankSumCard

/-- THE TIED CARD OF 'laws.FnLong'. -/
def fnLongCard : Claim7 := { stood := { row := fnLongRow, standIns := [], harness := (true, "6ebc1565bdef363373abd4e7d1aeeef16fcd0e4dc331ada57ff5902eec2a2191"), looks := false }, kinds := [], alts := [], laidByText := true, laidKinds := [.data], laidTests := true, laidLooks := .later }
def FnLongCardSaid : Prop := Claim7.holds Tryd.pinned (.plain (OpenSpec.ofChange fnLongSpec)) fnLongCard

/-- THE TIED CARD OF 'laws.FnNoughts'. -/
def fnNoughtsCard : Claim7 := { stood := { row := fnNoughtsRow, standIns := [], harness := (true, "6ebc1565bdef363373abd4e7d1aeeef16fcd0e4dc331ada57ff5902eec2a2191"), looks := false }, kinds := [], alts := [], laidByText := true, laidKinds := [.data], laidTests := true, laidLooks := .later }
def FnNoughtsCardSaid : Prop := Claim7.holds Tryd.pinned (.plain (OpenSpec.ofChange fnNoughtsSpec)) fnNoughtsCard

/-- THE TIED CARD OF 'laws.FnRank'. -/
def fnRankCard : Claim7 := { stood := { row := fnRankRow, standIns := [], harness := (true, "6ebc1565bdef363373abd4e7d1aeeef16fcd0e4dc331ada57ff5902eec2a2191"), looks := false }, kinds := [], alts := [], laidByText := true, laidKinds := [.data], laidTests := true, laidLooks := .later }
def FnRankCardSaid : Prop := Claim7.holds Tryd.pinned (.plain (OpenSpec.ofChange fnRankSpec)) fnRankCard

/-- THE TIED CARD OF 'laws.FnRankRead'. -/
def fnRankReadCard : Claim7 := { stood := { row := fnRankReadRow, standIns := [], harness := (true, "6ebc1565bdef363373abd4e7d1aeeef16fcd0e4dc331ada57ff5902eec2a2191"), looks := false }, kinds := [], alts := [], laidByText := true, laidKinds := [.data], laidTests := true, laidLooks := .later }
def FnRankReadCardSaid : Prop := Claim7.holds Tryd.pinned (.plain (OpenSpec.ofChange fnRankReadSpec)) fnRankReadCard

/-- THE TIED CARD OF 'laws.FnRankShort'. -/
def fnRankShortCard : Claim7 := { stood := { row := fnRankShortRow, standIns := [], harness := (true, "6ebc1565bdef363373abd4e7d1aeeef16fcd0e4dc331ada57ff5902eec2a2191"), looks := false }, kinds := [], alts := [], laidByText := true, laidKinds := [.data], laidTests := true, laidLooks := .later }
def FnRankShortCardSaid : Prop := Claim7.holds Tryd.pinned (.plain (OpenSpec.ofChange fnRankShortSpec)) fnRankShortCard

/-- THE TIED CARD OF 'laws.FnRankSum'. -/
def fnRankSumCard : Claim7 := { stood := { row := fnRankSumRow, standIns := [], harness := (true, "6ebc1565bdef363373abd4e7d1aeeef16fcd0e4dc331ada57ff5902eec2a2191"), looks := false }, kinds := [], alts := [], laidByText := true, laidKinds := [.data], laidTests := true, laidLooks := .later }
def FnRankSumCardSaid : Prop := Claim7.holds Tryd.pinned (.plain (OpenSpec.ofChange fnRankSumSpec)) fnRankSumCard

/-- THE SECOND FORM's CARD OF 'laws.FnExactRankLong'. -/
def fnExactRankLongUptoCard : Claim7 := { stood := { row := fnExactRankLongUptoRow, standIns := [], harness := (true, "6ebc1565bdef363373abd4e7d1aeeef16fcd0e4dc331ada57ff5902eec2a2191"), looks := false }, kinds := [], alts := [], laidByText := true, laidKinds := [.data], laidTests := true, laidLooks := .later }
def FnExactRankLongUptoCardSaid : Prop := Claim7.holds Tryd.pinned (.plain (OpenSpec.upto fnExactRankLongSpec)) fnExactRankLongUptoCard

/-- THE SECOND FORM's CARD OF 'laws.FnExactRankNoughts'. -/
def fnExactRankNoughtsUptoCard : Claim7 := { stood := { row := fnExactRankNoughtsUptoRow, standIns := [], harness := (true, "6ebc1565bdef363373abd4e7d1aeeef16fcd0e4dc331ada57ff5902eec2a2191"), looks := false }, kinds := [], alts := [], laidByText := true, laidKinds := [.data], laidTests := true, laidLooks := .later }
def FnExactRankNoughtsUptoCardSaid : Prop := Claim7.holds Tryd.pinned (.plain (OpenSpec.upto fnExactRankNoughtsSpec)) fnExactRankNoughtsUptoCard

/-- THE SECOND FORM's CARD OF 'laws.FnExactRankOf'. -/
def fnExactRankOfUptoCard : Claim7 := { stood := { row := fnExactRankOfUptoRow, standIns := [], harness := (true, "6ebc1565bdef363373abd4e7d1aeeef16fcd0e4dc331ada57ff5902eec2a2191"), looks := false }, kinds := [], alts := [], laidByText := true, laidKinds := [.data], laidTests := true, laidLooks := .later }
def FnExactRankOfUptoCardSaid : Prop := Claim7.holds Tryd.pinned (.plain (OpenSpec.upto fnExactRankOfSpec)) fnExactRankOfUptoCard

/-- THE SECOND FORM's CARD OF 'laws.FnExactRankRead'. -/
def fnExactRankReadUptoCard : Claim7 := { stood := { row := fnExactRankReadUptoRow, standIns := [], harness := (true, "6ebc1565bdef363373abd4e7d1aeeef16fcd0e4dc331ada57ff5902eec2a2191"), looks := false }, kinds := [], alts := [], laidByText := true, laidKinds := [.data], laidTests := true, laidLooks := .later }
def FnExactRankReadUptoCardSaid : Prop := Claim7.holds Tryd.pinned (.plain (OpenSpec.upto fnExactRankReadSpec)) fnExactRankReadUptoCard

/-- THE SECOND FORM's CARD OF 'laws.FnExactRankShort'. -/
def fnExactRankShortUptoCard : Claim7 := { stood := { row := fnExactRankShortUptoRow, standIns := [], harness := (true, "6ebc1565bdef363373abd4e7d1aeeef16fcd0e4dc331ada57ff5902eec2a2191"), looks := false }, kinds := [], alts := [], laidByText := true, laidKinds := [.data], laidTests := true, laidLooks := .later }
def FnExactRankShortUptoCardSaid : Prop := Claim7.holds Tryd.pinned (.plain (OpenSpec.upto fnExactRankShortSpec)) fnExactRankShortUptoCard

/-- THE SECOND FORM's CARD OF 'laws.FnExactRankSum'. -/
def fnExactRankSumUptoCard : Claim7 := { stood := { row := fnExactRankSumUptoRow, standIns := [], harness := (true, "6ebc1565bdef363373abd4e7d1aeeef16fcd0e4dc331ada57ff5902eec2a2191"), looks := false }, kinds := [], alts := [], laidByText := true, laidKinds := [.data], laidTests := true, laidLooks := .later }
def FnExactRankSumUptoCardSaid : Prop := Claim7.holds Tryd.pinned (.plain (OpenSpec.upto fnExactRankSumSpec)) fnExactRankSumUptoCard

/-- THE SECOND FORM's CARD OF 'laws.FnLong'. -/
def fnLongUptoCard : Claim7 := { stood := { row := fnLongUptoRow, standIns := [], harness := (true, "6ebc1565bdef363373abd4e7d1aeeef16fcd0e4dc331ada57ff5902eec2a2191"), looks := false }, kinds := [], alts := [], laidByText := true, laidKinds := [.data], laidTests := true, laidLooks := .later }
def FnLongUptoCardSaid : Prop := Claim7.holds Tryd.pinned (.plain (OpenSpec.upto fnLongSpec)) fnLongUptoCard

/-- THE SECOND FORM's CARD OF 'laws.FnNoughts'. -/
def fnNoughtsUptoCard : Claim7 := { stood := { row := fnNoughtsUptoRow, standIns := [], harness := (true, "6ebc1565bdef363373abd4e7d1aeeef16fcd0e4dc331ada57ff5902eec2a2191"), looks := false }, kinds := [], alts := [], laidByText := true, laidKinds := [.data], laidTests := true, laidLooks := .later }
def FnNoughtsUptoCardSaid : Prop := Claim7.holds Tryd.pinned (.plain (OpenSpec.upto fnNoughtsSpec)) fnNoughtsUptoCard

/-- THE SECOND FORM's CARD OF 'laws.FnRank'. -/
def fnRankUptoCard : Claim7 := { stood := { row := fnRankUptoRow, standIns := [], harness := (true, "6ebc1565bdef363373abd4e7d1aeeef16fcd0e4dc331ada57ff5902eec2a2191"), looks := false }, kinds := [], alts := [], laidByText := true, laidKinds := [.data], laidTests := true, laidLooks := .later }
def FnRankUptoCardSaid : Prop := Claim7.holds Tryd.pinned (.plain (OpenSpec.upto fnRankSpec)) fnRankUptoCard

/-- THE SECOND FORM's CARD OF 'laws.FnRankRead'. -/
def fnRankReadUptoCard : Claim7 := { stood := { row := fnRankReadUptoRow, standIns := [], harness := (true, "6ebc1565bdef363373abd4e7d1aeeef16fcd0e4dc331ada57ff5902eec2a2191"), looks := false }, kinds := [], alts := [], laidByText := true, laidKinds := [.data], laidTests := true, laidLooks := .later }
def FnRankReadUptoCardSaid : Prop := Claim7.holds Tryd.pinned (.plain (OpenSpec.upto fnRankReadSpec)) fnRankReadUptoCard

/-- THE SECOND FORM's CARD OF 'laws.FnRankShort'. -/
def fnRankShortUptoCard : Claim7 := { stood := { row := fnRankShortUptoRow, standIns := [], harness := (true, "6ebc1565bdef363373abd4e7d1aeeef16fcd0e4dc331ada57ff5902eec2a2191"), looks := false }, kinds := [], alts := [], laidByText := true, laidKinds := [.data], laidTests := true, laidLooks := .later }
def FnRankShortUptoCardSaid : Prop := Claim7.holds Tryd.pinned (.plain (OpenSpec.upto fnRankShortSpec)) fnRankShortUptoCard

/-- THE SECOND FORM's CARD OF 'laws.FnRankSum'. -/
def fnRankSumUptoCard : Claim7 := { stood := { row := fnRankSumUptoRow, standIns := [], harness := (true, "6ebc1565bdef363373abd4e7d1aeeef16fcd0e4dc331ada57ff5902eec2a2191"), looks := false }, kinds := [], alts := [], laidByText := true, laidKinds := [.data], laidTests := true, laidLooks := .later }
def FnRankSumUptoCardSaid : Prop := Claim7.holds Tryd.pinned (.plain (OpenSpec.upto fnRankSumSpec)) fnRankSumUptoCard
end Rows
end Go.Proofs.YtagipmfkmikagaaDoor
