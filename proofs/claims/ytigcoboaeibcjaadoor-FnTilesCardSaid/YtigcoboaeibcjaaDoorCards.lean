/-
  DERIVED. GIVEN WITH THE SEED: THE CARDS: each row of YtigcoboaeibcjaaDoorRows.lean that lists a variable, with what it lists TIED to the program's text (the seventh form; the later family's looks); each row that meets fmt, with fmt's text TOLD by the authors' own Lean function (tested against real Go, not proved from fmt's source: count such statements apart). THE CARD IS WHAT COUNTS. Prove the row's statement (the work); the ties are given (YtigcoboaeibcjaaDoorTie.lean); close each card by the builder's one call (the guide's Derived/Test/ToyasCard.lean, 'card_holds'). Laid BY PROGRAM, IN A SANDBOX (cutbox-door.mjs). By AI agents, Wed Nov 11 2026. No macro, syntax, notation, axiom, sorry.
-/
import Derived.Test.YtigcoboaeibcjaaDoorRows
import GoSem.ClaimSeven
namespace Go.Proofs.YtigcoboaeibcjaaDoor
namespace Rows

/-- THE TIED CARD OF 'laws.FnLevels'. -/
def fnLevelsCard : Claim7 := { stood := { row := fnLevelsRow, standIns := [], harness := (true, "e26bea3793a0920b58c94291b1d148ee13497deb4d3a95f49324f480c7b09078"), looks := true }, kinds := [], alts := [], laidByText := true, laidKinds := [.handle], laidTests := true, laidLooks := .later }
def FnLevelsCardSaid : Prop := Claim7.holds Tryd.pinned (.plain (OpenSpec.ofChange fnLevelsSpec)) fnLevelsCard

/-- THE TIED CARD OF 'laws.FnTiles'. -/
def fnTilesCard : Claim7 := { stood := { row := fnTilesRow, standIns := [], harness := (true, "e26bea3793a0920b58c94291b1d148ee13497deb4d3a95f49324f480c7b09078"), looks := true }, kinds := [], alts := [], laidByText := true, laidKinds := [.handle], laidTests := true, laidLooks := .later }
def FnTilesCardSaid : Prop := Claim7.holds Tryd.pinned (.plain (OpenSpec.ofChange fnTilesSpec)) fnTilesCard

/-- THE TIED CARD OF 'laws.FnExactSizeOf'. -/
def fnExactSizeOfCard : Claim7 := { stood := { row := fnExactSizeOfRow, standIns := [], harness := (true, "e26bea3793a0920b58c94291b1d148ee13497deb4d3a95f49324f480c7b09078"), looks := true }, kinds := [], alts := [], laidByText := true, laidKinds := [.handle], laidTests := true, laidLooks := .later }
def FnExactSizeOfCardSaid : Prop := Claim7.holds Tryd.pinned (.plain (OpenSpec.ofChange fnExactSizeOfSpec)) fnExactSizeOfCard

/-- THE TIED CARD OF 'laws.FnExactTilesOf'. -/
def fnExactTilesOfCard : Claim7 := { stood := { row := fnExactTilesOfRow, standIns := [], harness := (true, "e26bea3793a0920b58c94291b1d148ee13497deb4d3a95f49324f480c7b09078"), looks := true }, kinds := [], alts := [], laidByText := true, laidKinds := [.handle], laidTests := true, laidLooks := .later }
def FnExactTilesOfCardSaid : Prop := Claim7.holds Tryd.pinned (.plain (OpenSpec.ofChange fnExactTilesOfSpec)) fnExactTilesOfCard

/-- THE TIED CARD OF 'laws.FnExactTileRect'. -/
def fnExactTileRectCard : Claim7 := { stood := { row := fnExactTileRectRow, standIns := [], harness := (true, "e26bea3793a0920b58c94291b1d148ee13497deb4d3a95f49324f480c7b09078"), looks := true }, kinds := [], alts := [], laidByText := true, laidKinds := [.handle], laidTests := true, laidLooks := .later }
def FnExactTileRectCardSaid : Prop := Claim7.holds Tryd.pinned (.plain (OpenSpec.ofChange fnExactTileRectSpec)) fnExactTileRectCard

/-- THE TIED CARD OF 'laws.FnExactTileAt'. -/
def fnExactTileAtCard : Claim7 := { stood := { row := fnExactTileAtRow, standIns := [], harness := (true, "e26bea3793a0920b58c94291b1d148ee13497deb4d3a95f49324f480c7b09078"), looks := true }, kinds := [], alts := [], laidByText := true, laidKinds := [.handle], laidTests := true, laidLooks := .later }
def FnExactTileAtCardSaid : Prop := Claim7.holds Tryd.pinned (.plain (OpenSpec.ofChange fnExactTileAtSpec)) fnExactTileAtCard

/-- THE TIED CARD OF 'laws.FnExactTileSquares'. -/
def fnExactTileSquaresCard : Claim7 := { stood := { row := fnExactTileSquaresRow, standIns := [], harness := (true, "e26bea3793a0920b58c94291b1d148ee13497deb4d3a95f49324f480c7b09078"), looks := true }, kinds := [], alts := [], laidByText := true, laidKinds := [.handle], laidTests := true, laidLooks := .later }
def FnExactTileSquaresCardSaid : Prop := Claim7.holds Tryd.pinned (.plain (OpenSpec.ofChange fnExactTileSquaresSpec)) fnExactTileSquaresCard

/-- THE TIED CARD OF 'laws.FnExactLevelFor'. -/
def fnExactLevelForCard : Claim7 := { stood := { row := fnExactLevelForRow, standIns := [], harness := (true, "e26bea3793a0920b58c94291b1d148ee13497deb4d3a95f49324f480c7b09078"), looks := true }, kinds := [], alts := [], laidByText := true, laidKinds := [.handle], laidTests := true, laidLooks := .later }
def FnExactLevelForCardSaid : Prop := Claim7.holds Tryd.pinned (.plain (OpenSpec.ofChange fnExactLevelForSpec)) fnExactLevelForCard

/-- THE SECOND FORM's CARD OF 'laws.FnLevels'. -/
def fnLevelsUptoCard : Claim7 := { stood := { row := fnLevelsUptoRow, standIns := [], harness := (true, "e26bea3793a0920b58c94291b1d148ee13497deb4d3a95f49324f480c7b09078"), looks := true }, kinds := [], alts := [], laidByText := true, laidKinds := [.handle], laidTests := true, laidLooks := .later }
def FnLevelsUptoCardSaid : Prop := Claim7.holds Tryd.pinned (.plain (OpenSpec.upto fnLevelsSpec)) fnLevelsUptoCard

/-- THE SECOND FORM's CARD OF 'laws.FnTiles'. -/
def fnTilesUptoCard : Claim7 := { stood := { row := fnTilesUptoRow, standIns := [], harness := (true, "e26bea3793a0920b58c94291b1d148ee13497deb4d3a95f49324f480c7b09078"), looks := true }, kinds := [], alts := [], laidByText := true, laidKinds := [.handle], laidTests := true, laidLooks := .later }
def FnTilesUptoCardSaid : Prop := Claim7.holds Tryd.pinned (.plain (OpenSpec.upto fnTilesSpec)) fnTilesUptoCard

/-- THE SECOND FORM's CARD OF 'laws.FnExactSizeOf'. -/
def fnExactSizeOfUptoCard : Claim7 := { stood := { row := fnExactSizeOfUptoRow, standIns := [], harness := (true, "e26bea3793a0920b58c94291b1d148ee13497deb4d3a95f49324f480c7b09078"), looks := true }, kinds := [], alts := [], laidByText := true, laidKinds := [.handle], laidTests := true, laidLooks := .later }
def FnExactSizeOfUptoCardSaid : Prop := Claim7.holds Tryd.pinned (.plain (OpenSpec.upto fnExactSizeOfSpec)) fnExactSizeOfUptoCard

/-- THE SECOND FORM's CARD OF 'laws.FnExactTilesOf'. -/
def fnExactTilesOfUptoCard : Claim7 := { stood := { row := fnExactTilesOfUptoRow, standIns := [], harness := (true, "e26bea3793a0920b58c94291b1d148ee13497deb4d3a95f49324f480c7b09078"), looks := true }, kinds := [], alts := [], laidByText := true, laidKinds := [.handle], laidTests := true, laidLooks := .later }
def FnExactTilesOfUptoCardSaid : Prop := Claim7.holds Tryd.pinned (.plain (OpenSpec.upto fnExactTilesOfSpec)) fnExactTilesOfUptoCard

/-- THE SECOND FORM's CARD OF 'laws.FnExactTileRect'. -/
def fnExactTileRectUptoCard : Claim7 := { stood := { row := fnExactTileRectUptoRow, standIns := [], harness := (true, "e26bea3793a0920b58c94291b1d148ee13497deb4d3a95f49324f480c7b09078"), looks := true }, kinds := [], alts := [], laidByText := true, laidKinds := [.handle], laidTests := true, laidLooks := .later }
def FnExactTileRectUptoCardSaid : Prop := Claim7.holds Tryd.pinned (.plain (OpenSpec.upto fnExactTileRectSpec)) fnExactTileRectUptoCard

/-- THE SECOND FORM's CARD OF 'laws.FnExactTileAt'. -/
def fnExactTileAtUptoCard : Claim7 := { stood := { row := fnExactTileAtUptoRow, standIns := [], harness := (true, "e26bea3793a0920b58c94291b1d148ee13497deb4d3a95f49324f480c7b09078"), looks := true }, kinds := [], alts := [], laidByText := true, laidKinds := [.handle], laidTests := true, laidLooks := .later }
def FnExactTileAtUptoCardSaid : Prop := Claim7.holds Tryd.pinned (.plain (OpenSpec.upto fnExactTileAtSpec)) fnExactTileAtUptoCard

/-- THE SECOND FORM's CARD OF 'laws.FnExactTileSquares'. -/
def fnExactTileSquaresUptoCard : Claim7 := { stood := { row := fnExactTileSquaresUptoRow, standIns := [], harness := (true, "e26bea3793a0920b58c94291b1d148ee13497deb4d3a95f49324f480c7b09078"), looks := true }, kinds := [], alts := [], laidByText := true, laidKinds := [.handle], laidTests := true, laidLooks := .later }
def FnExactTileSquaresUptoCardSaid : Prop := Claim7.holds Tryd.pinned (.plain (OpenSpec.upto fnExactTileSquaresSpec)) fnExactTileSquaresUptoCard

/-- THE SECOND FORM's CARD OF 'laws.FnExactLevelFor'. -/
def fnExactLevelForUptoCard : Claim7 := { stood := { row := fnExactLevelForUptoRow, standIns := [], harness := (true, "e26bea3793a0920b58c94291b1d148ee13497deb4d3a95f49324f480c7b09078"), looks := true }, kinds := [], alts := [], laidByText := true, laidKinds := [.handle], laidTests := true, laidLooks := .later }
def FnExactLevelForUptoCardSaid : Prop := Claim7.holds Tryd.pinned (.plain (OpenSpec.upto fnExactLevelForSpec)) fnExactLevelForUptoCard
end Rows
end Go.Proofs.YtigcoboaeibcjaaDoor
