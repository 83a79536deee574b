/-
  DERIVED. GIVEN WITH THE SEED: THE CARDS: each row of YtcfgnbiiegfenaaDoorRows.lean that lists a variable, with what it lists TIED to the program's text (the seventh form; the later family's looks); each row that meets fmt, with fmt's text TOLD by the authors' own Lean function (tested against real Go, not proved from fmt's source: count such statements apart). THE CARD IS WHAT COUNTS. Prove the row's statement (the work); the ties are given (YtcfgnbiiegfenaaDoorTie.lean); close each card by the builder's one call (the guide's Derived/Test/ToyasCard.lean, 'card_holds'). Laid BY PROGRAM, IN A SANDBOX (cutbox-door.mjs). By AI agents, Wed Nov 11 2026. No macro, syntax, notation, axiom, sorry.
-/
import Derived.Test.YtcfgnbiiegfenaaDoorRows
import GoSem.ClaimSeven
namespace Go.Proofs.YtcfgnbiiegfenaaDoor
namespace Rows

/-- THE TIED CARD OF 'laws.FnSteps'. -/
def fnStepsCard : Claim7 := { stood := { row := fnStepsRow, standIns := [], harness := (true, "17fbe7de2f400d9dc1f50e1366d1af26b64a6209f9a258ebb17ed8855e46ea20"), looks := false }, kinds := [], alts := [], laidByText := true, laidKinds := [.data, .data, .data], laidTests := true, laidLooks := .later }
def FnStepsCardSaid : Prop := Claim7.holds Tryd.pinned (.plain (OpenSpec.ofChange fnStepsSpec)) fnStepsCard

/-- THE TIED CARD OF 'laws.FnMoreIsMore'. -/
def fnMoreIsMoreCard : Claim7 := { stood := { row := fnMoreIsMoreRow, standIns := [], harness := (true, "17fbe7de2f400d9dc1f50e1366d1af26b64a6209f9a258ebb17ed8855e46ea20"), looks := false }, kinds := [], alts := [], laidByText := true, laidKinds := [.data, .data, .data], laidTests := true, laidLooks := .later }
def FnMoreIsMoreCardSaid : Prop := Claim7.holds Tryd.pinned (.plain (OpenSpec.ofChange fnMoreIsMoreSpec)) fnMoreIsMoreCard

/-- THE TIED CARD OF 'laws.FnExactStepOf'. -/
def fnExactStepOfCard : Claim7 := { stood := { row := fnExactStepOfRow, standIns := [], harness := (true, "17fbe7de2f400d9dc1f50e1366d1af26b64a6209f9a258ebb17ed8855e46ea20"), looks := false }, kinds := [], alts := [], laidByText := true, laidKinds := [.data], laidTests := true, laidLooks := .later }
def FnExactStepOfCardSaid : Prop := Claim7.holds Tryd.pinned (.plain (OpenSpec.ofChange fnExactStepOfSpec)) fnExactStepOfCard

/-- THE TIED CARD OF 'laws.FnExactKindOf'. -/
def fnExactKindOfCard : Claim7 := { stood := { row := fnExactKindOfRow, standIns := [], harness := (true, "17fbe7de2f400d9dc1f50e1366d1af26b64a6209f9a258ebb17ed8855e46ea20"), looks := false }, kinds := [], alts := [], laidByText := true, laidKinds := [.data], laidTests := true, laidLooks := .later }
def FnExactKindOfCardSaid : Prop := Claim7.holds Tryd.pinned (.plain (OpenSpec.ofChange fnExactKindOfSpec)) fnExactKindOfCard

/-- THE TIED CARD OF 'laws.FnExactScaleOf'. -/
def fnExactScaleOfCard : Claim7 := { stood := { row := fnExactScaleOfRow, standIns := [], harness := (true, "17fbe7de2f400d9dc1f50e1366d1af26b64a6209f9a258ebb17ed8855e46ea20"), looks := false }, kinds := [], alts := [], laidByText := true, laidKinds := [.data, .data], laidTests := true, laidLooks := .later }
def FnExactScaleOfCardSaid : Prop := Claim7.holds Tryd.pinned (.plain (OpenSpec.ofChange fnExactScaleOfSpec)) fnExactScaleOfCard

/-- THE TIED CARD OF 'laws.FnExactShareOf'. -/
def fnExactShareOfCard : Claim7 := { stood := { row := fnExactShareOfRow, standIns := [], harness := (true, "17fbe7de2f400d9dc1f50e1366d1af26b64a6209f9a258ebb17ed8855e46ea20"), looks := false }, kinds := [], alts := [], laidByText := true, laidKinds := [.data, .data], laidTests := true, laidLooks := .later }
def FnExactShareOfCardSaid : Prop := Claim7.holds Tryd.pinned (.plain (OpenSpec.ofChange fnExactShareOfSpec)) fnExactShareOfCard

/-- THE TIED CARD OF 'laws.FnExactSmallLevel'. -/
def fnExactSmallLevelCard : Claim7 := { stood := { row := fnExactSmallLevelRow, standIns := [], harness := (true, "17fbe7de2f400d9dc1f50e1366d1af26b64a6209f9a258ebb17ed8855e46ea20"), looks := false }, kinds := [], alts := [], laidByText := true, laidKinds := [.data, .data], laidTests := true, laidLooks := .later }
def FnExactSmallLevelCardSaid : Prop := Claim7.holds Tryd.pinned (.plain (OpenSpec.ofChange fnExactSmallLevelSpec)) fnExactSmallLevelCard

/-- THE TIED CARD OF 'laws.FnExactSmallBack'. -/
def fnExactSmallBackCard : Claim7 := { stood := { row := fnExactSmallBackRow, standIns := [], harness := (true, "17fbe7de2f400d9dc1f50e1366d1af26b64a6209f9a258ebb17ed8855e46ea20"), looks := false }, kinds := [], alts := [], laidByText := true, laidKinds := [.data, .data], laidTests := true, laidLooks := .later }
def FnExactSmallBackCardSaid : Prop := Claim7.holds Tryd.pinned (.plain (OpenSpec.ofChange fnExactSmallBackSpec)) fnExactSmallBackCard

/-- THE TIED CARD OF 'laws.FnExactLargeLevel'. -/
def fnExactLargeLevelCard : Claim7 := { stood := { row := fnExactLargeLevelRow, standIns := [], harness := (true, "17fbe7de2f400d9dc1f50e1366d1af26b64a6209f9a258ebb17ed8855e46ea20"), looks := false }, kinds := [], alts := [], laidByText := true, laidKinds := [.data], laidTests := true, laidLooks := .later }
def FnExactLargeLevelCardSaid : Prop := Claim7.holds Tryd.pinned (.plain (OpenSpec.ofChange fnExactLargeLevelSpec)) fnExactLargeLevelCard

/-- THE TIED CARD OF 'laws.FnExactLargeBack'. -/
def fnExactLargeBackCard : Claim7 := { stood := { row := fnExactLargeBackRow, standIns := [], harness := (true, "17fbe7de2f400d9dc1f50e1366d1af26b64a6209f9a258ebb17ed8855e46ea20"), looks := false }, kinds := [], alts := [], laidByText := true, laidKinds := [.data], laidTests := true, laidLooks := .later }
def FnExactLargeBackCardSaid : Prop := Claim7.holds Tryd.pinned (.plain (OpenSpec.ofChange fnExactLargeBackSpec)) fnExactLargeBackCard

/-- THE SECOND FORM's CARD OF 'laws.FnSteps'. -/
def fnStepsUptoCard : Claim7 := { stood := { row := fnStepsUptoRow, standIns := [], harness := (true, "17fbe7de2f400d9dc1f50e1366d1af26b64a6209f9a258ebb17ed8855e46ea20"), looks := false }, kinds := [], alts := [], laidByText := true, laidKinds := [.data, .data, .data], laidTests := true, laidLooks := .later }
def FnStepsUptoCardSaid : Prop := Claim7.holds Tryd.pinned (.plain (OpenSpec.upto fnStepsSpec)) fnStepsUptoCard

/-- THE SECOND FORM's CARD OF 'laws.FnMoreIsMore'. -/
def fnMoreIsMoreUptoCard : Claim7 := { stood := { row := fnMoreIsMoreUptoRow, standIns := [], harness := (true, "17fbe7de2f400d9dc1f50e1366d1af26b64a6209f9a258ebb17ed8855e46ea20"), looks := false }, kinds := [], alts := [], laidByText := true, laidKinds := [.data, .data, .data], laidTests := true, laidLooks := .later }
def FnMoreIsMoreUptoCardSaid : Prop := Claim7.holds Tryd.pinned (.plain (OpenSpec.upto fnMoreIsMoreSpec)) fnMoreIsMoreUptoCard

/-- THE SECOND FORM's CARD OF 'laws.FnExactStepOf'. -/
def fnExactStepOfUptoCard : Claim7 := { stood := { row := fnExactStepOfUptoRow, standIns := [], harness := (true, "17fbe7de2f400d9dc1f50e1366d1af26b64a6209f9a258ebb17ed8855e46ea20"), looks := false }, kinds := [], alts := [], laidByText := true, laidKinds := [.data], laidTests := true, laidLooks := .later }
def FnExactStepOfUptoCardSaid : Prop := Claim7.holds Tryd.pinned (.plain (OpenSpec.upto fnExactStepOfSpec)) fnExactStepOfUptoCard

/-- THE SECOND FORM's CARD OF 'laws.FnExactKindOf'. -/
def fnExactKindOfUptoCard : Claim7 := { stood := { row := fnExactKindOfUptoRow, standIns := [], harness := (true, "17fbe7de2f400d9dc1f50e1366d1af26b64a6209f9a258ebb17ed8855e46ea20"), looks := false }, kinds := [], alts := [], laidByText := true, laidKinds := [.data], laidTests := true, laidLooks := .later }
def FnExactKindOfUptoCardSaid : Prop := Claim7.holds Tryd.pinned (.plain (OpenSpec.upto fnExactKindOfSpec)) fnExactKindOfUptoCard

/-- THE SECOND FORM's CARD OF 'laws.FnExactScaleOf'. -/
def fnExactScaleOfUptoCard : Claim7 := { stood := { row := fnExactScaleOfUptoRow, standIns := [], harness := (true, "17fbe7de2f400d9dc1f50e1366d1af26b64a6209f9a258ebb17ed8855e46ea20"), looks := false }, kinds := [], alts := [], laidByText := true, laidKinds := [.data, .data], laidTests := true, laidLooks := .later }
def FnExactScaleOfUptoCardSaid : Prop := Claim7.holds Tryd.pinned (.plain (OpenSpec.upto fnExactScaleOfSpec)) fnExactScaleOfUptoCard

/-- THE SECOND FORM's CARD OF 'laws.FnExactShareOf'. -/
def fnExactShareOfUptoCard : Claim7 := { stood := { row := fnExactShareOfUptoRow, standIns := [], harness := (true, "17fbe7de2f400d9dc1f50e1366d1af26b64a6209f9a258ebb17ed8855e46ea20"), looks := false }, kinds := [], alts := [], laidByText := true, laidKinds := [.data, .data], laidTests := true, laidLooks := .later }
def FnExactShareOfUptoCardSaid : Prop := Claim7.holds Tryd.pinned (.plain (OpenSpec.upto fnExactShareOfSpec)) fnExactShareOfUptoCard

/-- THE SECOND FORM's CARD OF 'laws.FnExactSmallLevel'. -/
def fnExactSmallLevelUptoCard : Claim7 := { stood := { row := fnExactSmallLevelUptoRow, standIns := [], harness := (true, "17fbe7de2f400d9dc1f50e1366d1af26b64a6209f9a258ebb17ed8855e46ea20"), looks := false }, kinds := [], alts := [], laidByText := true, laidKinds := [.data, .data], laidTests := true, laidLooks := .later }
def FnExactSmallLevelUptoCardSaid : Prop := Claim7.holds Tryd.pinned (.plain (OpenSpec.upto fnExactSmallLevelSpec)) fnExactSmallLevelUptoCard

/-- THE SECOND FORM's CARD OF 'laws.FnExactSmallBack'. -/
def fnExactSmallBackUptoCard : Claim7 := { stood := { row := fnExactSmallBackUptoRow, standIns := [], harness := (true, "17fbe7de2f400d9dc1f50e1366d1af26b64a6209f9a258ebb17ed8855e46ea20"), looks := false }, kinds := [], alts := [], laidByText := true, laidKinds := [.data, .data], laidTests := true, laidLooks := .later }
def FnExactSmallBackUptoCardSaid : Prop := Claim7.holds Tryd.pinned (.plain (OpenSpec.upto fnExactSmallBackSpec)) fnExactSmallBackUptoCard

/-- THE SECOND FORM's CARD OF 'laws.FnExactLargeLevel'. -/
def fnExactLargeLevelUptoCard : Claim7 := { stood := { row := fnExactLargeLevelUptoRow, standIns := [], harness := (true, "17fbe7de2f400d9dc1f50e1366d1af26b64a6209f9a258ebb17ed8855e46ea20"), looks := false }, kinds := [], alts := [], laidByText := true, laidKinds := [.data], laidTests := true, laidLooks := .later }
def FnExactLargeLevelUptoCardSaid : Prop := Claim7.holds Tryd.pinned (.plain (OpenSpec.upto fnExactLargeLevelSpec)) fnExactLargeLevelUptoCard

/-- THE SECOND FORM's CARD OF 'laws.FnExactLargeBack'. -/
def fnExactLargeBackUptoCard : Claim7 := { stood := { row := fnExactLargeBackUptoRow, standIns := [], harness := (true, "17fbe7de2f400d9dc1f50e1366d1af26b64a6209f9a258ebb17ed8855e46ea20"), looks := false }, kinds := [], alts := [], laidByText := true, laidKinds := [.data], laidTests := true, laidLooks := .later }
def FnExactLargeBackUptoCardSaid : Prop := Claim7.holds Tryd.pinned (.plain (OpenSpec.upto fnExactLargeBackSpec)) fnExactLargeBackUptoCard
end Rows
end Go.Proofs.YtcfgnbiiegfenaaDoor
