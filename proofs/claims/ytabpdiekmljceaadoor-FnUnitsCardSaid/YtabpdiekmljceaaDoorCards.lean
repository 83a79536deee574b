/-
  DERIVED. GIVEN WITH THE SEED: THE CARDS: each row of YtabpdiekmljceaaDoorRows.lean that lists a variable, with what it lists TIED to the program's text (the seventh form; the later family's looks); each row that meets fmt, with fmt's text TOLD by the authors' own Lean function (tested against real Go, not proved from fmt's source: count such statements apart). THE CARD IS WHAT COUNTS. Prove the row's statement (the work); the ties are given (YtabpdiekmljceaaDoorTie.lean); close each card by the builder's one call (the guide's Derived/Test/ToyasCard.lean, 'card_holds'). Laid BY PROGRAM, IN A SANDBOX (cutbox-door.mjs). By AI agents, Wed Nov 11 2026. No macro, syntax, notation, axiom, sorry.
-/
import Derived.Test.YtabpdiekmljceaaDoorRows
import GoSem.ClaimSeven
namespace Go.Proofs.YtabpdiekmljceaaDoor
namespace Rows

/-- THE TIED CARD OF 'laws.FnUnits'. -/
def fnUnitsCard : Claim7 := { stood := { row := fnUnitsRow, standIns := [], harness := (true, "3f5fdc6dc68ce3097c974ad3c431ff866edaf6b32516df75aee98da41f108966"), looks := false }, kinds := [], alts := [], laidByText := true, laidKinds := [.data, .pinned], laidTests := true, laidLooks := .later }
def FnUnitsCardSaid : Prop := Claim7.holds Tryd.pinned (.plain (OpenSpec.ofChange fnUnitsSpec)) fnUnitsCard

/-- THE TIED CARD OF 'laws.FnExactUnframed'. -/
def fnExactUnframedCard : Claim7 := { stood := { row := fnExactUnframedRow, standIns := [], harness := (true, "3f5fdc6dc68ce3097c974ad3c431ff866edaf6b32516df75aee98da41f108966"), looks := false }, kinds := [], alts := [], laidByText := true, laidKinds := [.data, .pinned], laidTests := true, laidLooks := .later }
def FnExactUnframedCardSaid : Prop := Claim7.holds Tryd.pinned (.plain (OpenSpec.ofChange fnExactUnframedSpec)) fnExactUnframedCard

/-- THE TIED CARD OF 'laws.FnExactUnitsIn'. -/
def fnExactUnitsInCard : Claim7 := { stood := { row := fnExactUnitsInRow, standIns := [], harness := (true, "3f5fdc6dc68ce3097c974ad3c431ff866edaf6b32516df75aee98da41f108966"), looks := false }, kinds := [], alts := [], laidByText := true, laidKinds := [.data, .pinned], laidTests := true, laidLooks := .later }
def FnExactUnitsInCardSaid : Prop := Claim7.holds Tryd.pinned (.plain (OpenSpec.ofChange fnExactUnitsInSpec)) fnExactUnitsInCard

/-- THE SECOND FORM's CARD OF 'laws.FnUnits'. -/
def fnUnitsUptoCard : Claim7 := { stood := { row := fnUnitsUptoRow, standIns := [], harness := (true, "3f5fdc6dc68ce3097c974ad3c431ff866edaf6b32516df75aee98da41f108966"), looks := false }, kinds := [], alts := [], laidByText := true, laidKinds := [.data, .pinned], laidTests := true, laidLooks := .later }
def FnUnitsUptoCardSaid : Prop := Claim7.holds Tryd.pinned (.plain (OpenSpec.upto fnUnitsSpec)) fnUnitsUptoCard

/-- THE SECOND FORM's CARD OF 'laws.FnExactUnframed'. -/
def fnExactUnframedUptoCard : Claim7 := { stood := { row := fnExactUnframedUptoRow, standIns := [], harness := (true, "3f5fdc6dc68ce3097c974ad3c431ff866edaf6b32516df75aee98da41f108966"), looks := false }, kinds := [], alts := [], laidByText := true, laidKinds := [.data, .pinned], laidTests := true, laidLooks := .later }
def FnExactUnframedUptoCardSaid : Prop := Claim7.holds Tryd.pinned (.plain (OpenSpec.upto fnExactUnframedSpec)) fnExactUnframedUptoCard

/-- THE SECOND FORM's CARD OF 'laws.FnExactUnitsIn'. -/
def fnExactUnitsInUptoCard : Claim7 := { stood := { row := fnExactUnitsInUptoRow, standIns := [], harness := (true, "3f5fdc6dc68ce3097c974ad3c431ff866edaf6b32516df75aee98da41f108966"), looks := false }, kinds := [], alts := [], laidByText := true, laidKinds := [.data, .pinned], laidTests := true, laidLooks := .later }
def FnExactUnitsInUptoCardSaid : Prop := Claim7.holds Tryd.pinned (.plain (OpenSpec.upto fnExactUnitsInSpec)) fnExactUnitsInUptoCard
end Rows
end Go.Proofs.YtabpdiekmljceaaDoor
