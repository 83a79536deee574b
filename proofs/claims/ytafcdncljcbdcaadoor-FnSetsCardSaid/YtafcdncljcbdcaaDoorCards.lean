/-
  DERIVED. GIVEN WITH THE SEED: THE CARDS: each row of YtafcdncljcbdcaaDoorRows.lean that lists a variable, with what it lists TIED to the program's text (the seventh form; the later family's looks); each row that meets fmt, with fmt's text TOLD by the authors' own Lean function (tested against real Go, not proved from fmt's source: count such statements apart). THE CARD IS WHAT COUNTS. Prove the row's statement (the work); the ties are given (YtafcdncljcbdcaaDoorTie.lean); close each card by the builder's one call (the guide's Derived/Test/ToyasCard.lean, 'card_holds'). Laid BY PROGRAM, IN A SANDBOX (cutbox-door.mjs). By AI agents, Wed Nov 11 2026. No macro, syntax, notation, axiom, sorry.
-/
import Derived.Test.YtafcdncljcbdcaaDoorRows
import GoSem.ClaimSeven
namespace Go.Proofs.YtafcdncljcbdcaaDoor
namespace Rows

/-- THE TIED CARD OF 'laws.FnSets'. -/
def fnSetsCard : Claim7 := { stood := { row := fnSetsRow, standIns := [], harness := (true, "82e74dc578e70dbc27288f2992ba59db63637ee12760b17ed1ae114187d4f057"), looks := true }, kinds := [], alts := [], laidByText := true, laidKinds := [.handle], laidTests := true, laidLooks := .later }
def FnSetsCardSaid : Prop := Claim7.holds Tryd.pinned (.plain (OpenSpec.ofChange fnSetsSpec)) fnSetsCard

/-- THE TIED CARD OF 'laws.FnExactSeqOk'. -/
def fnExactSeqOkCard : Claim7 := { stood := { row := fnExactSeqOkRow, standIns := [], harness := (true, "82e74dc578e70dbc27288f2992ba59db63637ee12760b17ed1ae114187d4f057"), looks := true }, kinds := [], alts := [], laidByText := true, laidKinds := [.handle], laidTests := true, laidLooks := .later }
def FnExactSeqOkCardSaid : Prop := Claim7.holds Tryd.pinned (.plain (OpenSpec.ofChange fnExactSeqOkSpec)) fnExactSeqOkCard

/-- THE TIED CARD OF 'laws.FnExactParOk'. -/
def fnExactParOkCard : Claim7 := { stood := { row := fnExactParOkRow, standIns := [], harness := (true, "82e74dc578e70dbc27288f2992ba59db63637ee12760b17ed1ae114187d4f057"), looks := true }, kinds := [], alts := [], laidByText := true, laidKinds := [.handle], laidTests := true, laidLooks := .later }
def FnExactParOkCardSaid : Prop := Claim7.holds Tryd.pinned (.plain (OpenSpec.ofChange fnExactParOkSpec)) fnExactParOkCard

/-- THE TIED CARD OF 'laws.FnExactSeqRow'. -/
def fnExactSeqRowCard : Claim7 := { stood := { row := fnExactSeqRowRow, standIns := [], harness := (true, "82e74dc578e70dbc27288f2992ba59db63637ee12760b17ed1ae114187d4f057"), looks := true }, kinds := [], alts := [], laidByText := true, laidKinds := [.handle], laidTests := true, laidLooks := .later }
def FnExactSeqRowCardSaid : Prop := Claim7.holds Tryd.pinned (.plain (OpenSpec.ofChange fnExactSeqRowSpec)) fnExactSeqRowCard

/-- THE SECOND FORM's CARD OF 'laws.FnSets'. -/
def fnSetsUptoCard : Claim7 := { stood := { row := fnSetsUptoRow, standIns := [], harness := (true, "82e74dc578e70dbc27288f2992ba59db63637ee12760b17ed1ae114187d4f057"), looks := true }, kinds := [], alts := [], laidByText := true, laidKinds := [.handle], laidTests := true, laidLooks := .later }
def FnSetsUptoCardSaid : Prop := Claim7.holds Tryd.pinned (.plain (OpenSpec.upto fnSetsSpec)) fnSetsUptoCard

/-- THE SECOND FORM's CARD OF 'laws.FnExactSeqOk'. -/
def fnExactSeqOkUptoCard : Claim7 := { stood := { row := fnExactSeqOkUptoRow, standIns := [], harness := (true, "82e74dc578e70dbc27288f2992ba59db63637ee12760b17ed1ae114187d4f057"), looks := true }, kinds := [], alts := [], laidByText := true, laidKinds := [.handle], laidTests := true, laidLooks := .later }
def FnExactSeqOkUptoCardSaid : Prop := Claim7.holds Tryd.pinned (.plain (OpenSpec.upto fnExactSeqOkSpec)) fnExactSeqOkUptoCard

/-- THE SECOND FORM's CARD OF 'laws.FnExactParOk'. -/
def fnExactParOkUptoCard : Claim7 := { stood := { row := fnExactParOkUptoRow, standIns := [], harness := (true, "82e74dc578e70dbc27288f2992ba59db63637ee12760b17ed1ae114187d4f057"), looks := true }, kinds := [], alts := [], laidByText := true, laidKinds := [.handle], laidTests := true, laidLooks := .later }
def FnExactParOkUptoCardSaid : Prop := Claim7.holds Tryd.pinned (.plain (OpenSpec.upto fnExactParOkSpec)) fnExactParOkUptoCard

/-- THE SECOND FORM's CARD OF 'laws.FnExactSeqRow'. -/
def fnExactSeqRowUptoCard : Claim7 := { stood := { row := fnExactSeqRowUptoRow, standIns := [], harness := (true, "82e74dc578e70dbc27288f2992ba59db63637ee12760b17ed1ae114187d4f057"), looks := true }, kinds := [], alts := [], laidByText := true, laidKinds := [.handle], laidTests := true, laidLooks := .later }
def FnExactSeqRowUptoCardSaid : Prop := Claim7.holds Tryd.pinned (.plain (OpenSpec.upto fnExactSeqRowSpec)) fnExactSeqRowUptoCard
end Rows
end Go.Proofs.YtafcdncljcbdcaaDoor
