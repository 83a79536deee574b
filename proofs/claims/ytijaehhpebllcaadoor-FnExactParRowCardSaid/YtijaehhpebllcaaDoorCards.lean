/-
  DERIVED. GIVEN WITH THE SEED: THE CARDS: each row of YtijaehhpebllcaaDoorRows.lean that lists a variable, with what it lists TIED to the program's text (the seventh form; the later family's looks); each row that meets fmt, with fmt's text TOLD by the authors' own Lean function (tested against real Go, not proved from fmt's source: count such statements apart). THE CARD IS WHAT COUNTS. Prove the row's statement (the work); the ties are given (YtijaehhpebllcaaDoorTie.lean); close each card by the builder's one call (the guide's Derived/Test/ToyasCard.lean, 'card_holds'). Laid BY PROGRAM, IN A SANDBOX (cutbox-door.mjs). By AI agents, Wed Nov 11 2026. No macro, syntax, notation, axiom, sorry.
-/
import Derived.Test.YtijaehhpebllcaaDoorRows
import GoSem.ClaimSeven
namespace Go.Proofs.YtijaehhpebllcaaDoor
namespace Rows

/-- THE TIED CARD OF 'laws.FnSets'. -/
def fnSetsCard : Claim7 := { stood := { row := fnSetsRow, standIns := [], harness := (true, "be57092def20bab3d8ee928c25b1cf31b677b74191c8d6bf01e303bcba809c1f"), looks := true }, kinds := [], alts := [], laidByText := true, laidKinds := [.handle], laidTests := true, laidLooks := .later }
def FnSetsCardSaid : Prop := Claim7.holds Tryd.pinned (.plain (OpenSpec.ofChange fnSetsSpec)) fnSetsCard

/-- THE TIED CARD OF 'laws.FnExactSeqOk'. -/
def fnExactSeqOkCard : Claim7 := { stood := { row := fnExactSeqOkRow, standIns := [], harness := (true, "be57092def20bab3d8ee928c25b1cf31b677b74191c8d6bf01e303bcba809c1f"), looks := true }, kinds := [], alts := [], laidByText := true, laidKinds := [.handle], laidTests := true, laidLooks := .later }
def FnExactSeqOkCardSaid : Prop := Claim7.holds Tryd.pinned (.plain (OpenSpec.ofChange fnExactSeqOkSpec)) fnExactSeqOkCard

/-- THE TIED CARD OF 'laws.FnExactParOk'. -/
def fnExactParOkCard : Claim7 := { stood := { row := fnExactParOkRow, standIns := [], harness := (true, "be57092def20bab3d8ee928c25b1cf31b677b74191c8d6bf01e303bcba809c1f"), looks := true }, kinds := [], alts := [], laidByText := true, laidKinds := [.handle], laidTests := true, laidLooks := .later }
def FnExactParOkCardSaid : Prop := Claim7.holds Tryd.pinned (.plain (OpenSpec.ofChange fnExactParOkSpec)) fnExactParOkCard

/-- THE TIED CARD OF 'laws.FnExactSeqRow'. -/
def fnExactSeqRowCard : Claim7 := { stood := { row := fnExactSeqRowRow, standIns := [], harness := (true, "be57092def20bab3d8ee928c25b1cf31b677b74191c8d6bf01e303bcba809c1f"), looks := true }, kinds := [], alts := [], laidByText := true, laidKinds := [.handle], laidTests := true, laidLooks := .later }
def FnExactSeqRowCardSaid : Prop := Claim7.holds Tryd.pinned (.plain (OpenSpec.ofChange fnExactSeqRowSpec)) fnExactSeqRowCard

/-- THE TIED CARD OF 'laws.FnExactReadSeq'. -/
def fnExactReadSeqCard : Claim7 := { stood := { row := fnExactReadSeqRow, standIns := [], harness := (true, "be57092def20bab3d8ee928c25b1cf31b677b74191c8d6bf01e303bcba809c1f"), looks := true }, kinds := [], alts := [], laidByText := true, laidKinds := [.handle], laidTests := true, laidLooks := .later }
def FnExactReadSeqCardSaid : Prop := Claim7.holds Tryd.pinned (.plain (OpenSpec.ofChange fnExactReadSeqSpec)) fnExactReadSeqCard

/-- THE TIED CARD OF 'laws.FnExactParRow'. -/
def fnExactParRowCard : Claim7 := { stood := { row := fnExactParRowRow, standIns := [], harness := (true, "be57092def20bab3d8ee928c25b1cf31b677b74191c8d6bf01e303bcba809c1f"), looks := true }, kinds := [], alts := [], laidByText := true, laidKinds := [.handle], laidTests := true, laidLooks := .later }
def FnExactParRowCardSaid : Prop := Claim7.holds Tryd.pinned (.plain (OpenSpec.ofChange fnExactParRowSpec)) fnExactParRowCard

/-- THE TIED CARD OF 'laws.FnExactReadPar'. -/
def fnExactReadParCard : Claim7 := { stood := { row := fnExactReadParRow, standIns := [], harness := (true, "be57092def20bab3d8ee928c25b1cf31b677b74191c8d6bf01e303bcba809c1f"), looks := true }, kinds := [], alts := [], laidByText := true, laidKinds := [.handle], laidTests := true, laidLooks := .later }
def FnExactReadParCardSaid : Prop := Claim7.holds Tryd.pinned (.plain (OpenSpec.ofChange fnExactReadParSpec)) fnExactReadParCard

/-- THE SECOND FORM's CARD OF 'laws.FnSets'. -/
def fnSetsUptoCard : Claim7 := { stood := { row := fnSetsUptoRow, standIns := [], harness := (true, "be57092def20bab3d8ee928c25b1cf31b677b74191c8d6bf01e303bcba809c1f"), looks := true }, kinds := [], alts := [], laidByText := true, laidKinds := [.handle], laidTests := true, laidLooks := .later }
def FnSetsUptoCardSaid : Prop := Claim7.holds Tryd.pinned (.plain (OpenSpec.upto fnSetsSpec)) fnSetsUptoCard

/-- THE SECOND FORM's CARD OF 'laws.FnExactSeqOk'. -/
def fnExactSeqOkUptoCard : Claim7 := { stood := { row := fnExactSeqOkUptoRow, standIns := [], harness := (true, "be57092def20bab3d8ee928c25b1cf31b677b74191c8d6bf01e303bcba809c1f"), looks := true }, kinds := [], alts := [], laidByText := true, laidKinds := [.handle], laidTests := true, laidLooks := .later }
def FnExactSeqOkUptoCardSaid : Prop := Claim7.holds Tryd.pinned (.plain (OpenSpec.upto fnExactSeqOkSpec)) fnExactSeqOkUptoCard

/-- THE SECOND FORM's CARD OF 'laws.FnExactParOk'. -/
def fnExactParOkUptoCard : Claim7 := { stood := { row := fnExactParOkUptoRow, standIns := [], harness := (true, "be57092def20bab3d8ee928c25b1cf31b677b74191c8d6bf01e303bcba809c1f"), looks := true }, kinds := [], alts := [], laidByText := true, laidKinds := [.handle], laidTests := true, laidLooks := .later }
def FnExactParOkUptoCardSaid : Prop := Claim7.holds Tryd.pinned (.plain (OpenSpec.upto fnExactParOkSpec)) fnExactParOkUptoCard

/-- THE SECOND FORM's CARD OF 'laws.FnExactSeqRow'. -/
def fnExactSeqRowUptoCard : Claim7 := { stood := { row := fnExactSeqRowUptoRow, standIns := [], harness := (true, "be57092def20bab3d8ee928c25b1cf31b677b74191c8d6bf01e303bcba809c1f"), looks := true }, kinds := [], alts := [], laidByText := true, laidKinds := [.handle], laidTests := true, laidLooks := .later }
def FnExactSeqRowUptoCardSaid : Prop := Claim7.holds Tryd.pinned (.plain (OpenSpec.upto fnExactSeqRowSpec)) fnExactSeqRowUptoCard

/-- THE SECOND FORM's CARD OF 'laws.FnExactReadSeq'. -/
def fnExactReadSeqUptoCard : Claim7 := { stood := { row := fnExactReadSeqUptoRow, standIns := [], harness := (true, "be57092def20bab3d8ee928c25b1cf31b677b74191c8d6bf01e303bcba809c1f"), looks := true }, kinds := [], alts := [], laidByText := true, laidKinds := [.handle], laidTests := true, laidLooks := .later }
def FnExactReadSeqUptoCardSaid : Prop := Claim7.holds Tryd.pinned (.plain (OpenSpec.upto fnExactReadSeqSpec)) fnExactReadSeqUptoCard

/-- THE SECOND FORM's CARD OF 'laws.FnExactParRow'. -/
def fnExactParRowUptoCard : Claim7 := { stood := { row := fnExactParRowUptoRow, standIns := [], harness := (true, "be57092def20bab3d8ee928c25b1cf31b677b74191c8d6bf01e303bcba809c1f"), looks := true }, kinds := [], alts := [], laidByText := true, laidKinds := [.handle], laidTests := true, laidLooks := .later }
def FnExactParRowUptoCardSaid : Prop := Claim7.holds Tryd.pinned (.plain (OpenSpec.upto fnExactParRowSpec)) fnExactParRowUptoCard

/-- THE SECOND FORM's CARD OF 'laws.FnExactReadPar'. -/
def fnExactReadParUptoCard : Claim7 := { stood := { row := fnExactReadParUptoRow, standIns := [], harness := (true, "be57092def20bab3d8ee928c25b1cf31b677b74191c8d6bf01e303bcba809c1f"), looks := true }, kinds := [], alts := [], laidByText := true, laidKinds := [.handle], laidTests := true, laidLooks := .later }
def FnExactReadParUptoCardSaid : Prop := Claim7.holds Tryd.pinned (.plain (OpenSpec.upto fnExactReadParSpec)) fnExactReadParUptoCard
end Rows
end Go.Proofs.YtijaehhpebllcaaDoor
