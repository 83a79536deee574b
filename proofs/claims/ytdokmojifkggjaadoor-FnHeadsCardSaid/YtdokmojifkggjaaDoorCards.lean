/-
  DERIVED. GIVEN WITH THE SEED: THE CARDS: each row of YtdokmojifkggjaaDoorRows.lean that lists a variable, with what it lists TIED to the program's text (the seventh form; the later family's looks); each row that meets fmt, with fmt's text TOLD by the authors' own Lean function (tested against real Go, not proved from fmt's source: count such statements apart). THE CARD IS WHAT COUNTS. Prove the row's statement (the work); the ties are given (YtdokmojifkggjaaDoorTie.lean); close each card by the builder's one call (the guide's Derived/Test/ToyasCard.lean, 'card_holds'). Laid BY PROGRAM, IN A SANDBOX (cutbox-door.mjs). By AI agents, Wed Nov 11 2026. No macro, syntax, notation, axiom, sorry.
-/
import Derived.Test.YtdokmojifkggjaaDoorRows
import GoSem.ClaimSeven
namespace Go.Proofs.YtdokmojifkggjaaDoor
namespace Rows

/-- THE TIED CARD OF 'laws.FnHeads'. -/
def fnHeadsCard : Claim7 := { stood := { row := fnHeadsRow, standIns := [], harness := (true, "451f2d9e6fab148506bfb23333e19f85cc70f808452255b422f478078e4a3587"), looks := true }, kinds := [], alts := [], laidByText := true, laidKinds := [.handle], laidTests := true, laidLooks := .later }
def FnHeadsCardSaid : Prop := Claim7.holds Tryd.pinned (.plain (OpenSpec.ofChange fnHeadsSpec)) fnHeadsCard

/-- THE TIED CARD OF 'laws.FnExactHeadOk'. -/
def fnExactHeadOkCard : Claim7 := { stood := { row := fnExactHeadOkRow, standIns := [], harness := (true, "451f2d9e6fab148506bfb23333e19f85cc70f808452255b422f478078e4a3587"), looks := true }, kinds := [], alts := [], laidByText := true, laidKinds := [.handle], laidTests := true, laidLooks := .later }
def FnExactHeadOkCardSaid : Prop := Claim7.holds Tryd.pinned (.plain (OpenSpec.ofChange fnExactHeadOkSpec)) fnExactHeadOkCard

/-- THE TIED CARD OF 'laws.FnExactHeadRow'. -/
def fnExactHeadRowCard : Claim7 := { stood := { row := fnExactHeadRowRow, standIns := [], harness := (true, "451f2d9e6fab148506bfb23333e19f85cc70f808452255b422f478078e4a3587"), looks := true }, kinds := [], alts := [], laidByText := true, laidKinds := [.handle], laidTests := true, laidLooks := .later }
def FnExactHeadRowCardSaid : Prop := Claim7.holds Tryd.pinned (.plain (OpenSpec.ofChange fnExactHeadRowSpec)) fnExactHeadRowCard

/-- THE TIED CARD OF 'laws.FnExactReadHead'. -/
def fnExactReadHeadCard : Claim7 := { stood := { row := fnExactReadHeadRow, standIns := [], harness := (true, "451f2d9e6fab148506bfb23333e19f85cc70f808452255b422f478078e4a3587"), looks := true }, kinds := [], alts := [], laidByText := true, laidKinds := [.handle], laidTests := true, laidLooks := .later }
def FnExactReadHeadCardSaid : Prop := Claim7.holds Tryd.pinned (.plain (OpenSpec.ofChange fnExactReadHeadSpec)) fnExactReadHeadCard

/-- THE SECOND FORM's CARD OF 'laws.FnHeads'. -/
def fnHeadsUptoCard : Claim7 := { stood := { row := fnHeadsUptoRow, standIns := [], harness := (true, "451f2d9e6fab148506bfb23333e19f85cc70f808452255b422f478078e4a3587"), looks := true }, kinds := [], alts := [], laidByText := true, laidKinds := [.handle], laidTests := true, laidLooks := .later }
def FnHeadsUptoCardSaid : Prop := Claim7.holds Tryd.pinned (.plain (OpenSpec.upto fnHeadsSpec)) fnHeadsUptoCard

/-- THE SECOND FORM's CARD OF 'laws.FnExactHeadOk'. -/
def fnExactHeadOkUptoCard : Claim7 := { stood := { row := fnExactHeadOkUptoRow, standIns := [], harness := (true, "451f2d9e6fab148506bfb23333e19f85cc70f808452255b422f478078e4a3587"), looks := true }, kinds := [], alts := [], laidByText := true, laidKinds := [.handle], laidTests := true, laidLooks := .later }
def FnExactHeadOkUptoCardSaid : Prop := Claim7.holds Tryd.pinned (.plain (OpenSpec.upto fnExactHeadOkSpec)) fnExactHeadOkUptoCard

/-- THE SECOND FORM's CARD OF 'laws.FnExactHeadRow'. -/
def fnExactHeadRowUptoCard : Claim7 := { stood := { row := fnExactHeadRowUptoRow, standIns := [], harness := (true, "451f2d9e6fab148506bfb23333e19f85cc70f808452255b422f478078e4a3587"), looks := true }, kinds := [], alts := [], laidByText := true, laidKinds := [.handle], laidTests := true, laidLooks := .later }
def FnExactHeadRowUptoCardSaid : Prop := Claim7.holds Tryd.pinned (.plain (OpenSpec.upto fnExactHeadRowSpec)) fnExactHeadRowUptoCard

/-- THE SECOND FORM's CARD OF 'laws.FnExactReadHead'. -/
def fnExactReadHeadUptoCard : Claim7 := { stood := { row := fnExactReadHeadUptoRow, standIns := [], harness := (true, "451f2d9e6fab148506bfb23333e19f85cc70f808452255b422f478078e4a3587"), looks := true }, kinds := [], alts := [], laidByText := true, laidKinds := [.handle], laidTests := true, laidLooks := .later }
def FnExactReadHeadUptoCardSaid : Prop := Claim7.holds Tryd.pinned (.plain (OpenSpec.upto fnExactReadHeadSpec)) fnExactReadHeadUptoCard
end Rows
end Go.Proofs.YtdokmojifkggjaaDoor
