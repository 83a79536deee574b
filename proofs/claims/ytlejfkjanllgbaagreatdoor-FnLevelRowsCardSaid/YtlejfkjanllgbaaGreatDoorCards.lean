/-
  DERIVED. GIVEN WITH THE SEED: THE CARDS: each row of YtlejfkjanllgbaaGreatDoorRows.lean that lists a variable, with what it lists TIED to the program's text (the seventh form; the later family's looks); each row that meets fmt, with fmt's text TOLD by the authors' own Lean function (tested against real Go, not proved from fmt's source: count such statements apart). THE CARD IS WHAT COUNTS. Prove the row's statement (the work); the ties are given (YtlejfkjanllgbaaGreatDoorTie.lean); close each card by the builder's one call (the guide's Derived/Test/ToyasCard.lean, 'card_holds'). Laid BY PROGRAM, IN A SANDBOX (cutbox-door.mjs). By AI agents, Wed Nov 11 2026. No macro, syntax, notation, axiom, sorry.
-/
import Derived.Test.YtlejfkjanllgbaaGreatDoorRows
import GoSem.ClaimSeven
namespace Go.Proofs.YtlejfkjanllgbaaGreatDoor
namespace Rows

/-- THE TIED CARD OF 'laws.FnLevelRows'. -/
def fnLevelRowsCard : Claim7 := { stood := { row := fnLevelRowsRow, standIns := [], harness := (true, "59cd3e75343a1019c5e747f1d308a1962157f0fbf413a6afcb6b81bc1ca637a2"), looks := false }, kinds := [], alts := [], laidByText := true, laidKinds := [.data, .data, .data], laidTests := true, laidLooks := .later }
def FnLevelRowsCardSaid : Prop := Claim7.holds Tryz.pinned (.plain (OpenSpec.ofChange fnLevelRowsSpec)) fnLevelRowsCard

/-- THE TIED CARD OF 'laws.FnExactLevelsRow'. -/
def fnExactLevelsRowCard : Claim7 := { stood := { row := fnExactLevelsRowRow, standIns := [], harness := (true, "59cd3e75343a1019c5e747f1d308a1962157f0fbf413a6afcb6b81bc1ca637a2"), looks := false }, kinds := [], alts := [], laidByText := true, laidKinds := [.data, .data, .data], laidTests := true, laidLooks := .later }
def FnExactLevelsRowCardSaid : Prop := Claim7.holds Tryz.pinned (.plain (OpenSpec.ofChange fnExactLevelsRowSpec)) fnExactLevelsRowCard

/-- THE SECOND FORM's CARD OF 'laws.FnLevelRows'. -/
def fnLevelRowsUptoCard : Claim7 := { stood := { row := fnLevelRowsUptoRow, standIns := [], harness := (true, "59cd3e75343a1019c5e747f1d308a1962157f0fbf413a6afcb6b81bc1ca637a2"), looks := false }, kinds := [], alts := [], laidByText := true, laidKinds := [.data, .data, .data], laidTests := true, laidLooks := .later }
def FnLevelRowsUptoCardSaid : Prop := Claim7.holds Tryz.pinned (.plain (OpenSpec.upto fnLevelRowsSpec)) fnLevelRowsUptoCard

/-- THE SECOND FORM's CARD OF 'laws.FnExactLevelsRow'. -/
def fnExactLevelsRowUptoCard : Claim7 := { stood := { row := fnExactLevelsRowUptoRow, standIns := [], harness := (true, "59cd3e75343a1019c5e747f1d308a1962157f0fbf413a6afcb6b81bc1ca637a2"), looks := false }, kinds := [], alts := [], laidByText := true, laidKinds := [.data, .data, .data], laidTests := true, laidLooks := .later }
def FnExactLevelsRowUptoCardSaid : Prop := Claim7.holds Tryz.pinned (.plain (OpenSpec.upto fnExactLevelsRowSpec)) fnExactLevelsRowUptoCard
end Rows
end Go.Proofs.YtlejfkjanllgbaaGreatDoor
