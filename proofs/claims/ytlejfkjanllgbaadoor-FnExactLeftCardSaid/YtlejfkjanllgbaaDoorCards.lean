/-
  DERIVED. GIVEN WITH THE SEED: THE CARDS: each row of YtlejfkjanllgbaaDoorRows.lean that lists a variable, with what it lists TIED to the program's text (the seventh form; the later family's looks); each row that meets fmt, with fmt's text TOLD by the authors' own Lean function (tested against real Go, not proved from fmt's source: count such statements apart). THE CARD IS WHAT COUNTS. Prove the row's statement (the work); the ties are given (YtlejfkjanllgbaaDoorTie.lean); close each card by the builder's one call (the guide's Derived/Test/ToyasCard.lean, 'card_holds'). Laid BY PROGRAM, IN A SANDBOX (cutbox-door.mjs). By AI agents, Wed Nov 11 2026. No macro, syntax, notation, axiom, sorry.
-/
import Derived.Test.YtlejfkjanllgbaaDoorRows
import GoSem.ClaimSeven
namespace Go.Proofs.YtlejfkjanllgbaaDoor
namespace Rows

/-- THE TIED CARD OF 'laws.FnExactLeft'. -/
def fnExactLeftCard : Claim7 := { stood := { row := fnExactLeftRow, standIns := [], harness := (true, "9ba08862df3104e47ded7ad608baf2469f784837d41a14f3e4e29cafa587f905"), looks := false }, kinds := [], alts := [], laidByText := true, laidKinds := [.data, .data, .data], laidTests := true, laidLooks := .later }
def FnExactLeftCardSaid : Prop := Claim7.holds Tryd.pinned (.plain (OpenSpec.ofChange fnExactLeftSpec)) fnExactLeftCard

/-- THE TIED CARD OF 'laws.FnExactLevelsOf'. -/
def fnExactLevelsOfCard : Claim7 := { stood := { row := fnExactLevelsOfRow, standIns := [], harness := (true, "9ba08862df3104e47ded7ad608baf2469f784837d41a14f3e4e29cafa587f905"), looks := false }, kinds := [], alts := [], laidByText := true, laidKinds := [.data, .data, .data], laidTests := true, laidLooks := .later }
def FnExactLevelsOfCardSaid : Prop := Claim7.holds Tryd.pinned (.plain (OpenSpec.ofChange fnExactLevelsOfSpec)) fnExactLevelsOfCard

/-- THE TIED CARD OF 'laws.FnExactLevelsBack'. -/
def fnExactLevelsBackCard : Claim7 := { stood := { row := fnExactLevelsBackRow, standIns := [], harness := (true, "9ba08862df3104e47ded7ad608baf2469f784837d41a14f3e4e29cafa587f905"), looks := false }, kinds := [], alts := [], laidByText := true, laidKinds := [.data, .data, .data], laidTests := true, laidLooks := .later }
def FnExactLevelsBackCardSaid : Prop := Claim7.holds Tryd.pinned (.plain (OpenSpec.ofChange fnExactLevelsBackSpec)) fnExactLevelsBackCard

/-- THE TIED CARD OF 'laws.FnExactReadLevels'. -/
def fnExactReadLevelsCard : Claim7 := { stood := { row := fnExactReadLevelsRow, standIns := [], harness := (true, "9ba08862df3104e47ded7ad608baf2469f784837d41a14f3e4e29cafa587f905"), looks := false }, kinds := [], alts := [], laidByText := true, laidKinds := [.data, .data, .data], laidTests := true, laidLooks := .later }
def FnExactReadLevelsCardSaid : Prop := Claim7.holds Tryd.pinned (.plain (OpenSpec.ofChange fnExactReadLevelsSpec)) fnExactReadLevelsCard

/-- THE SECOND FORM's CARD OF 'laws.FnExactLeft'. -/
def fnExactLeftUptoCard : Claim7 := { stood := { row := fnExactLeftUptoRow, standIns := [], harness := (true, "9ba08862df3104e47ded7ad608baf2469f784837d41a14f3e4e29cafa587f905"), looks := false }, kinds := [], alts := [], laidByText := true, laidKinds := [.data, .data, .data], laidTests := true, laidLooks := .later }
def FnExactLeftUptoCardSaid : Prop := Claim7.holds Tryd.pinned (.plain (OpenSpec.upto fnExactLeftSpec)) fnExactLeftUptoCard

/-- THE SECOND FORM's CARD OF 'laws.FnExactLevelsOf'. -/
def fnExactLevelsOfUptoCard : Claim7 := { stood := { row := fnExactLevelsOfUptoRow, standIns := [], harness := (true, "9ba08862df3104e47ded7ad608baf2469f784837d41a14f3e4e29cafa587f905"), looks := false }, kinds := [], alts := [], laidByText := true, laidKinds := [.data, .data, .data], laidTests := true, laidLooks := .later }
def FnExactLevelsOfUptoCardSaid : Prop := Claim7.holds Tryd.pinned (.plain (OpenSpec.upto fnExactLevelsOfSpec)) fnExactLevelsOfUptoCard

/-- THE SECOND FORM's CARD OF 'laws.FnExactLevelsBack'. -/
def fnExactLevelsBackUptoCard : Claim7 := { stood := { row := fnExactLevelsBackUptoRow, standIns := [], harness := (true, "9ba08862df3104e47ded7ad608baf2469f784837d41a14f3e4e29cafa587f905"), looks := false }, kinds := [], alts := [], laidByText := true, laidKinds := [.data, .data, .data], laidTests := true, laidLooks := .later }
def FnExactLevelsBackUptoCardSaid : Prop := Claim7.holds Tryd.pinned (.plain (OpenSpec.upto fnExactLevelsBackSpec)) fnExactLevelsBackUptoCard

/-- THE SECOND FORM's CARD OF 'laws.FnExactReadLevels'. -/
def fnExactReadLevelsUptoCard : Claim7 := { stood := { row := fnExactReadLevelsUptoRow, standIns := [], harness := (true, "9ba08862df3104e47ded7ad608baf2469f784837d41a14f3e4e29cafa587f905"), looks := false }, kinds := [], alts := [], laidByText := true, laidKinds := [.data, .data, .data], laidTests := true, laidLooks := .later }
def FnExactReadLevelsUptoCardSaid : Prop := Claim7.holds Tryd.pinned (.plain (OpenSpec.upto fnExactReadLevelsSpec)) fnExactReadLevelsUptoCard
end Rows
end Go.Proofs.YtlejfkjanllgbaaDoor
