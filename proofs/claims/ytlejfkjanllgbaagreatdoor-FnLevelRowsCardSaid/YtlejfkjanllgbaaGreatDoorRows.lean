/-
  NARROWER THAN 'FOR EVERY INPUT', by the rows' own cells (each row's printed sentence says how): FnLevelRows: laid · FnExactLevelsRow: laid.
  DERIVED. THE GIVEN ROWS OF THIS SEAT. 2 by the template 'for every input the law returns true; each argument reads behind the call as it read before'; 0 by the template 'total and deterministic' (their statements: YtlejfkjanllgbaaGreatDoorTotals.lean).
  GIVEN WITH THE SEED: the statements are not yours to turn. If you find one false, say at which input.
  Laid BY PROGRAM, IN A SANDBOX (cutbox-rows.mjs): the forced cells as the released guide's own fill.sh prints them over the translation 715d36339e4d9a4f… (all of the seat's roots in one cut). By AI agents, Wed Nov 11 2026. No macro, syntax, notation, axiom, sorry.
-/
import Derived.Test.YtlejfkjanllgbaaGreatDoorChecked
import GoSem.Claim
import GoSem.ClaimJoined
import GoSem.ClaimMapViews
import Derived.JoinedTies
import Derived.KernelRfl
namespace Go.Proofs.YtlejfkjanllgbaaGreatDoor
/- THE CELL 'sum', in the pinned program and in every row, IS THE sha256 OF THE DUMP (.gsa) THAT YtlejfkjanllgbaaGreatDoorProg.lean LOADS. Nothing in Lean hashes anything: it is a label: what it is worth is what the hold of that sum in a sandbox is worth. -/
noncomputable def Tryz.pinned : Pinned := { name := "ytlejfkjanllgbaagreatdoor", sum := "715d36339e4d9a4fcab1e48bc6f699ed6ae7c135919875cab0896b14112be582", checked := Tryz.checked }
namespace Rows
def none {H : Type} : Left H := { results := [], args := [] }

/- WHAT THE LISTED PACKAGE-LEVEL VARIABLES READ AS WHEN THE CALL BEGINS. Each datum BY PROGRAM (the guide's laid-datum.mjs) off the statement by which the dump's own 'gosem.cut.vars' lays the variable. In a bare row this is a premise. The card (YtlejfkjanllgbaaGreatDoorCards.lean) ties it to the program's text. -/
def laid_loop_example_g00960_impl_kindTable {H : Type} : DataW H := .agg [.agg [.lit (.int .i64 0), .lit (.int .i64 2)], .agg [.lit (.int .i64 2), .lit (.int .i64 1)]]
def laid_loop_example_g00960_impl_scaleTable {H : Type} : DataW H := .agg [.agg [.lit (.int .i64 10), .lit (.int .i64 16), .lit (.int .i64 13)], .agg [.lit (.int .i64 11), .lit (.int .i64 18), .lit (.int .i64 14)], .agg [.lit (.int .i64 13), .lit (.int .i64 20), .lit (.int .i64 16)], .agg [.lit (.int .i64 14), .lit (.int .i64 23), .lit (.int .i64 18)], .agg [.lit (.int .i64 16), .lit (.int .i64 25), .lit (.int .i64 20)], .agg [.lit (.int .i64 18), .lit (.int .i64 29), .lit (.int .i64 23)]]
def laid_loop_example_g00960_impl_shareTable {H : Type} : DataW H := .agg [.agg [.lit (.int .i64 13107), .lit (.int .i64 5243), .lit (.int .i64 8066)], .agg [.lit (.int .i64 11916), .lit (.int .i64 4660), .lit (.int .i64 7490)], .agg [.lit (.int .i64 10082), .lit (.int .i64 4194), .lit (.int .i64 6554)], .agg [.lit (.int .i64 9362), .lit (.int .i64 3647), .lit (.int .i64 5825)], .agg [.lit (.int .i64 8192), .lit (.int .i64 3355), .lit (.int .i64 5243)], .agg [.lit (.int .i64 7282), .lit (.int .i64 2893), .lit (.int .i64 4559)]]

/-- 'laws.FnLevelRows': WHATEVER THE INPUT: true; the input reads as it did. -/
def fnLevelRowsSpec : ChangeSpec := { name := "fnLevelRows", vars := ["loop.example/g00960/impl.kindTable", "loop.example/g00960/impl.shareTable", "loop.example/g00960/impl.scaleTable"], fn := fun _ => fun
  | [d, g1, g2, g3] => { results := [.lit (.bool true)], args := [d], vars := [g1, g2, g3] }
  | _ => none }
def fnLevelRowsRow : OpenClaim := { program := "ytlejfkjanllgbaagreatdoor", sum := "715d36339e4d9a4fcab1e48bc6f699ed6ae7c135919875cab0896b14112be582", func := "loop.example/g00960/laws.FnLevelRows", spec := "fnLevelRows", inPlace := ["internal/abi.NoEscape", "internal/bytealg.MakeNoZero", "internal/bytealg.IndexByteString"], unfollowed := true, recurses := true, named := ["loop.example/g00960/impl.kindTable", "loop.example/g00960/impl.shareTable", "loop.example/g00960/impl.scaleTable"], apart := false, laid := [("loop.example/g00960/impl.kindTable", laid_loop_example_g00960_impl_kindTable), ("loop.example/g00960/impl.scaleTable", laid_loop_example_g00960_impl_scaleTable), ("loop.example/g00960/impl.shareTable", laid_loop_example_g00960_impl_shareTable)] }
def FnLevelRowsSaid : Prop := fnLevelRowsRow.holds Tryz.pinned (OpenSpec.ofChange fnLevelRowsSpec)

/-- ITS FALSE NEIGHBOUR: 'it returns false'. Refute it at one input. -/
def fnLevelRowsWrong : ChangeSpec := { name := "fnLevelRows", vars := ["loop.example/g00960/impl.kindTable", "loop.example/g00960/impl.shareTable", "loop.example/g00960/impl.scaleTable"], fn := fun _ => fun
  | [d, g1, g2, g3] => { results := [.lit (.bool false)], args := [d], vars := [g1, g2, g3] }
  | _ => none }
def FnLevelRowsWrongFalsely : Prop := fnLevelRowsRow.holds Tryz.pinned (OpenSpec.ofChange fnLevelRowsWrong)

/-- 'laws.FnExactLevelsRow': WHATEVER THE INPUT: true; the input reads as it did. -/
def fnExactLevelsRowSpec : ChangeSpec := { name := "fnExactLevelsRow", vars := ["loop.example/g00960/impl.kindTable", "loop.example/g00960/impl.shareTable", "loop.example/g00960/impl.scaleTable"], fn := fun _ => fun
  | [d1, d2, g1, g2, g3] => { results := [.lit (.bool true)], args := [d1, d2], vars := [g1, g2, g3] }
  | _ => none }
def fnExactLevelsRowRow : OpenClaim := { program := "ytlejfkjanllgbaagreatdoor", sum := "715d36339e4d9a4fcab1e48bc6f699ed6ae7c135919875cab0896b14112be582", func := "loop.example/g00960/laws.FnExactLevelsRow", spec := "fnExactLevelsRow", inPlace := ["internal/abi.NoEscape", "internal/bytealg.MakeNoZero"], unfollowed := true, recurses := true, named := ["loop.example/g00960/impl.kindTable", "loop.example/g00960/impl.shareTable", "loop.example/g00960/impl.scaleTable"], apart := false, laid := [("loop.example/g00960/impl.kindTable", laid_loop_example_g00960_impl_kindTable), ("loop.example/g00960/impl.scaleTable", laid_loop_example_g00960_impl_scaleTable), ("loop.example/g00960/impl.shareTable", laid_loop_example_g00960_impl_shareTable)] }
def FnExactLevelsRowSaid : Prop := fnExactLevelsRowRow.holds Tryz.pinned (OpenSpec.ofChange fnExactLevelsRowSpec)

/-- ITS FALSE NEIGHBOUR: 'it returns false'. Refute it at one input. -/
def fnExactLevelsRowWrong : ChangeSpec := { name := "fnExactLevelsRow", vars := ["loop.example/g00960/impl.kindTable", "loop.example/g00960/impl.shareTable", "loop.example/g00960/impl.scaleTable"], fn := fun _ => fun
  | [d1, d2, g1, g2, g3] => { results := [.lit (.bool false)], args := [d1, d2], vars := [g1, g2, g3] }
  | _ => none }
def FnExactLevelsRowWrongFalsely : Prop := fnExactLevelsRowRow.holds Tryz.pinned (OpenSpec.ofChange fnExactLevelsRowWrong)

/- THE SECOND FORM. 'bulk': how many values and letters a reading holds, each counted each time it is reached (what is shared counts as often as it is met; a slice's spare places count too). A statement '..UptoSaid' is the law's where the arguments, and the package variables that the reading takes, are together of bulk at most 1048576: NARROWER than '..Said'. Prove '..Said' where nothing that the law and all that it calls make is longer than what came in: it says more and counts as full. Else prove '..UptoSaid'. A law counts once. -/
mutual
def uptoBulk {H : Type} : DataW H → Nat
  | .lit (.string bytes) => bytes.length + 1
  | .lit _ => 1
  | .nil => 1
  | .ptr d => uptoBulk d + 1
  | .slice elems spare => uptoBulkAll elems + uptoBulkAll spare + 1
  | .agg parts => uptoBulkAll parts + 1
  | .iface _ d => uptoBulk d + 1
  | .map entries => uptoBulkEntries entries + 1
  | .held _ => 1
def uptoBulkAll {H : Type} : List (DataW H) → Nat
  | [] => 0
  | d :: r => uptoBulk d + uptoBulkAll r
def uptoBulkEntries {H : Type} : List (Lit × DataW H) → Nat
  | [] => 0
  | x :: r => uptoBulkEntry x + uptoBulkEntries r
def uptoBulkEntry {H : Type} : Lit × DataW H → Nat
  | (.string bytes, d) => bytes.length + uptoBulk d + 1
  | (_, d) => uptoBulk d + 1
 end
def uptoSmall : (H : Type) → List (DataW H) → Bool := fun _ ds => decide (uptoBulkAll ds ≤ 1048576)
def OpenSpec.upto (s : _root_.Go.ChangeSpec) : _root_.Go.OpenSpec := { _root_.Go.OpenSpec.ofChange s with cond := some uptoSmall }

/-- 'laws.FnLevelRows', WHERE WHAT IT READS IS OF BULK AT MOST 1048576: true; the input reads as it did. -/
def fnLevelRowsUptoRow : OpenClaim := { program := "ytlejfkjanllgbaagreatdoor", sum := "715d36339e4d9a4fcab1e48bc6f699ed6ae7c135919875cab0896b14112be582", func := "loop.example/g00960/laws.FnLevelRows", spec := "fnLevelRows", inPlace := ["internal/abi.NoEscape", "internal/bytealg.MakeNoZero", "internal/bytealg.IndexByteString"], unfollowed := true, recurses := true, named := ["loop.example/g00960/impl.kindTable", "loop.example/g00960/impl.shareTable", "loop.example/g00960/impl.scaleTable"], apart := false, laid := [("loop.example/g00960/impl.kindTable", laid_loop_example_g00960_impl_kindTable), ("loop.example/g00960/impl.scaleTable", laid_loop_example_g00960_impl_scaleTable), ("loop.example/g00960/impl.shareTable", laid_loop_example_g00960_impl_shareTable)], narrowed := true }
def FnLevelRowsUptoSaid : Prop := fnLevelRowsUptoRow.holds Tryz.pinned (OpenSpec.upto fnLevelRowsSpec)

/-- 'laws.FnExactLevelsRow', WHERE WHAT IT READS IS OF BULK AT MOST 1048576: true; the input reads as it did. -/
def fnExactLevelsRowUptoRow : OpenClaim := { program := "ytlejfkjanllgbaagreatdoor", sum := "715d36339e4d9a4fcab1e48bc6f699ed6ae7c135919875cab0896b14112be582", func := "loop.example/g00960/laws.FnExactLevelsRow", spec := "fnExactLevelsRow", inPlace := ["internal/abi.NoEscape", "internal/bytealg.MakeNoZero"], unfollowed := true, recurses := true, named := ["loop.example/g00960/impl.kindTable", "loop.example/g00960/impl.shareTable", "loop.example/g00960/impl.scaleTable"], apart := false, laid := [("loop.example/g00960/impl.kindTable", laid_loop_example_g00960_impl_kindTable), ("loop.example/g00960/impl.scaleTable", laid_loop_example_g00960_impl_scaleTable), ("loop.example/g00960/impl.shareTable", laid_loop_example_g00960_impl_shareTable)], narrowed := true }
def FnExactLevelsRowUptoSaid : Prop := fnExactLevelsRowUptoRow.holds Tryz.pinned (OpenSpec.upto fnExactLevelsRowSpec)

end Rows
end Go.Proofs.YtlejfkjanllgbaaGreatDoor
