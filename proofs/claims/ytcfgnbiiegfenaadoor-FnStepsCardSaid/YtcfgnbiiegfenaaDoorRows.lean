/-
  NARROWER THAN 'FOR EVERY INPUT', by the rows' own cells (each row's printed sentence says how): FnSteps: laid · FnMoreIsMore: laid · FnExactStepOf: laid · FnExactKindOf: laid · FnExactScaleOf: laid · FnExactShareOf: laid · FnExactSmallLevel: laid · FnExactSmallBack: laid · FnExactLargeLevel: laid · FnExactLargeBack: laid.
  DERIVED. THE GIVEN ROWS OF THIS SEAT. 10 by the template 'for every input the law returns true; each argument reads behind the call as it read before'; 0 by the template 'total and deterministic' (their statements: YtcfgnbiiegfenaaDoorTotals.lean).
  GIVEN WITH THE SEED: the statements are not yours to turn. If you find one false, say at which input.
  Laid BY PROGRAM, IN A SANDBOX (cutbox-rows.mjs): the forced cells as the released guide's own fill.sh prints them over the translation 7be51d7a2044342c… (all of the seat's roots in one cut). By AI agents, Wed Nov 11 2026. No macro, syntax, notation, axiom, sorry.
-/
import Derived.Test.YtcfgnbiiegfenaaDoorChecked
import GoSem.Claim
import GoSem.ClaimJoined
import GoSem.ClaimMapViews
import Derived.JoinedTies
import Derived.KernelRfl
namespace Go.Proofs.YtcfgnbiiegfenaaDoor
/- THE CELL 'sum', in the pinned program and in every row, IS THE sha256 OF THE DUMP (.gsa) THAT YtcfgnbiiegfenaaDoorProg.lean LOADS. Nothing in Lean hashes anything: it is a label: what it is worth is what the hold of that sum in a sandbox is worth. -/
noncomputable def Tryd.pinned : Pinned := { name := "ytcfgnbiiegfenaadoor", sum := "7be51d7a2044342cb02e7ae59218a98f66ab2e2c5c8cbc7925b20b40260fc8e1", checked := Tryd.checked }
namespace Rows
def none {H : Type} : Left H := { results := [], args := [] }

/- WHAT THE LISTED PACKAGE-LEVEL VARIABLES READ AS WHEN THE CALL BEGINS. Each datum BY PROGRAM (the guide's laid-datum.mjs) off the statement by which the dump's own 'gosem.cut.vars' lays the variable. In a bare row this is a premise. The card (YtcfgnbiiegfenaaDoorCards.lean) ties it to the program's text. -/
def laid_loop_example_g00960_impl_kindTable {H : Type} : DataW H := .agg [.agg [.lit (.int .i64 0), .lit (.int .i64 2)], .agg [.lit (.int .i64 2), .lit (.int .i64 1)]]
def laid_loop_example_g00960_impl_scaleTable {H : Type} : DataW H := .agg [.agg [.lit (.int .i64 10), .lit (.int .i64 16), .lit (.int .i64 13)], .agg [.lit (.int .i64 11), .lit (.int .i64 18), .lit (.int .i64 14)], .agg [.lit (.int .i64 13), .lit (.int .i64 20), .lit (.int .i64 16)], .agg [.lit (.int .i64 14), .lit (.int .i64 23), .lit (.int .i64 18)], .agg [.lit (.int .i64 16), .lit (.int .i64 25), .lit (.int .i64 20)], .agg [.lit (.int .i64 18), .lit (.int .i64 29), .lit (.int .i64 23)]]
def laid_loop_example_g00960_impl_shareTable {H : Type} : DataW H := .agg [.agg [.lit (.int .i64 13107), .lit (.int .i64 5243), .lit (.int .i64 8066)], .agg [.lit (.int .i64 11916), .lit (.int .i64 4660), .lit (.int .i64 7490)], .agg [.lit (.int .i64 10082), .lit (.int .i64 4194), .lit (.int .i64 6554)], .agg [.lit (.int .i64 9362), .lit (.int .i64 3647), .lit (.int .i64 5825)], .agg [.lit (.int .i64 8192), .lit (.int .i64 3355), .lit (.int .i64 5243)], .agg [.lit (.int .i64 7282), .lit (.int .i64 2893), .lit (.int .i64 4559)]]

/-- 'laws.FnSteps': WHATEVER THE INPUT: true; the input reads as it did. -/
def fnStepsSpec : ChangeSpec := { name := "fnSteps", vars := ["loop.example/g00960/impl.scaleTable", "loop.example/g00960/impl.kindTable", "loop.example/g00960/impl.shareTable"], fn := fun _ => fun
  | [d, g1, g2, g3] => { results := [.lit (.bool true)], args := [d], vars := [g1, g2, g3] }
  | _ => none }
def fnStepsRow : OpenClaim := { program := "ytcfgnbiiegfenaadoor", sum := "7be51d7a2044342cb02e7ae59218a98f66ab2e2c5c8cbc7925b20b40260fc8e1", func := "loop.example/g00960/laws.FnSteps", spec := "fnSteps", named := ["loop.example/g00960/impl.scaleTable", "loop.example/g00960/impl.kindTable", "loop.example/g00960/impl.shareTable"], apart := false, laid := [("loop.example/g00960/impl.kindTable", laid_loop_example_g00960_impl_kindTable), ("loop.example/g00960/impl.scaleTable", laid_loop_example_g00960_impl_scaleTable), ("loop.example/g00960/impl.shareTable", laid_loop_example_g00960_impl_shareTable)] }
def FnStepsSaid : Prop := fnStepsRow.holds Tryd.pinned (OpenSpec.ofChange fnStepsSpec)

/-- ITS FALSE NEIGHBOUR: 'it returns false'. Refute it at one input. -/
def fnStepsWrong : ChangeSpec := { name := "fnSteps", vars := ["loop.example/g00960/impl.scaleTable", "loop.example/g00960/impl.kindTable", "loop.example/g00960/impl.shareTable"], fn := fun _ => fun
  | [d, g1, g2, g3] => { results := [.lit (.bool false)], args := [d], vars := [g1, g2, g3] }
  | _ => none }
def FnStepsWrongFalsely : Prop := fnStepsRow.holds Tryd.pinned (OpenSpec.ofChange fnStepsWrong)

/-- 'laws.FnMoreIsMore': WHATEVER THE INPUT: true; the input reads as it did. -/
def fnMoreIsMoreSpec : ChangeSpec := { name := "fnMoreIsMore", vars := ["loop.example/g00960/impl.kindTable", "loop.example/g00960/impl.shareTable", "loop.example/g00960/impl.scaleTable"], fn := fun _ => fun
  | [d, g1, g2, g3] => { results := [.lit (.bool true)], args := [d], vars := [g1, g2, g3] }
  | _ => none }
def fnMoreIsMoreRow : OpenClaim := { program := "ytcfgnbiiegfenaadoor", sum := "7be51d7a2044342cb02e7ae59218a98f66ab2e2c5c8cbc7925b20b40260fc8e1", func := "loop.example/g00960/laws.FnMoreIsMore", spec := "fnMoreIsMore", named := ["loop.example/g00960/impl.kindTable", "loop.example/g00960/impl.shareTable", "loop.example/g00960/impl.scaleTable"], apart := false, laid := [("loop.example/g00960/impl.kindTable", laid_loop_example_g00960_impl_kindTable), ("loop.example/g00960/impl.scaleTable", laid_loop_example_g00960_impl_scaleTable), ("loop.example/g00960/impl.shareTable", laid_loop_example_g00960_impl_shareTable)] }
def FnMoreIsMoreSaid : Prop := fnMoreIsMoreRow.holds Tryd.pinned (OpenSpec.ofChange fnMoreIsMoreSpec)

/-- ITS FALSE NEIGHBOUR: 'it returns false'. Refute it at one input. -/
def fnMoreIsMoreWrong : ChangeSpec := { name := "fnMoreIsMore", vars := ["loop.example/g00960/impl.kindTable", "loop.example/g00960/impl.shareTable", "loop.example/g00960/impl.scaleTable"], fn := fun _ => fun
  | [d, g1, g2, g3] => { results := [.lit (.bool false)], args := [d], vars := [g1, g2, g3] }
  | _ => none }
def FnMoreIsMoreWrongFalsely : Prop := fnMoreIsMoreRow.holds Tryd.pinned (OpenSpec.ofChange fnMoreIsMoreWrong)

/-- 'laws.FnExactStepOf': WHATEVER THE INPUT: true; the input reads as it did. -/
def fnExactStepOfSpec : ChangeSpec := { name := "fnExactStepOf", vars := ["loop.example/g00960/impl.scaleTable"], fn := fun _ => fun
  | [d, g1] => { results := [.lit (.bool true)], args := [d], vars := [g1] }
  | _ => none }
def fnExactStepOfRow : OpenClaim := { program := "ytcfgnbiiegfenaadoor", sum := "7be51d7a2044342cb02e7ae59218a98f66ab2e2c5c8cbc7925b20b40260fc8e1", func := "loop.example/g00960/laws.FnExactStepOf", spec := "fnExactStepOf", named := ["loop.example/g00960/impl.scaleTable"], apart := false, laid := [("loop.example/g00960/impl.scaleTable", laid_loop_example_g00960_impl_scaleTable)] }
def FnExactStepOfSaid : Prop := fnExactStepOfRow.holds Tryd.pinned (OpenSpec.ofChange fnExactStepOfSpec)

/-- ITS FALSE NEIGHBOUR: 'it returns false'. Refute it at one input. -/
def fnExactStepOfWrong : ChangeSpec := { name := "fnExactStepOf", vars := ["loop.example/g00960/impl.scaleTable"], fn := fun _ => fun
  | [d, g1] => { results := [.lit (.bool false)], args := [d], vars := [g1] }
  | _ => none }
def FnExactStepOfWrongFalsely : Prop := fnExactStepOfRow.holds Tryd.pinned (OpenSpec.ofChange fnExactStepOfWrong)

/-- 'laws.FnExactKindOf': WHATEVER THE INPUT: true; the input reads as it did. -/
def fnExactKindOfSpec : ChangeSpec := { name := "fnExactKindOf", vars := ["loop.example/g00960/impl.kindTable"], fn := fun _ => fun
  | [d, g1] => { results := [.lit (.bool true)], args := [d], vars := [g1] }
  | _ => none }
def fnExactKindOfRow : OpenClaim := { program := "ytcfgnbiiegfenaadoor", sum := "7be51d7a2044342cb02e7ae59218a98f66ab2e2c5c8cbc7925b20b40260fc8e1", func := "loop.example/g00960/laws.FnExactKindOf", spec := "fnExactKindOf", named := ["loop.example/g00960/impl.kindTable"], apart := false, laid := [("loop.example/g00960/impl.kindTable", laid_loop_example_g00960_impl_kindTable)] }
def FnExactKindOfSaid : Prop := fnExactKindOfRow.holds Tryd.pinned (OpenSpec.ofChange fnExactKindOfSpec)

/-- ITS FALSE NEIGHBOUR: 'it returns false'. Refute it at one input. -/
def fnExactKindOfWrong : ChangeSpec := { name := "fnExactKindOf", vars := ["loop.example/g00960/impl.kindTable"], fn := fun _ => fun
  | [d, g1] => { results := [.lit (.bool false)], args := [d], vars := [g1] }
  | _ => none }
def FnExactKindOfWrongFalsely : Prop := fnExactKindOfRow.holds Tryd.pinned (OpenSpec.ofChange fnExactKindOfWrong)

/-- 'laws.FnExactScaleOf': WHATEVER THE INPUT: true; the input reads as it did. -/
def fnExactScaleOfSpec : ChangeSpec := { name := "fnExactScaleOf", vars := ["loop.example/g00960/impl.kindTable", "loop.example/g00960/impl.scaleTable"], fn := fun _ => fun
  | [d1, d2, g1, g2] => { results := [.lit (.bool true)], args := [d1, d2], vars := [g1, g2] }
  | _ => none }
def fnExactScaleOfRow : OpenClaim := { program := "ytcfgnbiiegfenaadoor", sum := "7be51d7a2044342cb02e7ae59218a98f66ab2e2c5c8cbc7925b20b40260fc8e1", func := "loop.example/g00960/laws.FnExactScaleOf", spec := "fnExactScaleOf", named := ["loop.example/g00960/impl.kindTable", "loop.example/g00960/impl.scaleTable"], apart := false, laid := [("loop.example/g00960/impl.kindTable", laid_loop_example_g00960_impl_kindTable), ("loop.example/g00960/impl.scaleTable", laid_loop_example_g00960_impl_scaleTable)] }
def FnExactScaleOfSaid : Prop := fnExactScaleOfRow.holds Tryd.pinned (OpenSpec.ofChange fnExactScaleOfSpec)

/-- ITS FALSE NEIGHBOUR: 'it returns false'. Refute it at one input. -/
def fnExactScaleOfWrong : ChangeSpec := { name := "fnExactScaleOf", vars := ["loop.example/g00960/impl.kindTable", "loop.example/g00960/impl.scaleTable"], fn := fun _ => fun
  | [d1, d2, g1, g2] => { results := [.lit (.bool false)], args := [d1, d2], vars := [g1, g2] }
  | _ => none }
def FnExactScaleOfWrongFalsely : Prop := fnExactScaleOfRow.holds Tryd.pinned (OpenSpec.ofChange fnExactScaleOfWrong)

/-- 'laws.FnExactShareOf': WHATEVER THE INPUT: true; the input reads as it did. -/
def fnExactShareOfSpec : ChangeSpec := { name := "fnExactShareOf", vars := ["loop.example/g00960/impl.kindTable", "loop.example/g00960/impl.shareTable"], fn := fun _ => fun
  | [d1, d2, g1, g2] => { results := [.lit (.bool true)], args := [d1, d2], vars := [g1, g2] }
  | _ => none }
def fnExactShareOfRow : OpenClaim := { program := "ytcfgnbiiegfenaadoor", sum := "7be51d7a2044342cb02e7ae59218a98f66ab2e2c5c8cbc7925b20b40260fc8e1", func := "loop.example/g00960/laws.FnExactShareOf", spec := "fnExactShareOf", named := ["loop.example/g00960/impl.kindTable", "loop.example/g00960/impl.shareTable"], apart := false, laid := [("loop.example/g00960/impl.kindTable", laid_loop_example_g00960_impl_kindTable), ("loop.example/g00960/impl.shareTable", laid_loop_example_g00960_impl_shareTable)] }
def FnExactShareOfSaid : Prop := fnExactShareOfRow.holds Tryd.pinned (OpenSpec.ofChange fnExactShareOfSpec)

/-- ITS FALSE NEIGHBOUR: 'it returns false'. Refute it at one input. -/
def fnExactShareOfWrong : ChangeSpec := { name := "fnExactShareOf", vars := ["loop.example/g00960/impl.kindTable", "loop.example/g00960/impl.shareTable"], fn := fun _ => fun
  | [d1, d2, g1, g2] => { results := [.lit (.bool false)], args := [d1, d2], vars := [g1, g2] }
  | _ => none }
def FnExactShareOfWrongFalsely : Prop := fnExactShareOfRow.holds Tryd.pinned (OpenSpec.ofChange fnExactShareOfWrong)

/-- 'laws.FnExactSmallLevel': WHATEVER THE INPUT: true; the input reads as it did. -/
def fnExactSmallLevelSpec : ChangeSpec := { name := "fnExactSmallLevel", vars := ["loop.example/g00960/impl.kindTable", "loop.example/g00960/impl.shareTable"], fn := fun _ => fun
  | [d1, d2, d3, g1, g2] => { results := [.lit (.bool true)], args := [d1, d2, d3], vars := [g1, g2] }
  | _ => none }
def fnExactSmallLevelRow : OpenClaim := { program := "ytcfgnbiiegfenaadoor", sum := "7be51d7a2044342cb02e7ae59218a98f66ab2e2c5c8cbc7925b20b40260fc8e1", func := "loop.example/g00960/laws.FnExactSmallLevel", spec := "fnExactSmallLevel", named := ["loop.example/g00960/impl.kindTable", "loop.example/g00960/impl.shareTable"], apart := false, laid := [("loop.example/g00960/impl.kindTable", laid_loop_example_g00960_impl_kindTable), ("loop.example/g00960/impl.shareTable", laid_loop_example_g00960_impl_shareTable)] }
def FnExactSmallLevelSaid : Prop := fnExactSmallLevelRow.holds Tryd.pinned (OpenSpec.ofChange fnExactSmallLevelSpec)

/-- ITS FALSE NEIGHBOUR: 'it returns false'. Refute it at one input. -/
def fnExactSmallLevelWrong : ChangeSpec := { name := "fnExactSmallLevel", vars := ["loop.example/g00960/impl.kindTable", "loop.example/g00960/impl.shareTable"], fn := fun _ => fun
  | [d1, d2, d3, g1, g2] => { results := [.lit (.bool false)], args := [d1, d2, d3], vars := [g1, g2] }
  | _ => none }
def FnExactSmallLevelWrongFalsely : Prop := fnExactSmallLevelRow.holds Tryd.pinned (OpenSpec.ofChange fnExactSmallLevelWrong)

/-- 'laws.FnExactSmallBack': WHATEVER THE INPUT: true; the input reads as it did. -/
def fnExactSmallBackSpec : ChangeSpec := { name := "fnExactSmallBack", vars := ["loop.example/g00960/impl.kindTable", "loop.example/g00960/impl.scaleTable"], fn := fun _ => fun
  | [d1, d2, d3, g1, g2] => { results := [.lit (.bool true)], args := [d1, d2, d3], vars := [g1, g2] }
  | _ => none }
def fnExactSmallBackRow : OpenClaim := { program := "ytcfgnbiiegfenaadoor", sum := "7be51d7a2044342cb02e7ae59218a98f66ab2e2c5c8cbc7925b20b40260fc8e1", func := "loop.example/g00960/laws.FnExactSmallBack", spec := "fnExactSmallBack", named := ["loop.example/g00960/impl.kindTable", "loop.example/g00960/impl.scaleTable"], apart := false, laid := [("loop.example/g00960/impl.kindTable", laid_loop_example_g00960_impl_kindTable), ("loop.example/g00960/impl.scaleTable", laid_loop_example_g00960_impl_scaleTable)] }
def FnExactSmallBackSaid : Prop := fnExactSmallBackRow.holds Tryd.pinned (OpenSpec.ofChange fnExactSmallBackSpec)

/-- ITS FALSE NEIGHBOUR: 'it returns false'. Refute it at one input. -/
def fnExactSmallBackWrong : ChangeSpec := { name := "fnExactSmallBack", vars := ["loop.example/g00960/impl.kindTable", "loop.example/g00960/impl.scaleTable"], fn := fun _ => fun
  | [d1, d2, d3, g1, g2] => { results := [.lit (.bool false)], args := [d1, d2, d3], vars := [g1, g2] }
  | _ => none }
def FnExactSmallBackWrongFalsely : Prop := fnExactSmallBackRow.holds Tryd.pinned (OpenSpec.ofChange fnExactSmallBackWrong)

/-- 'laws.FnExactLargeLevel': WHATEVER THE INPUT: true; the input reads as it did. -/
def fnExactLargeLevelSpec : ChangeSpec := { name := "fnExactLargeLevel", vars := ["loop.example/g00960/impl.scaleTable"], fn := fun _ => fun
  | [d1, d2, g1] => { results := [.lit (.bool true)], args := [d1, d2], vars := [g1] }
  | _ => none }
def fnExactLargeLevelRow : OpenClaim := { program := "ytcfgnbiiegfenaadoor", sum := "7be51d7a2044342cb02e7ae59218a98f66ab2e2c5c8cbc7925b20b40260fc8e1", func := "loop.example/g00960/laws.FnExactLargeLevel", spec := "fnExactLargeLevel", named := ["loop.example/g00960/impl.scaleTable"], apart := false, laid := [("loop.example/g00960/impl.scaleTable", laid_loop_example_g00960_impl_scaleTable)] }
def FnExactLargeLevelSaid : Prop := fnExactLargeLevelRow.holds Tryd.pinned (OpenSpec.ofChange fnExactLargeLevelSpec)

/-- ITS FALSE NEIGHBOUR: 'it returns false'. Refute it at one input. -/
def fnExactLargeLevelWrong : ChangeSpec := { name := "fnExactLargeLevel", vars := ["loop.example/g00960/impl.scaleTable"], fn := fun _ => fun
  | [d1, d2, g1] => { results := [.lit (.bool false)], args := [d1, d2], vars := [g1] }
  | _ => none }
def FnExactLargeLevelWrongFalsely : Prop := fnExactLargeLevelRow.holds Tryd.pinned (OpenSpec.ofChange fnExactLargeLevelWrong)

/-- 'laws.FnExactLargeBack': WHATEVER THE INPUT: true; the input reads as it did. -/
def fnExactLargeBackSpec : ChangeSpec := { name := "fnExactLargeBack", vars := ["loop.example/g00960/impl.scaleTable"], fn := fun _ => fun
  | [d1, d2, g1] => { results := [.lit (.bool true)], args := [d1, d2], vars := [g1] }
  | _ => none }
def fnExactLargeBackRow : OpenClaim := { program := "ytcfgnbiiegfenaadoor", sum := "7be51d7a2044342cb02e7ae59218a98f66ab2e2c5c8cbc7925b20b40260fc8e1", func := "loop.example/g00960/laws.FnExactLargeBack", spec := "fnExactLargeBack", named := ["loop.example/g00960/impl.scaleTable"], apart := false, laid := [("loop.example/g00960/impl.scaleTable", laid_loop_example_g00960_impl_scaleTable)] }
def FnExactLargeBackSaid : Prop := fnExactLargeBackRow.holds Tryd.pinned (OpenSpec.ofChange fnExactLargeBackSpec)

/-- ITS FALSE NEIGHBOUR: 'it returns false'. Refute it at one input. -/
def fnExactLargeBackWrong : ChangeSpec := { name := "fnExactLargeBack", vars := ["loop.example/g00960/impl.scaleTable"], fn := fun _ => fun
  | [d1, d2, g1] => { results := [.lit (.bool false)], args := [d1, d2], vars := [g1] }
  | _ => none }
def FnExactLargeBackWrongFalsely : Prop := fnExactLargeBackRow.holds Tryd.pinned (OpenSpec.ofChange fnExactLargeBackWrong)

/- THE SECOND FORM. 'bulk': how many values and letters a reading holds, each counted each time it is reached (what is shared counts as often as it is met; a slice's spare places count too). A statement '..UptoSaid' is the law's where the arguments, and the package variables that the reading takes, are together of bulk at most 1048576: NARROWER than '..Said'. Prove '..Said' where nothing that the law and all that it calls make is longer than what came in: it says more and counts as full. Else prove '..UptoSaid'. A law counts once. -/
mutual
def uptoBulk {H : Type} : DataW H → Nat
  | .lit (.string bytes) => bytes.length + 1
  | .lit _ => 1
  | .nil => 1
  | .ptr d => uptoBulk d + 1
  | .slice elems spare => uptoBulkAll elems + uptoBulkAll spare + 1
  | .agg parts => uptoBulkAll parts + 1
  | .iface _ d => uptoBulk d + 1
  | .map entries => uptoBulkEntries entries + 1
  | .held _ => 1
def uptoBulkAll {H : Type} : List (DataW H) → Nat
  | [] => 0
  | d :: r => uptoBulk d + uptoBulkAll r
def uptoBulkEntries {H : Type} : List (Lit × DataW H) → Nat
  | [] => 0
  | x :: r => uptoBulkEntry x + uptoBulkEntries r
def uptoBulkEntry {H : Type} : Lit × DataW H → Nat
  | (.string bytes, d) => bytes.length + uptoBulk d + 1
  | (_, d) => uptoBulk d + 1
 end
def uptoSmall : (H : Type) → List (DataW H) → Bool := fun _ ds => decide (uptoBulkAll ds ≤ 1048576)
def OpenSpec.upto (s : _root_.Go.ChangeSpec) : _root_.Go.OpenSpec := { _root_.Go.OpenSpec.ofChange s with cond := some uptoSmall }

/-- 'laws.FnSteps', WHERE WHAT IT READS IS OF BULK AT MOST 1048576: true; the input reads as it did. -/
def fnStepsUptoRow : OpenClaim := { program := "ytcfgnbiiegfenaadoor", sum := "7be51d7a2044342cb02e7ae59218a98f66ab2e2c5c8cbc7925b20b40260fc8e1", func := "loop.example/g00960/laws.FnSteps", spec := "fnSteps", named := ["loop.example/g00960/impl.scaleTable", "loop.example/g00960/impl.kindTable", "loop.example/g00960/impl.shareTable"], apart := false, laid := [("loop.example/g00960/impl.kindTable", laid_loop_example_g00960_impl_kindTable), ("loop.example/g00960/impl.scaleTable", laid_loop_example_g00960_impl_scaleTable), ("loop.example/g00960/impl.shareTable", laid_loop_example_g00960_impl_shareTable)], narrowed := true }
def FnStepsUptoSaid : Prop := fnStepsUptoRow.holds Tryd.pinned (OpenSpec.upto fnStepsSpec)

/-- 'laws.FnMoreIsMore', WHERE WHAT IT READS IS OF BULK AT MOST 1048576: true; the input reads as it did. -/
def fnMoreIsMoreUptoRow : OpenClaim := { program := "ytcfgnbiiegfenaadoor", sum := "7be51d7a2044342cb02e7ae59218a98f66ab2e2c5c8cbc7925b20b40260fc8e1", func := "loop.example/g00960/laws.FnMoreIsMore", spec := "fnMoreIsMore", named := ["loop.example/g00960/impl.kindTable", "loop.example/g00960/impl.shareTable", "loop.example/g00960/impl.scaleTable"], apart := false, laid := [("loop.example/g00960/impl.kindTable", laid_loop_example_g00960_impl_kindTable), ("loop.example/g00960/impl.scaleTable", laid_loop_example_g00960_impl_scaleTable), ("loop.example/g00960/impl.shareTable", laid_loop_example_g00960_impl_shareTable)], narrowed := true }
def FnMoreIsMoreUptoSaid : Prop := fnMoreIsMoreUptoRow.holds Tryd.pinned (OpenSpec.upto fnMoreIsMoreSpec)

/-- 'laws.FnExactStepOf', WHERE WHAT IT READS IS OF BULK AT MOST 1048576: true; the input reads as it did. -/
def fnExactStepOfUptoRow : OpenClaim := { program := "ytcfgnbiiegfenaadoor", sum := "7be51d7a2044342cb02e7ae59218a98f66ab2e2c5c8cbc7925b20b40260fc8e1", func := "loop.example/g00960/laws.FnExactStepOf", spec := "fnExactStepOf", named := ["loop.example/g00960/impl.scaleTable"], apart := false, laid := [("loop.example/g00960/impl.scaleTable", laid_loop_example_g00960_impl_scaleTable)], narrowed := true }
def FnExactStepOfUptoSaid : Prop := fnExactStepOfUptoRow.holds Tryd.pinned (OpenSpec.upto fnExactStepOfSpec)

/-- 'laws.FnExactKindOf', WHERE WHAT IT READS IS OF BULK AT MOST 1048576: true; the input reads as it did. -/
def fnExactKindOfUptoRow : OpenClaim := { program := "ytcfgnbiiegfenaadoor", sum := "7be51d7a2044342cb02e7ae59218a98f66ab2e2c5c8cbc7925b20b40260fc8e1", func := "loop.example/g00960/laws.FnExactKindOf", spec := "fnExactKindOf", named := ["loop.example/g00960/impl.kindTable"], apart := false, laid := [("loop.example/g00960/impl.kindTable", laid_loop_example_g00960_impl_kindTable)], narrowed := true }
def FnExactKindOfUptoSaid : Prop := fnExactKindOfUptoRow.holds Tryd.pinned (OpenSpec.upto fnExactKindOfSpec)

/-- 'laws.FnExactScaleOf', WHERE WHAT IT READS IS OF BULK AT MOST 1048576: true; the input reads as it did. -/
def fnExactScaleOfUptoRow : OpenClaim := { program := "ytcfgnbiiegfenaadoor", sum := "7be51d7a2044342cb02e7ae59218a98f66ab2e2c5c8cbc7925b20b40260fc8e1", func := "loop.example/g00960/laws.FnExactScaleOf", spec := "fnExactScaleOf", named := ["loop.example/g00960/impl.kindTable", "loop.example/g00960/impl.scaleTable"], apart := false, laid := [("loop.example/g00960/impl.kindTable", laid_loop_example_g00960_impl_kindTable), ("loop.example/g00960/impl.scaleTable", laid_loop_example_g00960_impl_scaleTable)], narrowed := true }
def FnExactScaleOfUptoSaid : Prop := fnExactScaleOfUptoRow.holds Tryd.pinned (OpenSpec.upto fnExactScaleOfSpec)

/-- 'laws.FnExactShareOf', WHERE WHAT IT READS IS OF BULK AT MOST 1048576: true; the input reads as it did. -/
def fnExactShareOfUptoRow : OpenClaim := { program := "ytcfgnbiiegfenaadoor", sum := "7be51d7a2044342cb02e7ae59218a98f66ab2e2c5c8cbc7925b20b40260fc8e1", func := "loop.example/g00960/laws.FnExactShareOf", spec := "fnExactShareOf", named := ["loop.example/g00960/impl.kindTable", "loop.example/g00960/impl.shareTable"], apart := false, laid := [("loop.example/g00960/impl.kindTable", laid_loop_example_g00960_impl_kindTable), ("loop.example/g00960/impl.shareTable", laid_loop_example_g00960_impl_shareTable)], narrowed := true }
def FnExactShareOfUptoSaid : Prop := fnExactShareOfUptoRow.holds Tryd.pinned (OpenSpec.upto fnExactShareOfSpec)

/-- 'laws.FnExactSmallLevel', WHERE WHAT IT READS IS OF BULK AT MOST 1048576: true; the input reads as it did. -/
def fnExactSmallLevelUptoRow : OpenClaim := { program := "ytcfgnbiiegfenaadoor", sum := "7be51d7a2044342cb02e7ae59218a98f66ab2e2c5c8cbc7925b20b40260fc8e1", func := "loop.example/g00960/laws.FnExactSmallLevel", spec := "fnExactSmallLevel", named := ["loop.example/g00960/impl.kindTable", "loop.example/g00960/impl.shareTable"], apart := false, laid := [("loop.example/g00960/impl.kindTable", laid_loop_example_g00960_impl_kindTable), ("loop.example/g00960/impl.shareTable", laid_loop_example_g00960_impl_shareTable)], narrowed := true }
def FnExactSmallLevelUptoSaid : Prop := fnExactSmallLevelUptoRow.holds Tryd.pinned (OpenSpec.upto fnExactSmallLevelSpec)

/-- 'laws.FnExactSmallBack', WHERE WHAT IT READS IS OF BULK AT MOST 1048576: true; the input reads as it did. -/
def fnExactSmallBackUptoRow : OpenClaim := { program := "ytcfgnbiiegfenaadoor", sum := "7be51d7a2044342cb02e7ae59218a98f66ab2e2c5c8cbc7925b20b40260fc8e1", func := "loop.example/g00960/laws.FnExactSmallBack", spec := "fnExactSmallBack", named := ["loop.example/g00960/impl.kindTable", "loop.example/g00960/impl.scaleTable"], apart := false, laid := [("loop.example/g00960/impl.kindTable", laid_loop_example_g00960_impl_kindTable), ("loop.example/g00960/impl.scaleTable", laid_loop_example_g00960_impl_scaleTable)], narrowed := true }
def FnExactSmallBackUptoSaid : Prop := fnExactSmallBackUptoRow.holds Tryd.pinned (OpenSpec.upto fnExactSmallBackSpec)

/-- 'laws.FnExactLargeLevel', WHERE WHAT IT READS IS OF BULK AT MOST 1048576: true; the input reads as it did. -/
def fnExactLargeLevelUptoRow : OpenClaim := { program := "ytcfgnbiiegfenaadoor", sum := "7be51d7a2044342cb02e7ae59218a98f66ab2e2c5c8cbc7925b20b40260fc8e1", func := "loop.example/g00960/laws.FnExactLargeLevel", spec := "fnExactLargeLevel", named := ["loop.example/g00960/impl.scaleTable"], apart := false, laid := [("loop.example/g00960/impl.scaleTable", laid_loop_example_g00960_impl_scaleTable)], narrowed := true }
def FnExactLargeLevelUptoSaid : Prop := fnExactLargeLevelUptoRow.holds Tryd.pinned (OpenSpec.upto fnExactLargeLevelSpec)

/-- 'laws.FnExactLargeBack', WHERE WHAT IT READS IS OF BULK AT MOST 1048576: true; the input reads as it did. -/
def fnExactLargeBackUptoRow : OpenClaim := { program := "ytcfgnbiiegfenaadoor", sum := "7be51d7a2044342cb02e7ae59218a98f66ab2e2c5c8cbc7925b20b40260fc8e1", func := "loop.example/g00960/laws.FnExactLargeBack", spec := "fnExactLargeBack", named := ["loop.example/g00960/impl.scaleTable"], apart := false, laid := [("loop.example/g00960/impl.scaleTable", laid_loop_example_g00960_impl_scaleTable)], narrowed := true }
def FnExactLargeBackUptoSaid : Prop := fnExactLargeBackUptoRow.holds Tryd.pinned (OpenSpec.upto fnExactLargeBackSpec)

end Rows
end Go.Proofs.YtcfgnbiiegfenaaDoor
