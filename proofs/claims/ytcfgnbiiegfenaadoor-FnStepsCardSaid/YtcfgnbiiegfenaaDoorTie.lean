/-
  DERIVED. GIVEN WITH THE SEED: THE PROGRAM's TIES (one call each: nine closed facts by the kernel) AND EACH ROW's TIE, after the 31st guide's Derived/Test/Toyas{Tie, Card}.lean. No idea stands in it: it is a product of the set-up. Laid BY PROGRAM, IN A SANDBOX (cutbox-door.mjs). By AI agents, Wed Nov 11 2026. No macro, syntax, notation, axiom, sorry.
-/
import Derived.Test.YtcfgnbiiegfenaaDoorRows
import Derived.LaidByTextLater
import Derived.SevenTiedAt
import Derived.LaidSub
import Derived.LaidOnce
namespace Go.Proofs.YtcfgnbiiegfenaaDoor
open Go
set_option maxRecDepth 100000
theorem seatTie1 : Tryd.prog.laidByTextLater [("loop.example/g00960/impl.kindTable", Rows.laid_loop_example_g00960_impl_kindTable), ("loop.example/g00960/impl.scaleTable", Rows.laid_loop_example_g00960_impl_scaleTable), ("loop.example/g00960/impl.shareTable", Rows.laid_loop_example_g00960_impl_shareTable)] [.data, .data, .data] true :=
  Program.laidByTextLater_by_one 38 8 19 (by kernel_rfl) (by kernel_rfl) (by kernel_rfl) (by kernel_rfl) (by kernel_rfl) (by kernel_rfl) (fun _ _ => by kernel_rfl)
theorem noOwnUnsafe : Tryd.pinned.checked.prog.headLifts.contains "ownunsafe" = false := by kernel_rfl
theorem tie : Tryd.prog.laidByTextLater [("loop.example/g00960/impl.kindTable", Rows.laid_loop_example_g00960_impl_kindTable), ("loop.example/g00960/impl.scaleTable", Rows.laid_loop_example_g00960_impl_scaleTable), ("loop.example/g00960/impl.shareTable", Rows.laid_loop_example_g00960_impl_shareTable)] [.data, .data, .data] true :=
  Program.laidByTextLater.sub seatTie1 ["loop.example/g00960/impl.kindTable", "loop.example/g00960/impl.scaleTable", "loop.example/g00960/impl.shareTable"] (by kernel_rfl) (by kernel_rfl)
theorem fnSteps_row_tie : Rows.fnStepsRow.laidByTextAt .later Tryd.pinned [.data, .data, .data] true :=
  OpenClaim.laidByTextAt_later rfl rfl tie noOwnUnsafe
theorem fnMoreIsMore_row_tie : Rows.fnMoreIsMoreRow.laidByTextAt .later Tryd.pinned [.data, .data, .data] true :=
  OpenClaim.laidByTextAt_later rfl rfl tie noOwnUnsafe
theorem tie2 : Tryd.prog.laidByTextLater [("loop.example/g00960/impl.scaleTable", Rows.laid_loop_example_g00960_impl_scaleTable)] [.data] true :=
  Program.laidByTextLater.sub seatTie1 ["loop.example/g00960/impl.scaleTable"] (by kernel_rfl) (by kernel_rfl)
theorem fnExactStepOf_row_tie : Rows.fnExactStepOfRow.laidByTextAt .later Tryd.pinned [.data] true :=
  OpenClaim.laidByTextAt_later rfl rfl tie2 noOwnUnsafe
theorem fnExactLargeLevel_row_tie : Rows.fnExactLargeLevelRow.laidByTextAt .later Tryd.pinned [.data] true :=
  OpenClaim.laidByTextAt_later rfl rfl tie2 noOwnUnsafe
theorem fnExactLargeBack_row_tie : Rows.fnExactLargeBackRow.laidByTextAt .later Tryd.pinned [.data] true :=
  OpenClaim.laidByTextAt_later rfl rfl tie2 noOwnUnsafe
theorem tie3 : Tryd.prog.laidByTextLater [("loop.example/g00960/impl.kindTable", Rows.laid_loop_example_g00960_impl_kindTable)] [.data] true :=
  Program.laidByTextLater.sub seatTie1 ["loop.example/g00960/impl.kindTable"] (by kernel_rfl) (by kernel_rfl)
theorem fnExactKindOf_row_tie : Rows.fnExactKindOfRow.laidByTextAt .later Tryd.pinned [.data] true :=
  OpenClaim.laidByTextAt_later rfl rfl tie3 noOwnUnsafe
theorem tie4 : Tryd.prog.laidByTextLater [("loop.example/g00960/impl.kindTable", Rows.laid_loop_example_g00960_impl_kindTable), ("loop.example/g00960/impl.scaleTable", Rows.laid_loop_example_g00960_impl_scaleTable)] [.data, .data] true :=
  Program.laidByTextLater.sub seatTie1 ["loop.example/g00960/impl.kindTable", "loop.example/g00960/impl.scaleTable"] (by kernel_rfl) (by kernel_rfl)
theorem fnExactScaleOf_row_tie : Rows.fnExactScaleOfRow.laidByTextAt .later Tryd.pinned [.data, .data] true :=
  OpenClaim.laidByTextAt_later rfl rfl tie4 noOwnUnsafe
theorem fnExactSmallBack_row_tie : Rows.fnExactSmallBackRow.laidByTextAt .later Tryd.pinned [.data, .data] true :=
  OpenClaim.laidByTextAt_later rfl rfl tie4 noOwnUnsafe
theorem tie5 : Tryd.prog.laidByTextLater [("loop.example/g00960/impl.kindTable", Rows.laid_loop_example_g00960_impl_kindTable), ("loop.example/g00960/impl.shareTable", Rows.laid_loop_example_g00960_impl_shareTable)] [.data, .data] true :=
  Program.laidByTextLater.sub seatTie1 ["loop.example/g00960/impl.kindTable", "loop.example/g00960/impl.shareTable"] (by kernel_rfl) (by kernel_rfl)
theorem fnExactShareOf_row_tie : Rows.fnExactShareOfRow.laidByTextAt .later Tryd.pinned [.data, .data] true :=
  OpenClaim.laidByTextAt_later rfl rfl tie5 noOwnUnsafe
theorem fnExactSmallLevel_row_tie : Rows.fnExactSmallLevelRow.laidByTextAt .later Tryd.pinned [.data, .data] true :=
  OpenClaim.laidByTextAt_later rfl rfl tie5 noOwnUnsafe
theorem fnStepsUpto_row_tie : Rows.fnStepsUptoRow.laidByTextAt .later Tryd.pinned [.data, .data, .data] true :=
  OpenClaim.laidByTextAt_later rfl rfl tie noOwnUnsafe
theorem fnMoreIsMoreUpto_row_tie : Rows.fnMoreIsMoreUptoRow.laidByTextAt .later Tryd.pinned [.data, .data, .data] true :=
  OpenClaim.laidByTextAt_later rfl rfl tie noOwnUnsafe
theorem fnExactStepOfUpto_row_tie : Rows.fnExactStepOfUptoRow.laidByTextAt .later Tryd.pinned [.data] true :=
  OpenClaim.laidByTextAt_later rfl rfl tie2 noOwnUnsafe
theorem fnExactKindOfUpto_row_tie : Rows.fnExactKindOfUptoRow.laidByTextAt .later Tryd.pinned [.data] true :=
  OpenClaim.laidByTextAt_later rfl rfl tie3 noOwnUnsafe
theorem fnExactScaleOfUpto_row_tie : Rows.fnExactScaleOfUptoRow.laidByTextAt .later Tryd.pinned [.data, .data] true :=
  OpenClaim.laidByTextAt_later rfl rfl tie4 noOwnUnsafe
theorem fnExactShareOfUpto_row_tie : Rows.fnExactShareOfUptoRow.laidByTextAt .later Tryd.pinned [.data, .data] true :=
  OpenClaim.laidByTextAt_later rfl rfl tie5 noOwnUnsafe
theorem fnExactSmallLevelUpto_row_tie : Rows.fnExactSmallLevelUptoRow.laidByTextAt .later Tryd.pinned [.data, .data] true :=
  OpenClaim.laidByTextAt_later rfl rfl tie5 noOwnUnsafe
theorem fnExactSmallBackUpto_row_tie : Rows.fnExactSmallBackUptoRow.laidByTextAt .later Tryd.pinned [.data, .data] true :=
  OpenClaim.laidByTextAt_later rfl rfl tie4 noOwnUnsafe
theorem fnExactLargeLevelUpto_row_tie : Rows.fnExactLargeLevelUptoRow.laidByTextAt .later Tryd.pinned [.data] true :=
  OpenClaim.laidByTextAt_later rfl rfl tie2 noOwnUnsafe
theorem fnExactLargeBackUpto_row_tie : Rows.fnExactLargeBackUptoRow.laidByTextAt .later Tryd.pinned [.data] true :=
  OpenClaim.laidByTextAt_later rfl rfl tie2 noOwnUnsafe
end Go.Proofs.YtcfgnbiiegfenaaDoor
