/-
  DERIVED. GIVEN WITH THE SEED: THE PROGRAM's TIES (one call each: nine closed facts by the kernel) AND EACH ROW's TIE, after the 31st guide's Derived/Test/Toyas{Tie, Card}.lean. No idea stands in it: it is a product of the set-up. Laid BY PROGRAM, IN A SANDBOX (cutbox-door.mjs). By AI agents, Wed Nov 11 2026. No macro, syntax, notation, axiom, sorry.
-/
import Derived.Test.YtlejfkjanllgbaaGreatDoorRows
import Derived.LaidByTextLater
import Derived.SevenTiedAt
import Derived.LaidSub
import Derived.LaidOnce
namespace Go.Proofs.YtlejfkjanllgbaaGreatDoor
open Go
set_option maxRecDepth 100000
theorem seatTie1 : Tryz.prog.laidByTextLater [("loop.example/g00960/impl.kindTable", Rows.laid_loop_example_g00960_impl_kindTable), ("loop.example/g00960/impl.scaleTable", Rows.laid_loop_example_g00960_impl_scaleTable), ("loop.example/g00960/impl.shareTable", Rows.laid_loop_example_g00960_impl_shareTable)] [.data, .data, .data] true :=
  Program.laidByTextLater_by_one 38 8 19 (by kernel_rfl) (by kernel_rfl) (by kernel_rfl) (by kernel_rfl) (by kernel_rfl) (by kernel_rfl) (fun _ _ => by kernel_rfl)
theorem noOwnUnsafe : Tryz.pinned.checked.prog.headLifts.contains "ownunsafe" = false := by kernel_rfl
theorem tie : Tryz.prog.laidByTextLater [("loop.example/g00960/impl.kindTable", Rows.laid_loop_example_g00960_impl_kindTable), ("loop.example/g00960/impl.scaleTable", Rows.laid_loop_example_g00960_impl_scaleTable), ("loop.example/g00960/impl.shareTable", Rows.laid_loop_example_g00960_impl_shareTable)] [.data, .data, .data] true :=
  Program.laidByTextLater.sub seatTie1 ["loop.example/g00960/impl.kindTable", "loop.example/g00960/impl.scaleTable", "loop.example/g00960/impl.shareTable"] (by kernel_rfl) (by kernel_rfl)
theorem fnLevelRows_row_tie : Rows.fnLevelRowsRow.laidByTextAt .later Tryz.pinned [.data, .data, .data] true :=
  OpenClaim.laidByTextAt_later rfl rfl tie noOwnUnsafe
theorem fnExactLevelsRow_row_tie : Rows.fnExactLevelsRowRow.laidByTextAt .later Tryz.pinned [.data, .data, .data] true :=
  OpenClaim.laidByTextAt_later rfl rfl tie noOwnUnsafe
theorem fnLevelRowsUpto_row_tie : Rows.fnLevelRowsUptoRow.laidByTextAt .later Tryz.pinned [.data, .data, .data] true :=
  OpenClaim.laidByTextAt_later rfl rfl tie noOwnUnsafe
theorem fnExactLevelsRowUpto_row_tie : Rows.fnExactLevelsRowUptoRow.laidByTextAt .later Tryz.pinned [.data, .data, .data] true :=
  OpenClaim.laidByTextAt_later rfl rfl tie noOwnUnsafe
end Go.Proofs.YtlejfkjanllgbaaGreatDoor
