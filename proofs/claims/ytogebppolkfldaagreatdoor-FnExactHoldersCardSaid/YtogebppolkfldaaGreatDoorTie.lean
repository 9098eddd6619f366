/-
  DERIVED. GIVEN WITH THE SEED: THE PROGRAM's TIES (one call each: nine closed facts by the kernel) AND EACH ROW's TIE, after the 31st guide's Derived/Test/Toyas{Tie, Card}.lean. No idea stands in it: it is a product of the set-up. Laid BY PROGRAM, IN A SANDBOX (cutbox-door.mjs). By AI agents, Wed Nov 11 2026. No macro, syntax, notation, axiom, sorry.
-/
import Derived.Test.YtogebppolkfldaaGreatDoorRows
import Derived.LaidByTextLater
import Derived.SevenTiedAt
import Derived.LaidSub
import Derived.LaidOnce
namespace Go.Proofs.YtogebppolkfldaaGreatDoor
open Go
set_option maxRecDepth 100000
theorem seatTie1 : Tryz.prog.laidByTextLater [("loop.example/g00761/impl.halfSums", Rows.laid_loop_example_g00761_impl_halfSums), ("loop.example/g00761/impl.kindSizes", Rows.laid_loop_example_g00761_impl_kindSizes), ("loop.example/g00761/impl.errPartLacks", Rows.laid_loop_example_g00761_impl_errPartLacks)] [.data, .data, .sentinel] true :=
  Program.laidByTextLater_by_one 38 8 17 (by kernel_rfl) (by kernel_rfl) (by kernel_rfl) (by kernel_rfl) (by kernel_rfl) (by kernel_rfl) (fun _ _ => by kernel_rfl)
theorem noOwnUnsafe : Tryz.pinned.checked.prog.headLifts.contains "ownunsafe" = false := by kernel_rfl
theorem tie : Tryz.prog.laidByTextLater [("loop.example/g00761/impl.halfSums", Rows.laid_loop_example_g00761_impl_halfSums), ("loop.example/g00761/impl.kindSizes", Rows.laid_loop_example_g00761_impl_kindSizes), ("loop.example/g00761/impl.errPartLacks", Rows.laid_loop_example_g00761_impl_errPartLacks)] [.data, .data, .sentinel] true :=
  Program.laidByTextLater.sub seatTie1 ["loop.example/g00761/impl.halfSums", "loop.example/g00761/impl.kindSizes", "loop.example/g00761/impl.errPartLacks"] (by kernel_rfl) (by kernel_rfl)
theorem fnExactHolders_row_tie : Rows.fnExactHoldersRow.laidByTextAt .later Tryz.pinned [.data, .data, .sentinel] true :=
  OpenClaim.laidByTextAt_later rfl rfl tie noOwnUnsafe
theorem fnExactHoldersUpto_row_tie : Rows.fnExactHoldersUptoRow.laidByTextAt .later Tryz.pinned [.data, .data, .sentinel] true :=
  OpenClaim.laidByTextAt_later rfl rfl tie noOwnUnsafe
end Go.Proofs.YtogebppolkfldaaGreatDoor
