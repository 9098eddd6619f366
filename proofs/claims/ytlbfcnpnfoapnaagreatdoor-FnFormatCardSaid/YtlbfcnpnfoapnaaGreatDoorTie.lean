/-
  DERIVED. GIVEN WITH THE SEED: THE PROGRAM's TIES (one call each: nine closed facts by the kernel) AND EACH ROW's TIE, after the 31st guide's Derived/Test/Toyas{Tie, Card}.lean. No idea stands in it: it is a product of the set-up. Laid BY PROGRAM, IN A SANDBOX (cutbox-door.mjs). By AI agents, Wed Nov 11 2026. No macro, syntax, notation, axiom, sorry.
-/
import Derived.Test.YtlbfcnpnfoapnaaGreatDoorRows
import Derived.LaidByTextLater
import Derived.SevenTiedAt
import Derived.LaidSub
import Derived.LaidOnce
namespace Go.Proofs.YtlbfcnpnfoapnaaGreatDoor
open Go
set_option maxRecDepth 100000
theorem seatTie1 : Tryz.prog.laidByTextLater [("loop.example/g00761/impl.halfSums", Rows.laid_loop_example_g00761_impl_halfSums), ("loop.example/g00761/impl.kindSizes", Rows.laid_loop_example_g00761_impl_kindSizes), ("loop.example/g00761/impl.errPartLacks", Rows.laid_loop_example_g00761_impl_errPartLacks)] [.data, .data, .sentinel] true :=
  Program.laidByTextLater_by_one 38 8 17 (by kernel_rfl) (by kernel_rfl) (by kernel_rfl) (by kernel_rfl) (by kernel_rfl) (by kernel_rfl) (fun _ _ => by kernel_rfl)
theorem noOwnUnsafe : Tryz.pinned.checked.prog.headLifts.contains "ownunsafe" = false := by kernel_rfl
theorem tie : Tryz.prog.laidByTextLater [("loop.example/g00761/impl.halfSums", Rows.laid_loop_example_g00761_impl_halfSums), ("loop.example/g00761/impl.kindSizes", Rows.laid_loop_example_g00761_impl_kindSizes), ("loop.example/g00761/impl.errPartLacks", Rows.laid_loop_example_g00761_impl_errPartLacks)] [.data, .data, .sentinel] true :=
  Program.laidByTextLater.sub seatTie1 ["loop.example/g00761/impl.halfSums", "loop.example/g00761/impl.kindSizes", "loop.example/g00761/impl.errPartLacks"] (by kernel_rfl) (by kernel_rfl)
theorem fnExactCounts_row_tie : Rows.fnExactCountsRow.laidByTextAt .later Tryz.pinned [.data, .data, .sentinel] true :=
  OpenClaim.laidByTextAt_later rfl rfl tie noOwnUnsafe
theorem fnExactRefsOk_row_tie : Rows.fnExactRefsOkRow.laidByTextAt .later Tryz.pinned [.data, .data, .sentinel] true :=
  OpenClaim.laidByTextAt_later rfl rfl tie noOwnUnsafe
theorem fnExactAbstract_row_tie : Rows.fnExactAbstractRow.laidByTextAt .later Tryz.pinned [.data, .data, .sentinel] true :=
  OpenClaim.laidByTextAt_later rfl rfl tie noOwnUnsafe
theorem fnFormat_row_tie : Rows.fnFormatRow.laidByTextAt .later Tryz.pinned [.data, .data, .sentinel] true :=
  OpenClaim.laidByTextAt_later rfl rfl tie noOwnUnsafe
theorem fnExactCountsUpto_row_tie : Rows.fnExactCountsUptoRow.laidByTextAt .later Tryz.pinned [.data, .data, .sentinel] true :=
  OpenClaim.laidByTextAt_later rfl rfl tie noOwnUnsafe
theorem fnExactRefsOkUpto_row_tie : Rows.fnExactRefsOkUptoRow.laidByTextAt .later Tryz.pinned [.data, .data, .sentinel] true :=
  OpenClaim.laidByTextAt_later rfl rfl tie noOwnUnsafe
theorem fnExactAbstractUpto_row_tie : Rows.fnExactAbstractUptoRow.laidByTextAt .later Tryz.pinned [.data, .data, .sentinel] true :=
  OpenClaim.laidByTextAt_later rfl rfl tie noOwnUnsafe
theorem fnFormatUpto_row_tie : Rows.fnFormatUptoRow.laidByTextAt .later Tryz.pinned [.data, .data, .sentinel] true :=
  OpenClaim.laidByTextAt_later rfl rfl tie noOwnUnsafe
end Go.Proofs.YtlbfcnpnfoapnaaGreatDoor
