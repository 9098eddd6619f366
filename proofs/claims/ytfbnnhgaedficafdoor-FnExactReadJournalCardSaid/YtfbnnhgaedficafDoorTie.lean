/-
  DERIVED. GIVEN WITH THE SEED: THE PROGRAM's TIES (one call each: nine closed facts by the kernel) AND EACH ROW's TIE, after the 31st guide's Derived/Test/Toyas{Tie, Card}.lean. No idea stands in it: it is a product of the set-up. Laid BY PROGRAM, IN A SANDBOX (cutbox-door.mjs). By AI agents, Wed Nov 11 2026. No macro, syntax, notation, axiom, sorry.
-/
import Derived.Test.YtfbnnhgaedficafDoorRows
import Derived.LaidByTextLater
import Derived.SevenTiedAt
import Derived.LaidSub
import Derived.LaidOnce
namespace Go.Proofs.YtfbnnhgaedficafDoor
open Go
set_option maxRecDepth 100000
theorem seatTie1 : Tryd.prog.laidByTextLater [("loop.example/g00761/impl.halfSums", Rows.laid_loop_example_g00761_impl_halfSums), ("loop.example/g00761/impl.kindSizes", Rows.laid_loop_example_g00761_impl_kindSizes), ("loop.example/g00761/impl.errPartLacks", Rows.laid_loop_example_g00761_impl_errPartLacks)] [.data, .data, .sentinel] true :=
  Program.laidByTextLater_by_one 38 8 17 (by kernel_rfl) (by kernel_rfl) (by kernel_rfl) (by kernel_rfl) (by kernel_rfl) (by kernel_rfl) (fun _ _ => by kernel_rfl)
theorem noOwnUnsafe : Tryd.pinned.checked.prog.headLifts.contains "ownunsafe" = false := by kernel_rfl
theorem tie : Tryd.prog.laidByTextLater [("loop.example/g00761/impl.halfSums", Rows.laid_loop_example_g00761_impl_halfSums)] [.data] true :=
  Program.laidByTextLater.sub seatTie1 ["loop.example/g00761/impl.halfSums"] (by kernel_rfl) (by kernel_rfl)
theorem fnExactShowFrees_row_tie : Rows.fnExactShowFreesRow.laidByTextAt .later Tryd.pinned [.data] true :=
  OpenClaim.laidByTextAt_later rfl rfl tie noOwnUnsafe
theorem fnExactShowJournal_row_tie : Rows.fnExactShowJournalRow.laidByTextAt .later Tryd.pinned [.data] true :=
  OpenClaim.laidByTextAt_later rfl rfl tie noOwnUnsafe
theorem tie2 : Tryd.prog.laidByTextLater [("loop.example/g00761/impl.halfSums", Rows.laid_loop_example_g00761_impl_halfSums), ("loop.example/g00761/impl.errPartLacks", Rows.laid_loop_example_g00761_impl_errPartLacks)] [.data, .sentinel] true :=
  Program.laidByTextLater.sub seatTie1 ["loop.example/g00761/impl.halfSums", "loop.example/g00761/impl.errPartLacks"] (by kernel_rfl) (by kernel_rfl)
theorem fnExactReadFrees_row_tie : Rows.fnExactReadFreesRow.laidByTextAt .later Tryd.pinned [.data, .sentinel] true :=
  OpenClaim.laidByTextAt_later rfl rfl tie2 noOwnUnsafe
theorem fnExactReadJournal_row_tie : Rows.fnExactReadJournalRow.laidByTextAt .later Tryd.pinned [.data, .sentinel] true :=
  OpenClaim.laidByTextAt_later rfl rfl tie2 noOwnUnsafe
theorem tie3 : Tryd.prog.laidByTextLater [("loop.example/g00761/impl.halfSums", Rows.laid_loop_example_g00761_impl_halfSums), ("loop.example/g00761/impl.kindSizes", Rows.laid_loop_example_g00761_impl_kindSizes)] [.data, .data] true :=
  Program.laidByTextLater.sub seatTie1 ["loop.example/g00761/impl.halfSums", "loop.example/g00761/impl.kindSizes"] (by kernel_rfl) (by kernel_rfl)
theorem fnExactFormat_row_tie : Rows.fnExactFormatRow.laidByTextAt .later Tryd.pinned [.data, .data] true :=
  OpenClaim.laidByTextAt_later rfl rfl tie3 noOwnUnsafe
theorem fnExactShowFreesUpto_row_tie : Rows.fnExactShowFreesUptoRow.laidByTextAt .later Tryd.pinned [.data] true :=
  OpenClaim.laidByTextAt_later rfl rfl tie noOwnUnsafe
theorem fnExactReadFreesUpto_row_tie : Rows.fnExactReadFreesUptoRow.laidByTextAt .later Tryd.pinned [.data, .sentinel] true :=
  OpenClaim.laidByTextAt_later rfl rfl tie2 noOwnUnsafe
theorem fnExactShowJournalUpto_row_tie : Rows.fnExactShowJournalUptoRow.laidByTextAt .later Tryd.pinned [.data] true :=
  OpenClaim.laidByTextAt_later rfl rfl tie noOwnUnsafe
theorem fnExactReadJournalUpto_row_tie : Rows.fnExactReadJournalUptoRow.laidByTextAt .later Tryd.pinned [.data, .sentinel] true :=
  OpenClaim.laidByTextAt_later rfl rfl tie2 noOwnUnsafe
theorem fnExactFormatUpto_row_tie : Rows.fnExactFormatUptoRow.laidByTextAt .later Tryd.pinned [.data, .data] true :=
  OpenClaim.laidByTextAt_later rfl rfl tie3 noOwnUnsafe
end Go.Proofs.YtfbnnhgaedficafDoor
