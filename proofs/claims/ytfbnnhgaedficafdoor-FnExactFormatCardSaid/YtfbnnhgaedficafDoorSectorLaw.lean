/-
  The walk of laws.FnExactSectorOf: at every kind and number the law answers true, and nothing that was there is changed. Condition: the table of the kinds' sizes holds what the program's text lays.
-/
import Derived.Test.YtfbnnhgaedficafDoorSectorWalks
namespace Go.Proofs.YtfbnnhgaedficafDoor.Sector
open Go.RowKit Go.Proofs.YtfbnnhgaedficafDoor.Mem
set_option linter.unusedVariables false

theorem Kinds.below {w w' : World} (T : Kinds w) (hg : 0 < w.heap.size) (b : Below w.heap.size w w') : Kinds w' := fun k hk => by
  rw [b.cell (p := ⟨0, k, none⟩) hg]; exact T k hk

end Go.Proofs.YtfbnnhgaedficafDoor.Sector
