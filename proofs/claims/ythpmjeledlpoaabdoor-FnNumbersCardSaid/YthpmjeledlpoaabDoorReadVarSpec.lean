/-
  The walk of spec.ReadVar: it gives the first beginning of at most seven bytes that is what Var makes of what it says, or 0 and 0. No condition.
-/
import Derived.Test.YthpmjeledlpoaabDoorReadVarWalks
import Derived.Deep.RegionWith
namespace Go.Proofs.YthpmjeledlpoaabDoor.Var
open Go.RowKit
set_option linter.unusedVariables false

theorem drop_step (s : ByteArray) (k j : Nat) (hk : k ≤ s.size) (hj : j < k) (h : j < s.size) : val (((bl s).take k).drop (j + 1)) * 128 + (s[j].toNat : Int) % 128 = val (((bl s).take k).drop j) := by
  rw [val_drop s k j hk hj]; omega

end Go.Proofs.YthpmjeledlpoaabDoor.Var
