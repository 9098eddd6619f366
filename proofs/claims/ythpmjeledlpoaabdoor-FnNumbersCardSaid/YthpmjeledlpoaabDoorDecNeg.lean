/-
  The walk of spec.Dec below 0. No condition but that n is an int.
-/
import Derived.Test.YthpmjeledlpoaabDoorDecWalks
namespace Go.Proofs.YthpmjeledlpoaabDoor.Dec
open Go.RowKit
set_option linter.unusedVariables false

theorem tmod_neg (q : Nat) : (-(q : Int)).tmod 10 = -((q : Int) % 10) := by
  rw [Int.neg_tmod, Int.tmod_eq_emod_of_nonneg (by omega)]
theorem tdiv_neg (q : Nat) : (-(q : Int)).tdiv 10 = -((q : Int) / 10) := by
  rw [Int.neg_tdiv, Int.tdiv_eq_ediv_of_nonneg (by omega)]

end Go.Proofs.YthpmjeledlpoaabDoor.Dec
