/-
  The walk of laws.eqLease: a lease is itself. No condition.
-/
import Derived.Test.YteaiciofcffkgaaDoorSecHost2
namespace Go.Proofs.YteaiciofcffkgaaDoor.Sec
open Go.RowKit Go.Proofs.YteaiciofcffkgaaDoor.Mem
set_option linter.unusedVariables false

set_option maxRecDepth 100000 in
set_option maxHeartbeats 1000000 in
theorem eqLease (h e : Int) (w : World) : Calls Tryd.prog 14 #[.agg #[.int .i64 h, .int .i64 e], .agg #[.int .i64 h, .int .i64 e]] w fun r w' => r = .returned (.bool true) ∧ Below w.heap.size w w' := by
  go_enter Tryd.func14, Tryd.ntmps14
  go_wp2
  go_ret
  exact ⟨rfl, by go_grown⟩

end Go.Proofs.YteaiciofcffkgaaDoor.Sec
