/-
  The walk of laws.eqLease: a lease is itself. No condition.
-/
import Derived.Test.YtgmiaocgbibfpaaDoorSecHost2
namespace Go.Proofs.YtgmiaocgbibfpaaDoor.Sec
open Go.RowKit Go.Proofs.YtgmiaocgbibfpaaDoor.Mem
set_option linter.unusedVariables false

set_option maxRecDepth 100000 in
set_option maxHeartbeats 1000000 in
theorem eqLease (h e : Int) (w : World) : Calls Tryd.prog 46 #[.agg #[.int .i64 h, .int .i64 e], .agg #[.int .i64 h, .int .i64 e]] w fun r w' => r = .returned (.bool true) ∧ Below w.heap.size w w' := by
  go_enter Tryd.func46, Tryd.ntmps46
  go_wp2
  go_ret
  exact ⟨rfl, by go_grown⟩

end Go.Proofs.YtgmiaocgbibfpaaDoor.Sec
