/-
  The walk of laws.FnExactPeek, out of a contract for impl.Peek: at every disk, host and sector the law answers true, and nothing that was there is changed. No other condition.
-/
import Derived.Test.YtppjohfafnbdlakOpenDisk
namespace Go.Proofs.Ytppjohfafnbdlak.Mem
open Go.RowKit Classical
set_option linter.unusedVariables false

theorem Dk.Small.c1 {D : Dk} (h : D.Small 1048576) : D.sec.length ≤ 1048576 := by have := h.h1; omega
theorem Dk.Small.c2 {D : Dk} (h : D.Small 1048576) : D.ep.length ≤ 1048576 := by have := h.h2; omega
theorem Dk.Small.c3 {D : Dk} (h : D.Small 1048576) : D.pe.length ≤ 1048576 := by have := h.h3; omega

end Go.Proofs.Ytppjohfafnbdlak.Mem
