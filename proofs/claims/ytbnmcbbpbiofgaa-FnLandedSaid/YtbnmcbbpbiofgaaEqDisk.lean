/-
  The walks of laws.eqStringS, laws.eqIntS, laws.eqWrite, laws.eqWriteS and laws.eqDisk: they tell whether two lists, writes or disks are the same. No condition.
-/
import Derived.Test.YtbnmcbbpbiofgaaSzDisk
import Derived.Test.YtbnmcbbpbiofgaaOwn
import Derived.Outline
import Derived.Deep.QuietTactic
import Derived.BigQuiet
namespace Go.Proofs.Ytbnmcbbpbiofgaa.Mem
open Go.RowKit Classical
set_option linter.unusedVariables false

theorem getD_ext {α : Type} {l m : List α} (d : α) (hl : l.length = m.length) (h : ∀ j, j < l.length → l.getD j d = m.getD j d) : l = m := by
  apply List.ext_getElem hl
  intro i h1 h2
  have := h i h1
  rwa [List.getD, List.getElem?_eq_getElem h1, List.getD, List.getElem?_eq_getElem h2] at this

end Go.Proofs.Ytbnmcbbpbiofgaa.Mem
