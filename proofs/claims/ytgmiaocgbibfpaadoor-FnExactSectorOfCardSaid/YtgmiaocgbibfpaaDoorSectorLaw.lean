/-
  The walk of laws.FnExactSectorOf: at every kind and number the law answers true, and nothing that was there is changed. Condition: the table of the kinds' sizes holds what the program's text lays.
-/
import Derived.Test.YtgmiaocgbibfpaaDoorSectorWalks
namespace Go.Proofs.YtgmiaocgbibfpaaDoor.Sector
open Go.RowKit Go.Proofs.YtgmiaocgbibfpaaDoor.Mem
set_option linter.unusedVariables false

theorem Kinds.below {w w' : World} (T : Kinds w) (hg : 0 < w.heap.size) (b : Below w.heap.size w w') : Kinds w' := fun k hk => by
  rw [b.cell (p := ⟨0, k, none⟩) hg]; exact T k hk

set_option maxRecDepth 100000 in
set_option maxHeartbeats 1000000 in
theorem law (kind i : Int) (w : World) (T : Kinds w) (hg : 0 < w.heap.size) :
    Calls Tryd.prog 3 #[.int .i64 kind, .int .i64 i] w fun e w' => e = .returned (.bool true) ∧ Below w.heap.size w w' := by
  have HT := hid T
  have HG := hid hg
  clear T hg
  go_enter Tryd.func3, Tryd.ntmps3
  go_wp2_with fail
  refine (spec_sector kind i w).mono ?_
  rintro e w1 ⟨rfl, b1⟩
  have HB := hid b1
  clear b1
  go_wp2_with fail
  refine (impl_sector kind i w1 (HT.out.below HG.out HB.out)).mono ?_
  rintro e w2 ⟨rfl, hw⟩
  subst hw
  generalize sectorOf kind i = z
  go_wp2
  go_ret
  exact ⟨rfl, HB.out⟩

end Go.Proofs.YtgmiaocgbibfpaaDoor.Sector
