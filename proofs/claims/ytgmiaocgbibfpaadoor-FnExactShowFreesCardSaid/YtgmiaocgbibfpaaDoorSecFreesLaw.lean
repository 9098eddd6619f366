/-
  The walk of laws.FnExactShowFrees: the law answers true, and nothing that was there is changed. Condition: the table of sixteen sums holds what the program's text lays.
-/
import Derived.Test.YtgmiaocgbibfpaaDoorSecFrees
import Derived.Test.YtgmiaocgbibfpaaDoorEqDisk
import Derived.Test.YtgmiaocgbibfpaaDoorToRows
namespace Go.Proofs.YtgmiaocgbibfpaaDoor.Sec
open Go.RowKit Go.Proofs.YtgmiaocgbibfpaaDoor.Mem Classical
set_option linter.unusedVariables false

set_option maxRecDepth 100000 in
set_option maxHeartbeats 1000000 in
theorem lawShowFrees (w : World) (a : Option Addr) (cap : Nat) (l : List Int) (S : Ints w a l) (hm : l.length ≤ maxLen) (T : Sums w) :
    Calls Tryd.prog 7 #[.slice a l.length cap] w fun e w' => e = .returned (.bool true) ∧ Below w.heap.size w w' := by
  have HS := hid S
  have HT := hid T
  have HM := hid hm
  unfold maxLen at hm
  clear S T
  by_cases hg : 1048576 < (l.length : Int)
  · go_enter Tryd.func7, Tryd.ntmps7
    go_wp2
    go_ret
    exact ⟨rfl, Below.refl _ _⟩
  have hl : l.length ≤ 1048576 := by omega
  go_enter Tryd.func7, Tryd.ntmps7
  go_wp2_with fail
  refine (toIntS w a cap l HS.out hl).mono ?_
  rintro e w1 ⟨g1, rfl, hg1, hl1, S1, b1⟩
  have HB1 := hid b1
  have HS1 := hid S1.sl
  clear S1 b1
  go_wp2_with fail
  refine (sShowFrees w1 _ _ l HS1.out hl).mono ?_
  rintro e w2 ⟨rfl, b2⟩
  have HB2 := hid (HB1.out.trans (b2.mono HB1.out.size))
  clear b2
  go_wp2_with fail
  refine (toIntS w2 a cap l (HS.out.below HB2.out) hl).mono ?_
  rintro e w3 ⟨g3, rfl, hg3, hl3, S3, b3⟩
  have HB3 := hid (HB2.out.trans (b3.mono HB2.out.size))
  have HS3 := hid S3.sl
  clear S3 b3
  go_wp2_with fail
  refine (iShowFrees w3 _ _ l HS3.out hl (HT.out.below HB3.out)).mono ?_
  rintro e w4 ⟨rfl, b4⟩
  have HB4 := hid (HB3.out.trans (b4.mono HB3.out.size))
  have HS4 := hid (HS3.out.below b4)
  clear b4
  generalize showFrees l = z
  go_wp2_with fail
  refine (toIntS w4 a cap l (HS.out.below HB4.out) hl).mono ?_
  rintro e w5 ⟨g5, rfl, hg5, hl5, S5, b5⟩
  have HB5 := hid (HB4.out.trans (b5.mono HB4.out.size))
  have HS45 := hid (HS4.out.below b5)
  have HS5 := hid S5.sl
  clear S5 b5
  go_wp2_with fail
  refine (eqIntS w5 _ _ _ _ l l HS45.out HS5.out HM.out HM.out).mono ?_
  rintro e w6 ⟨rfl, b6⟩
  have HB6 := hid (HB5.out.trans (b6.mono HB5.out.size))
  clear b6
  have hdd : decide (l = l) = true := decide_eq_true rfl
  rw [hdd]
  go_wp2
  go_ret
  exact ⟨rfl, HB6.out⟩

end Go.Proofs.YtgmiaocgbibfpaaDoor.Sec
