/-
  The walks of laws.szVolSec, laws.toVolSec, laws.eqVolSec and laws.FnExactShowVol: the law answers true, and nothing that was there is changed. Condition: the table of sixteen sums holds what the program's text lays.
-/
import Derived.Test.YteaiciofcffkgaaDoorSecVol
import Derived.Test.YteaiciofcffkgaaDoorEqDisk
import Derived.Test.YteaiciofcffkgaaDoorSecEq
import Derived.RegionTactic
import Derived.BigRegion
import Derived.Deep.RegionWith
namespace Go.Proofs.YteaiciofcffkgaaDoor.Sec
open Go.RowKit Go.Proofs.YteaiciofcffkgaaDoor.Mem Classical
set_option linter.unusedVariables false

set_option maxRecDepth 100000 in
set_option maxHeartbeats 1000000 in
theorem eqVolSec (w : World) (h e : Int) (on : Bool) (a b : Option Addr) (ca cb : Nat) (l m : List Int) (S : Ints w a l) (T : Ints w b m) (hl : l.length ≤ maxLen) (hm : m.length ≤ maxLen) (hlm : l = m) :
    Calls Tryd.prog 6 #[vlV h e on a l.length ca, vlV h e on b m.length cb] w fun r w' => r = .returned (.bool true) ∧ Below w.heap.size w w' := by
  unfold vlV
  have HS := hid S
  have HT := hid T
  have HL := hid hl
  have HM := hid hm
  have HE := hid (decide_eq_true hlm)
  clear S T hl hm hlm
  obtain ⟨wa, hwa, ez, A0, C0, B0⟩ := two_new w [.int .i64 h, .int .i64 e, .bool on, .slice a l.length ca] [.int .i64 h, .int .i64 e, .bool on, .slice b m.length cb] 26 26
  have k0 := A0.c 0 rfl
  have k1 := A0.c 1 rfl
  have k2 := A0.c 2 rfl
  have k3 := A0.c 3 rfl
  have j0 := C0.c 0 rfl
  have j1 := C0.c 1 rfl
  have j2 := C0.c 2 rfl
  have j3 := C0.c 3 rfl
  have HA := hid A0
  have HC := hid C0
  have HB := hid B0
  clear A0 B0 C0
  go_enter Tryd.func6, Tryd.ntmps6
  go_wp2_with fail
  refine (eqLease h e wa).mono ?_
  rintro r w1 ⟨rfl, b1⟩
  replace k2 := (HA.out.below b1 HA.out.lt).c 2 rfl
  replace k3 := (HA.out.below b1 HA.out.lt).c 3 rfl
  replace j2 := (HC.out.below b1 HC.out.lt).c 2 rfl
  replace j3 := (HC.out.below b1 HC.out.lt).c 3 rfl
  have HB1 := hid (HB.out.trans (b1.mono HB.out.size))
  clear b1 hwa k0 k1 j0 j1
  go_wp2_with fail
  refine (eqIntS w1 a b ca cb l m (HS.out.below HB1.out) (HT.out.below HB1.out) HL.out HM.out).mono ?_
  rintro r w2 ⟨rfl, b2⟩
  have HB2 := hid (HB1.out.trans (b2.mono HB1.out.size))
  rw [HE.out]
  clear b2
  go_wp2
  go_ret
  exact ⟨rfl, HB2.out⟩

end Go.Proofs.YteaiciofcffkgaaDoor.Sec
