/-
  The walk of laws.FnExactViewOk: the law answers true, and nothing that was there is changed. No condition.
-/
import Derived.Test.YteaiciofcffkgaaVw2
import Derived.Test.YteaiciofcffkgaaVwOk2
import Derived.Deep.RegionWith
namespace Go.Proofs.Yteaiciofcffkgaa.Pl
open Go.RowKit Go.Proofs.Yteaiciofcffkgaa.Mem Go.Proofs.Yteaiciofcffkgaa.Sec
set_option linter.unusedVariables false

theorem row_of (V : Vw) : vwV V = .agg V.cells.toArray := rfl

set_option maxRecDepth 100000 in
set_option maxHeartbeats 2000000 in
theorem lawViewOk (w : World) (V : Vw) (S : VwR w V) (hh : V.Upto maxLen) :
    Calls Try.prog 4 #[vwV V] w fun r w' => r = .returned (.bool true) ∧ Below w.heap.size w w' := by
  obtain ⟨vh, ve, va, vc, vs, ga, gc, gs, fa, fc, fs⟩ := V
  obtain ⟨V, hV⟩ : ∃ V : Vw, V = ⟨vh, ve, va, vc, vs, ga, gc, gs, fa, fc, fs⟩ := ⟨_, rfl⟩
  have HV : Hid (.agg #[.int .i64 vh, .int .i64 ve, .slice va vs.length vc, .slice ga gs.length gc, .slice fa fs.length fc] = vwV V) := by rw [hV]; rfl
  rw [← hV] at S hh ⊢
  rw [← HV.out]
  have HS := hid S
  have HH := hid hh
  clear S hh hV
  obtain ⟨wa, hwa, ez, A0, B0⟩ := one_new w [.int .i64 vh, .int .i64 ve, .slice va vs.length vc, .slice ga gs.length gc, .slice fa fs.length fc] 35
  have HA := hid A0
  have HB := hid B0
  clear A0 B0
  have k0 := HA.out.c 0 rfl
  have k1 := HA.out.c 1 rfl
  have k2 := HA.out.c 2 rfl
  have k3 := HA.out.c 3 rfl
  have k4 := HA.out.c 4 rfl
  go_enter Try.func4, Try.ntmps4
  go_wp2_with fail
  rw [HV.out]
  refine (szView wa V 1048576 (HS.out.below HB.out) HH.out (by decide) (by decide)).mono ?_
  rintro e w1 ⟨r, rfl, b1, hr⟩
  have HA1 := hid (HA.out.below b1 HA.out.lt)
  have HB1 := hid (HB.out.trans (b1.mono HB.out.size))
  have HRr := hid hr
  clear b1 hr hwa k0 k1 k2 k3 k4 HA
  by_cases hneg : r < 0
  · rw [← HV.out]
    go_wp2
    go_ret
    exact ⟨rfl, HB1.out⟩
  have HU : Hid (V.Upto 1048576) := by
    rcases HRr.out with h | h
    · omega
    · exact h.2.2
  clear HRr
  have k0 := HA1.out.c 0 rfl
  have k1 := HA1.out.c 1 rfl
  have k2 := HA1.out.c 2 rfl
  have k3 := HA1.out.c 3 rfl
  have k4 := HA1.out.c 4 rfl
  rw [← HV.out]
  go_wp2_with fail
  rw [HV.out]
  refine (toView w1 V (HS.out.below HB1.out) HU.out).mono ?_
  rintro e w2 ⟨U, rfl, hW2, hS2, b2⟩
  have HA2 := hid (HA1.out.below b2 HA1.out.lt)
  have HB2 := hid (HB1.out.trans (b2.mono HB1.out.size))
  have HOk : Hid (U.ok = V.ok) := hS2.ok.symm
  have HUU := hid (HU.out.same hS2)
  have HRU := hid hW2.r
  clear b2 k0 k1 k2 k3 k4 HA1 hW2 hS2
  go_wp2_with fail
  refine (sViewOk w2 U HRU.out HUU.out).mono ?_
  rintro e w3 ⟨rfl, b3⟩
  have HA3 := hid (HA2.out.below b3 HA2.out.lt)
  have HB3 := hid (HB2.out.trans (b3.mono HB2.out.size))
  rw [HOk.out]
  clear b3 HA2 HRU HUU HOk
  have k0 := HA3.out.c 0 rfl
  have k1 := HA3.out.c 1 rfl
  have k2 := HA3.out.c 2 rfl
  have k3 := HA3.out.c 3 rfl
  have k4 := HA3.out.c 4 rfl
  rw [← HV.out]
  go_wp2_with fail
  rw [HV.out]
  refine (toView w3 V (HS.out.below HB3.out) HU.out).mono ?_
  rintro e w4 ⟨X, rfl, hW4, hS4, b4⟩
  have HA4 := hid (HA3.out.below b4 HA3.out.lt)
  have HB4 := hid (HB3.out.trans (b4.mono HB3.out.size))
  have HOk : Hid (X.ok = V.ok) := hS4.ok.symm
  have HSm := hid hS4
  have HXU := hid (HU.out.same hS4)
  have HRX := hid hW4.r
  clear b4 k0 k1 k2 k3 k4 HA3 hW4 hS4
  obtain ⟨xh, xe, xva, xvc, xvs, xga, xgc, xgs, xfa, xfc, xfs⟩ := X
  obtain ⟨X, hX⟩ : ∃ X : Vw, X = ⟨xh, xe, xva, xvc, xvs, xga, xgc, xgs, xfa, xfc, xfs⟩ := ⟨_, rfl⟩
  have HX : Hid (.agg #[.int .i64 xh, .int .i64 xe, .slice xva xvs.length xvc, .slice xga xgs.length xgc, .slice xfa xfs.length xfc] = vwV X) := by rw [hX]; rfl
  rw [← hX] at HOk HSm HXU HRX ⊢
  rw [← HX.out]
  clear hX
  obtain ⟨wx, hwx, ex, X0, BX⟩ := one_new w4 [.int .i64 xh, .int .i64 xe, .slice xva xvs.length xvc, .slice xga xgs.length xgc, .slice xfa xfs.length xfc] 42
  have HXb := hid X0
  have HBx := hid (HB4.out.trans (BX.mono HB4.out.size))
  have HAx := hid (HA4.out.below BX HA4.out.lt)
  have HRx := hid (HRX.out.below BX)
  clear X0 BX HA4 HRX
  have y0 := HXb.out.c 0 rfl
  have y1 := HXb.out.c 1 rfl
  have y2 := HXb.out.c 2 rfl
  have y3 := HXb.out.c 3 rfl
  have y4 := HXb.out.c 4 rfl
  go_wp2_with fail
  rw [HX.out]
  refine (iViewOk wx X HRx.out HXU.out).mono ?_
  rintro e w5 ⟨rfl, b5⟩
  have HB5 := hid (HBx.out.trans (b5.mono HBx.out.size))
  have HXb5 := hid (HXb.out.below b5 HXb.out.lt)
  have HA5 := hid (HAx.out.below b5 HAx.out.lt)
  have HR5 := hid (HRx.out.below b5)
  rw [HOk.out]
  clear b5 hwx y0 y1 y2 y3 y4 HXb HAx HRx HBx HOk
  generalize Vw.ok V = q at *
  have k0 := HA5.out.c 0 rfl
  have k1 := HA5.out.c 1 rfl
  have k2 := HA5.out.c 2 rfl
  have k3 := HA5.out.c 3 rfl
  have k4 := HA5.out.c 4 rfl
  have y0 := HXb5.out.c 0 rfl
  have y1 := HXb5.out.c 1 rfl
  have y2 := HXb5.out.c 2 rfl
  have y3 := HXb5.out.c 3 rfl
  have y4 := HXb5.out.c 4 rfl
  rw [← HX.out]
  go_wp2
  go_region_with (first
    | (go_at_call 11; rw [HV.out]; refine (toView _ V (HS.out.below HB5.out.drew) HU.out).mono ?_; rintro e w6 ⟨Y, rfl, hW6, hS6, b6'⟩; have b6 := undrew b6'; have n0 := (HXb5.out.below b6 HXb5.out.lt).c 0 rfl; have n1 := (HXb5.out.below b6 HXb5.out.lt).c 1 rfl; have n2 := (HXb5.out.below b6 HXb5.out.lt).c 2 rfl; have n3 := (HXb5.out.below b6 HXb5.out.lt).c 3 rfl; have n4 := (HXb5.out.below b6 HXb5.out.lt).c 4 rfl)
    | (go_at_call 13; rw [HX.out]; refine (eqView _ X Y (HR5.out.below b6) hW6.r (HSm.out.symm.trans hS6) HXU.out).mono ?_; rintro e w7 ⟨rfl, b7⟩))
  all_goals (have HB7 := hid ((HB5.out.trans (b6.mono HB5.out.size)).trans (b7.mono (Nat.le_trans HB5.out.size b6.size))); clear b6 b6' b7 hW6 hS6 n0 n1 n2 n3 n4 y0 y1 y2 y3 y4 k0 k1 k2 k3 k4; go_wp2; go_ret; exact ⟨rfl, HB7.out⟩)

end Go.Proofs.Yteaiciofcffkgaa.Pl
