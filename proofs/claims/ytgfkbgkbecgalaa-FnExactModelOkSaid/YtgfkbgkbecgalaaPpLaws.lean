/-
  The laws of ModelOk and ReadOf; the walks of spec.ReadOf and impl.ReadOf. No condition but lists of at most 2^20.
-/
import Derived.Test.YtgfkbgkbecgalaaPpOk2
namespace Go.Proofs.Ytgfkbgkbecgalaa.Pl
open Go.RowKit Go.Proofs.Ytgfkbgkbecgalaa.Mem
set_option linter.unusedVariables false

set_option maxRecDepth 100000 in
set_option maxHeartbeats 2000000 in
theorem lawModelOk (w : World) (a : Option Addr) (cap : Nat) (L : List Pv) (S : Pvs w a L) (hl : L.length ≤ maxLen) (hs : ∀ x ∈ L, x.Upto maxLen) :
    Calls Try.prog 4 #[plV a L.length cap] w fun e w' => e = .returned (.bool true) ∧ Below w.heap.size w w' := by
  unfold plV
  have HS := hid S
  have HL := hid hl
  have Hs := hid hs
  clear S hl hs
  obtain ⟨wa, hwa, ez, A0, B0⟩ := one_new w [.slice a L.length cap] 31
  have HA := hid A0
  have HB := hid B0
  have k0 := A0.c 0 rfl
  clear A0 B0 ez
  go_enter Try.func4, Try.ntmps4
  go_wp2_with fail
  try simp only [hwa]
  clear hwa
  refine (szPool wa a cap L 1048576 (HS.out.below HB.out) HL.out Hs.out (by decide) (by decide)).mono ?_
  rintro e w1 ⟨r, rfl, b1, hf⟩
  have HB1 := hid (HB.out.trans (b1.mono HB.out.size))
  have HA1 := hid (HA.out.below b1 HA.out.lt)
  clear b1 k0
  by_cases hr : r < 0
  · clear hf
    go_wp2
    go_ret
    exact ⟨rfl, HB1.out⟩
  · have hf2 : (L.length : Int) ≤ 1048576 ∧ ∀ x ∈ L, x.Upto 1048576 := by
      rcases hf with h | h
      · omega
      · exact h.2.2
    have hll : L.length ≤ 1048576 := by have := hf2.1; omega
    have HU := hid hf2.2
    have HL2 := hid hll
    clear hf hf2 hll
    have k0 := HA1.out.c 0 rfl
    go_wp2_with fail
    refine (toPool w1 a cap L (HS.out.below HB1.out) HL2.out HU.out).mono ?_
    rintro e w2 ⟨g1, M1, rfl, S2, D2, b2⟩
    unfold plV
    have HB2 := hid (HB1.out.trans (b2.mono HB1.out.size))
    have HA2 := hid (HA1.out.below b2 HA1.out.lt)
    have HS2 := hid S2
    have HD2 := hid D2
    clear b2 S2 D2 k0 hr
    go_wp2_with fail
    refine (sModelOk w2 _ _ M1 HS2.out.r (upto_data HD2.out HL2.out HU.out).1 (upto_data HD2.out HL2.out HU.out).2).mono ?_
    rintro e w3 ⟨rfl, b3⟩
    have HB3 := hid (HB2.out.trans (b3.mono HB2.out.size))
    have HA3 := hid (HA2.out.below b3 HA2.out.lt)
    rw [← modelOk_data HD2.out]
    clear b3 HS2
    have k0 := HA3.out.c 0 rfl
    go_wp2_with fail
    refine (toPool w3 a cap L (HS.out.below HB3.out) HL2.out HU.out).mono ?_
    rintro e w4 ⟨g2, M2, rfl, S4, D4, b4⟩
    unfold plV
    have HB4 := hid (HB3.out.trans (b4.mono HB3.out.size))
    have HA4 := hid (HA3.out.below b4 HA3.out.lt)
    have HD4 := hid D4
    obtain ⟨wx, hwx, ex, X0, BX⟩ := one_new w4 [.slice (some ⟨g2, 0, none⟩) M2.length M2.length] 24
    have HXb := hid X0
    have HBx := hid (HB4.out.trans (BX.mono HB4.out.size))
    have HAx := hid (HA4.out.below BX HA4.out.lt)
    have HRx := hid (S4.r.below BX)
    have y0 := X0.c 0 rfl
    clear b4 S4 D4 k0 HA3 HA2 HA1 X0 BX ex HA4
    go_wp2_with fail
    try simp only [hwx]
    clear hwx
    refine (iModelOk wx _ _ M2 HRx.out (upto_data HD4.out HL2.out HU.out).1).mono ?_
    rintro e w5 ⟨rfl, b5⟩
    have HB5 := hid (HBx.out.trans (b5.mono HBx.out.size))
    have HXb5 := hid (HXb.out.below b5 HXb.out.lt)
    have HA5 := hid (HAx.out.below b5 HAx.out.lt)
    have HR5 := hid (HRx.out.below b5)
    rw [← modelOk_data HD4.out]
    clear b5 y0 HXb HAx HRx HBx
    generalize modelOk L = q at *
    have k0 := HA5.out.c 0 rfl
    have y0 := HXb5.out.c 0 rfl
    go_wp2
    go_region_with (first
      | (go_at_call 14; refine (toPool _ a cap L (HS.out.below HB5.out.drew) HL2.out HU.out).mono ?_; rintro e w6 ⟨g3, M3, rfl, S6, D6, b6'⟩; unfold plV; have b6 := undrew b6'; have n0 := (HXb5.out.below b6 HXb5.out.lt).c 0 rfl)
      | (go_at_call 9; refine (eqPool _ _ _ _ _ M2 M3 (HR5.out.below b6) S6.r (HD4.out.symm.trans D6) (len_max (upto_data HD4.out HL2.out HU.out).1) (upto_max (upto_data HD4.out HL2.out HU.out).2)).mono ?_; rintro e w7 ⟨rfl, b7⟩))
    all_goals (have HB7 := hid ((HB5.out.trans (b6.mono HB5.out.size)).trans (b7.mono (Nat.le_trans HB5.out.size b6.size))); clear b6 b6' b7 S6 D6 n0 y0 k0; go_wp2; go_ret; exact ⟨rfl, HB7.out⟩)

end Go.Proofs.Ytgfkbgkbecgalaa.Pl
