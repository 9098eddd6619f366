/-
  The walks of laws.szGroupSec, laws.toGroupSec, laws.eqGroupSec and laws.FnExactShowGroup: the law answers true, and nothing that was there is changed. Condition: the table of sixteen sums holds what the program's text lays.
-/
import Derived.Test.YtaefafcecnpdaalDoorSecGroup
import Derived.Test.YtaefafcecnpdaalDoorEqDisk
import Derived.Test.YtaefafcecnpdaalDoorSecEq
import Derived.RegionTactic
import Derived.BigRegion
import Derived.Deep.RegionWith
namespace Go.Proofs.YtaefafcecnpdaalDoor.Sec
open Go.RowKit Go.Proofs.YtaefafcecnpdaalDoor.Mem Classical
set_option linter.unusedVariables false

set_option maxRecDepth 100000 in
set_option maxHeartbeats 1000000 in
theorem szGroupSec (w : World) (h e : Int) (a : Option Addr) (cap n : Nat) (left : Int) (hl : n ≤ maxLen) (h0 : 0 ≤ left) (h1 : left ≤ 1048576) :
    Calls Tryd.prog 14 #[gpV h e a n cap, .int .i64 left] w fun r w' => ∃ z, r = .returned (.int .i64 z) ∧ Below w.heap.size w w' ∧ FitN z left n := by
  unfold gpV
  obtain ⟨wa, hwa, ez, A0, B0⟩ := one_new w [.int .i64 h, .int .i64 e, .slice a n cap] 34
  have k2 := A0.c 2 rfl
  have HB := hid B0
  clear A0 B0
  go_enter Tryd.func14, Tryd.ntmps14
  go_wp2_with fail
  refine (szIntS wa a cap n left hl h0 h1).mono ?_
  rintro r w1 ⟨z, rfl, hw, hf⟩
  subst hw
  have HF := hid hf
  clear hf
  by_cases hz : z < 0
  · go_wp2
    go_ret
    exact ⟨_, rfl, HB.out, Or.inl (by decide)⟩
  · go_wp2
    go_ret
    exact ⟨_, rfl, HB.out, HF.out⟩

set_option maxRecDepth 100000 in
set_option maxHeartbeats 2000000 in
theorem toGroupSec (w : World) (h e : Int) (a : Option Addr) (cap : Nat) (l : List Int) (S : Ints w a l) (hl : l.length ≤ 1048576) :
    Calls Tryd.prog 16 #[gpV h e a l.length cap] w fun r w' => ∃ g, r = .returned (gpV h e (some ⟨g, 0, none⟩) l.length l.length) ∧ w.heap.size ≤ g ∧ g < w'.heap.size ∧ IntsW w' w.heap.size (some ⟨g, 0, none⟩) l ∧ Below w.heap.size w w' := by
  unfold gpV
  have HS := hid S
  clear S
  go_enter Tryd.func16, Tryd.ntmps16
  go_wp2_with fail
  obtain ⟨wc, hwc, e2, A0, R0, O0, B0⟩ := three_new w [.int .i64 h, .int .i64 e, .slice a l.length cap] [.int .i64 0, .int .i64 0, .slice none 0 0] 34 38
  simp only [hwc]
  clear hwc
  refine (toLease h e wc).mono ?_
  rintro r w1 ⟨rfl, b1⟩
  replace A0 := A0.below b1 (by omega)
  replace R0 := R0.below b1 (by omega)
  replace O0 := O0.below b1 (by omega)
  replace B0 := B0.trans (b1.mono (by omega))
  have hs1 := b1.size
  have ca := A0.c 2 rfl
  have co0 := O0.c 0 rfl
  have co1 := O0.c 1 rfl
  have fo0 := O0.f 0
  have fo1 := O0.f 1
  have HA := hid A0
  have HR := hid R0
  have HO := hid O0
  clear A0 R0 O0 b1
  go_wp2_with fail
  have A0 := (HA.out.other (p := ⟨w.heap.size + 1 + 1, 0, none⟩) (by show w.heap.size ≠ w.heap.size + 1 + 1; omega) (.int .i64 h)).other (p := ⟨w.heap.size + 1 + 1, 1, none⟩) (by show w.heap.size ≠ w.heap.size + 1 + 1; omega) (.int .i64 e)
  have R0 := (HR.out.other (p := ⟨w.heap.size + 1 + 1, 0, none⟩) (by show w.heap.size + 1 ≠ w.heap.size + 1 + 1; omega) (.int .i64 h)).other (p := ⟨w.heap.size + 1 + 1, 1, none⟩) (by show w.heap.size + 1 ≠ w.heap.size + 1 + 1; omega) (.int .i64 e)
  have O0 := (HO.out.set 0 (.int .i64 h)).set 1 (.int .i64 e)
  replace B0 := below_set (below_set B0 (w.heap.size + 1 + 1) 0 (.int .i64 h) (by omega)) (w.heap.size + 1 + 1) 1 (.int .i64 e) (by omega)
  have es : ((w1.setCell ⟨w.heap.size + 1 + 1, 0, none⟩ (.int .i64 h)).setCell ⟨w.heap.size + 1 + 1, 1, none⟩ (.int .i64 e)).heap.size = w1.heap.size := by simp
  generalize (w1.setCell ⟨w.heap.size + 1 + 1, 0, none⟩ (.int .i64 h)).setCell ⟨w.heap.size + 1 + 1, 1, none⟩ (.int .i64 e) = w1' at *
  clear ca co0 co1 fo0 fo1 HA HR HO
  refine (toIntS w1' a cap l (HS.out.below B0) hl).mono ?_
  rintro r w2 ⟨g, rfl, hg, hl2, S2, b2⟩
  replace R0 := R0.below b2 R0.lt
  replace O0 := O0.below b2 O0.lt
  replace B0 := B0.trans (b2.mono (by omega))
  have d0 := O0.c 0 rfl
  have d1 := O0.c 1 rfl
  have d2 := O0.c 2 rfl
  have fd := O0.f 2
  have cr0 := R0.c 0 rfl
  have cr1 := R0.c 1 rfl
  have cr2 := R0.c 2 rfl
  have fr0 := R0.f 0
  have fr1 := R0.f 1
  have fr2 := R0.f 2
  have HS2 := hid S2
  have HB := hid B0
  have HR := hid ((((R0.other (p := ⟨w.heap.size + 1 + 1, 2, none⟩) (by show w.heap.size + 1 ≠ w.heap.size + 1 + 1; omega) (.slice (some ⟨g, 0, none⟩) l.length l.length)).set 0 (.int .i64 h)).set 1 (.int .i64 e)).set 2 (.slice (some ⟨g, 0, none⟩) l.length l.length))
  clear R0 O0 b2 S2 B0
  go_wp2
  refine bodyPost_ret (results_row rfl _ _ (w.heap.size + 1) [.int .i64 h, .int .i64 e, .slice (some ⟨g, 0, none⟩) l.length l.length] _ rfl HR.out Tryd.underlying38 rfl (by kernel_rfl)) rfl ?_
  refine ⟨g, rfl, by omega, by simpa using hl2, ?_, ?_⟩
  · exact (HS2.out.move (((((kept_set _ _ _ _).trans (kept_set _ _ _ _)).trans (kept_set _ _ _ _)).trans (kept_set _ _ _ _)).mono (T := fun b => b < wc.heap.size) (fun b _ hb => by rcases hb with ((h | h) | h) | h <;> omega)) (fun b hb => by have := HS2.out.foot_ge hb; omega)).mono (by omega)
  · exact below_set (below_set (below_set (below_set (HB.out) _ _ _ (by omega)) _ _ _ (by omega)) _ _ _ (by omega)) _ _ _ (by omega)

set_option maxRecDepth 100000 in
set_option maxHeartbeats 1000000 in
theorem eqGroupSec (w : World) (h e : Int) (a b : Option Addr) (ca cb : Nat) (l m : List Int) (S : Ints w a l) (T : Ints w b m) (hl : l.length ≤ maxLen) (hm : m.length ≤ maxLen) (hlm : l = m) :
    Calls Tryd.prog 18 #[gpV h e a l.length ca, gpV h e b m.length cb] w fun r w' => r = .returned (.bool true) ∧ Below w.heap.size w w' := by
  unfold gpV
  have HS := hid S
  have HT := hid T
  have HL := hid hl
  have HM := hid hm
  have HE := hid (decide_eq_true hlm)
  clear S T hl hm hlm
  obtain ⟨wa, hwa, ez, A0, C0, B0⟩ := two_new w [.int .i64 h, .int .i64 e, .slice a l.length ca] [.int .i64 h, .int .i64 e, .slice b m.length cb] 38 38
  have k0 := A0.c 0 rfl
  have k1 := A0.c 1 rfl
  have k2 := A0.c 2 rfl
  have j0 := C0.c 0 rfl
  have j1 := C0.c 1 rfl
  have j2 := C0.c 2 rfl
  have HA := hid A0
  have HC := hid C0
  have HB := hid B0
  clear A0 B0 C0
  go_enter Tryd.func18, Tryd.ntmps18
  go_wp2_with fail
  refine (eqLease h e wa).mono ?_
  rintro r w1 ⟨rfl, b1⟩
  replace k2 := (HA.out.below b1 HA.out.lt).c 2 rfl
  replace j2 := (HC.out.below b1 HC.out.lt).c 2 rfl
  have HB1 := hid (HB.out.trans (b1.mono HB.out.size))
  clear b1 hwa k0 k1 j0 j1
  go_wp2_with fail
  refine (eqIntS w1 a b ca cb l m (HS.out.below HB1.out) (HT.out.below HB1.out) HL.out HM.out).mono ?_
  rintro r w2 ⟨rfl, b2⟩
  have HB2 := hid (HB1.out.trans (b2.mono HB1.out.size))
  rw [HE.out]
  clear b2
  go_wp2
  go_ret
  exact ⟨rfl, HB2.out⟩

set_option maxRecDepth 100000 in
set_option maxHeartbeats 2000000 in
theorem lawShowGroup (w : World) (h e : Int) (a : Option Addr) (cap : Nat) (l : List Int) (S : Ints w a l) (hm : l.length ≤ maxLen) (T : Sums w) :
    Calls Tryd.prog 4 #[gpV h e a l.length cap] w fun r w' => r = .returned (.bool true) ∧ Below w.heap.size w w' := by
  have HV : Hid (∀ a c, gpV h e a l.length c = .agg #[.int .i64 h, .int .i64 e, .slice a l.length c]) := fun _ _ => rfl
  have HM := hid hm
  have HS := hid S
  have HT := hid T
  clear S T hm
  rw [HV.out]
  obtain ⟨wa, hwa, ez, A0, B0⟩ := one_new w [.int .i64 h, .int .i64 e, .slice a l.length cap] 34
  have k0 := A0.c 0 rfl
  have k1 := A0.c 1 rfl
  have k2 := A0.c 2 rfl
  have HA := hid A0
  have HB := hid B0
  clear A0 B0
  go_enter Tryd.func4, Tryd.ntmps4
  go_wp2_with fail
  refine (szGroupSec wa h e a cap l.length 1048576 HM.out (by decide) (by decide)).mono ?_
  rintro r w1 ⟨z, rfl, b1, hf⟩
  have HA1 := hid (HA.out.below b1 HA.out.lt)
  have HB1 := hid (HB.out.trans (b1.mono HB.out.size))
  replace k0 := HA1.out.c 0 rfl
  replace k1 := HA1.out.c 1 rfl
  replace k2 := HA1.out.c 2 rfl
  have HF := hid hf
  clear b1 hf hwa HA HB
  by_cases hz : z < 0
  · go_wp2
    go_ret
    exact ⟨rfl, HB1.out⟩
  have hl : l.length ≤ 1048576 := by rcases HF.out with q | q <;> omega
  go_wp2_with fail
  refine (toGroupSec w1 h e a cap l (HS.out.below HB1.out) hl).mono ?_
  rintro r w2 ⟨g2, rfl, hg2, hl2, S2, b2⟩
  rw [HV.out]
  have HA2 := hid (HA1.out.below b2 HA1.out.lt)
  have HB2 := hid (HB1.out.trans (b2.mono HB1.out.size))
  have HS2 := hid S2.sl
  clear b2 S2 HA1 HB1
  go_wp2_with fail
  refine (sShowGroup w2 h e _ _ l HS2.out hl).mono ?_
  rintro r w3 ⟨rfl, b3⟩
  have HA3 := hid (HA2.out.below b3 HA2.out.lt)
  have HB3 := hid (HB2.out.trans (b3.mono HB2.out.size))
  replace k0 := HA3.out.c 0 rfl
  replace k1 := HA3.out.c 1 rfl
  replace k2 := HA3.out.c 2 rfl
  clear b3 HA2 HB2 HS2
  go_wp2_with fail
  refine (toGroupSec w3 h e a cap l (HS.out.below HB3.out) hl).mono ?_
  rintro r w4 ⟨g4, rfl, hg4, hl4, S4, b4⟩
  rw [HV.out]
  have HA4 := hid (HA3.out.below b4 HA3.out.lt)
  have HB4 := hid (HB3.out.trans (b4.mono HB3.out.size))
  have HS4 := hid S4.sl
  clear b4 S4 HA3 HB3 k0 k1 k2 
  go_wp2_with fail
  obtain ⟨w5, hw5, ez5, X0, B5⟩ := one_new w4 [.int .i64 h, .int .i64 e, .slice (some ⟨g4, 0, none⟩) l.length l.length] 38
  simp only [hw5]
  have HA5 := hid (HA4.out.below B5 HA4.out.lt)
  have HB5 := hid (HB4.out.trans (B5.mono HB4.out.size))
  have HS5 := hid (HS4.out.below B5)
  have HX5 := hid X0
  clear X0 B5 HA4 HB4 HS4 hw5
  refine (iShowGroup w5 h e _ _ l HS5.out hl (HT.out.below HB5.out)).mono ?_
  rintro r w6 ⟨rfl, b6⟩
  have HA6 := hid (HA5.out.below b6 HA5.out.lt)
  have HB6 := hid (HB5.out.trans (b6.mono HB5.out.size))
  have HS6 := hid (HS5.out.below b6)
  have HX6 := hid (HX5.out.below b6 HX5.out.lt)
  clear b6 HA5 HB5 HS5 HX5
  have k0 := HA6.out.c 0 rfl
  have k1 := HA6.out.c 1 rfl
  have k2 := HA6.out.c 2 rfl
  have m0 := HX6.out.c 0 rfl
  have m1 := HX6.out.c 1 rfl
  have m2 := HX6.out.c 2 rfl
  generalize showGroup h e l = q
  go_wp2
  go_region_with (first
    | (go_at_call 16; refine (toGroupSec _ h e a cap l (HS.out.below HB6.out.drew) hl).mono ?_; rintro r w7 ⟨g7, rfl, hg7, hl7, S7, b7'⟩; have b7 := undrew b7'; have n0 := (HX6.out.below b7 HX6.out.lt).c 0 rfl; have n1 := (HX6.out.below b7 HX6.out.lt).c 1 rfl; have n2 := (HX6.out.below b7 HX6.out.lt).c 2 rfl)
    | (go_at_call 18; refine (eqGroupSec _ h e _ _ _ _ l l (HS6.out.below b7) S7.sl HM.out HM.out rfl).mono ?_; rintro r w8 ⟨rfl, b8⟩))
  all_goals (have HB8 := hid ((HB6.out.trans (b7.mono HB6.out.size)).trans (b8.mono (Nat.le_trans HB6.out.size b7.size))); clear b7 b7' b8 S7 n0 n1 n2 m0 m1 m2 k0 k1 k2 ; go_wp2; go_ret; exact ⟨rfl, HB8.out⟩)

end Go.Proofs.YtaefafcecnpdaalDoor.Sec
