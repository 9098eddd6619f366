/-
  The laws' helpers for one volume's and one group's sector: sizes, laid anew, compared. No condition but lists of at most 2^20.
-/
import Derived.Test.YteaiciofcffkgaaSecOk
import Derived.Test.YteaiciofcffkgaaEqDisk
namespace Go.Proofs.Yteaiciofcffkgaa.Sec
open Go.RowKit Go.Proofs.Yteaiciofcffkgaa.Mem
set_option linter.unusedVariables false

set_option maxRecDepth 100000 in
set_option maxHeartbeats 1000000 in
theorem eqLease (h e : Int) (w : World) : Calls Try.prog 35 #[.agg #[.int .i64 h, .int .i64 e], .agg #[.int .i64 h, .int .i64 e]] w fun r w' => r = .returned (.bool true) ∧ Below w.heap.size w w' := by
  go_enter Try.func35, Try.ntmps35
  go_wp2
  go_ret
  exact ⟨rfl, by go_grown⟩

set_option maxRecDepth 100000 in
set_option maxHeartbeats 1000000 in
theorem szVolSec (w : World) (h e : Int) (on : Bool) (a : Option Addr) (cap n : Nat) (left : Int) (hl : n ≤ maxLen) (h0 : 0 ≤ left) (h1 : left ≤ 1048576) :
    Calls Try.prog 39 #[vlV h e on a n cap, .int .i64 left] w fun r w' => ∃ z, r = .returned (.int .i64 z) ∧ Below w.heap.size w w' ∧ FitN z left n := by
  unfold vlV
  obtain ⟨wa, hwa, ez, A0, B0⟩ := one_new w [.int .i64 h, .int .i64 e, .bool on, .slice a n cap] 72
  have k2 := A0.c 3 rfl
  have HB := hid B0
  clear A0 B0
  go_enter Try.func39, Try.ntmps39
  go_wp2_with fail
  refine (szIntS wa a cap n left hl h0 h1).mono ?_
  rintro r w1 ⟨z, rfl, hw, hf⟩
  subst hw
  have HF := hid hf
  clear hf
  by_cases hz : z < 0
  · go_wp2
    go_ret
    exact ⟨_, rfl, HB.out, Or.inl (by decide)⟩
  · go_wp2
    go_ret
    exact ⟨_, rfl, HB.out, HF.out⟩

set_option maxRecDepth 100000 in
set_option maxHeartbeats 2000000 in
theorem toVolSec (w : World) (h e : Int) (on : Bool) (a : Option Addr) (cap : Nat) (l : List Int) (S : Ints w a l) (hl : l.length ≤ 1048576) :
    Calls Try.prog 44 #[vlV h e on a l.length cap] w fun r w' => ∃ g, r = .returned (vlV h e on (some ⟨g, 0, none⟩) l.length l.length) ∧ w.heap.size ≤ g ∧ g < w'.heap.size ∧ IntsW w' w.heap.size (some ⟨g, 0, none⟩) l ∧ Below w.heap.size w w' := by
  unfold vlV
  have HS := hid S
  clear S
  go_enter Try.func44, Try.ntmps44
  go_wp2_with fail
  obtain ⟨wc, hwc, e2, A0, R0, O0, B0⟩ := three_new w [.int .i64 h, .int .i64 e, .bool on, .slice a l.length cap] [.int .i64 0, .int .i64 0, .bool false, .slice none 0 0] 72 57
  simp only [hwc]
  clear hwc
  refine (toLease h e wc).mono ?_
  rintro r w1 ⟨rfl, b1⟩
  replace A0 := A0.below b1 (by omega)
  replace R0 := R0.below b1 (by omega)
  replace O0 := O0.below b1 (by omega)
  replace B0 := B0.trans (b1.mono (by omega))
  have hs1 := b1.size
  have ca := A0.c 3 rfl
  have ca2 := A0.c 2 rfl
  have co0 := O0.c 0 rfl
  have co1 := O0.c 1 rfl
  have co2 := O0.c 2 rfl
  have fo0 := O0.f 0
  have fo1 := O0.f 1
  have fo2 := O0.f 2
  have HA := hid A0
  have HR := hid R0
  have HO := hid O0
  clear A0 R0 O0 b1
  go_wp2_with fail
  have A0 := (HA.out.other (p := ⟨w.heap.size + 1 + 1, 0, none⟩) (by show w.heap.size ≠ w.heap.size + 1 + 1; omega) (.int .i64 h)).other (p := ⟨w.heap.size + 1 + 1, 1, none⟩) (by show w.heap.size ≠ w.heap.size + 1 + 1; omega) (.int .i64 e)
  replace A0 := A0.other (p := ⟨w.heap.size + 1 + 1, 2, none⟩) (by show w.heap.size ≠ w.heap.size + 1 + 1; omega) (.bool on)
  have R0 := (HR.out.other (p := ⟨w.heap.size + 1 + 1, 0, none⟩) (by show w.heap.size + 1 ≠ w.heap.size + 1 + 1; omega) (.int .i64 h)).other (p := ⟨w.heap.size + 1 + 1, 1, none⟩) (by show w.heap.size + 1 ≠ w.heap.size + 1 + 1; omega) (.int .i64 e)
  replace R0 := R0.other (p := ⟨w.heap.size + 1 + 1, 2, none⟩) (by show w.heap.size + 1 ≠ w.heap.size + 1 + 1; omega) (.bool on)
  have O0 := ((HO.out.set 0 (.int .i64 h)).set 1 (.int .i64 e)).set 2 (.bool on)
  replace B0 := below_set (below_set B0 (w.heap.size + 1 + 1) 0 (.int .i64 h) (by omega)) (w.heap.size + 1 + 1) 1 (.int .i64 e) (by omega)
  replace B0 := below_set B0 (w.heap.size + 1 + 1) 2 (.bool on) (by omega)
  have es : (((w1.setCell ⟨w.heap.size + 1 + 1, 0, none⟩ (.int .i64 h)).setCell ⟨w.heap.size + 1 + 1, 1, none⟩ (.int .i64 e)).setCell ⟨w.heap.size + 1 + 1, 2, none⟩ (.bool on)).heap.size = w1.heap.size := by simp
  generalize ((w1.setCell ⟨w.heap.size + 1 + 1, 0, none⟩ (.int .i64 h)).setCell ⟨w.heap.size + 1 + 1, 1, none⟩ (.int .i64 e)).setCell ⟨w.heap.size + 1 + 1, 2, none⟩ (.bool on) = w1' at *
  clear ca ca2 co0 co1 co2 fo0 fo1 fo2 HA HR HO
  refine (toIntS w1' a cap l (HS.out.below B0) hl).mono ?_
  rintro r w2 ⟨g, rfl, hg, hl2, S2, b2⟩
  replace R0 := R0.below b2 R0.lt
  replace O0 := O0.below b2 O0.lt
  replace B0 := B0.trans (b2.mono (by omega))
  have d0 := O0.c 0 rfl
  have d1 := O0.c 1 rfl
  have d2 := O0.c 2 rfl
  have d3 := O0.c 3 rfl
  have fd := O0.f 3
  have cr0 := R0.c 0 rfl
  have cr1 := R0.c 1 rfl
  have cr2 := R0.c 2 rfl
  have cr3 := R0.c 3 rfl
  have fr0 := R0.f 0
  have fr1 := R0.f 1
  have fr2 := R0.f 2
  have fr3 := R0.f 3
  have HS2 := hid S2
  have HB := hid B0
  have HR := hid (((((R0.other (p := ⟨w.heap.size + 1 + 1, 3, none⟩) (by show w.heap.size + 1 ≠ w.heap.size + 1 + 1; omega) (.slice (some ⟨g, 0, none⟩) l.length l.length)).set 0 (.int .i64 h)).set 1 (.int .i64 e)).set 2 (.bool on)).set 3 (.slice (some ⟨g, 0, none⟩) l.length l.length))
  clear R0 O0 b2 S2 B0
  go_wp2
  refine bodyPost_ret (results_row rfl _ _ (w.heap.size + 1) [.int .i64 h, .int .i64 e, .bool on, .slice (some ⟨g, 0, none⟩) l.length l.length] _ rfl HR.out Try.underlying57 rfl (by kernel_rfl)) rfl ?_
  refine ⟨g, rfl, by omega, by simpa using hl2, ?_, ?_⟩
  · exact (HS2.out.move ((((((kept_set _ _ _ _).trans (kept_set _ _ _ _)).trans (kept_set _ _ _ _)).trans (kept_set _ _ _ _)).trans (kept_set _ _ _ _)).mono (T := fun b => b < wc.heap.size) (fun b _ hb => by rcases hb with (((h | h) | h) | h) | h <;> omega)) (fun b hb => by have := HS2.out.foot_ge hb; omega)).mono (by omega)
  · exact below_set (below_set (below_set (below_set (below_set (HB.out) _ _ _ (by omega)) _ _ _ (by omega)) _ _ _ (by omega)) _ _ _ (by omega)) _ _ _ (by omega)

set_option maxRecDepth 100000 in
set_option maxHeartbeats 1000000 in
theorem eqVolSec (w : World) (h e : Int) (on : Bool) (a b : Option Addr) (ca cb : Nat) (l m : List Int) (S : Ints w a l) (T : Ints w b m) (hl : l.length ≤ maxLen) (hm : m.length ≤ maxLen) (hlm : l = m) :
    Calls Try.prog 48 #[vlV h e on a l.length ca, vlV h e on b m.length cb] w fun r w' => r = .returned (.bool true) ∧ Below w.heap.size w w' := by
  unfold vlV
  have HS := hid S
  have HT := hid T
  have HL := hid hl
  have HM := hid hm
  have HE := hid (decide_eq_true hlm)
  clear S T hl hm hlm
  obtain ⟨wa, hwa, ez, A0, C0, B0⟩ := two_new w [.int .i64 h, .int .i64 e, .bool on, .slice a l.length ca] [.int .i64 h, .int .i64 e, .bool on, .slice b m.length cb] 57 57
  have k0 := A0.c 0 rfl
  have k1 := A0.c 1 rfl
  have k2 := A0.c 2 rfl
  have k3 := A0.c 3 rfl
  have j0 := C0.c 0 rfl
  have j1 := C0.c 1 rfl
  have j2 := C0.c 2 rfl
  have j3 := C0.c 3 rfl
  have HA := hid A0
  have HC := hid C0
  have HB := hid B0
  clear A0 B0 C0
  go_enter Try.func48, Try.ntmps48
  go_wp2_with fail
  refine (eqLease h e wa).mono ?_
  rintro r w1 ⟨rfl, b1⟩
  replace k2 := (HA.out.below b1 HA.out.lt).c 2 rfl
  replace k3 := (HA.out.below b1 HA.out.lt).c 3 rfl
  replace j2 := (HC.out.below b1 HC.out.lt).c 2 rfl
  replace j3 := (HC.out.below b1 HC.out.lt).c 3 rfl
  have HB1 := hid (HB.out.trans (b1.mono HB.out.size))
  clear b1 hwa k0 k1 j0 j1
  go_wp2_with fail
  refine (eqIntS w1 a b ca cb l m (HS.out.below HB1.out) (HT.out.below HB1.out) HL.out HM.out).mono ?_
  rintro r w2 ⟨rfl, b2⟩
  have HB2 := hid (HB1.out.trans (b2.mono HB1.out.size))
  rw [HE.out]
  clear b2
  go_wp2
  go_ret
  exact ⟨rfl, HB2.out⟩

set_option maxRecDepth 100000 in
set_option maxHeartbeats 1000000 in
theorem szGroupSec (w : World) (h e : Int) (a : Option Addr) (cap n : Nat) (left : Int) (hl : n ≤ maxLen) (h0 : 0 ≤ left) (h1 : left ≤ 1048576) :
    Calls Try.prog 40 #[gpV h e a n cap, .int .i64 left] w fun r w' => ∃ z, r = .returned (.int .i64 z) ∧ Below w.heap.size w w' ∧ FitN z left n := by
  unfold gpV
  obtain ⟨wa, hwa, ez, A0, B0⟩ := one_new w [.int .i64 h, .int .i64 e, .slice a n cap] 75
  have k2 := A0.c 2 rfl
  have HB := hid B0
  clear A0 B0
  go_enter Try.func40, Try.ntmps40
  go_wp2_with fail
  refine (szIntS wa a cap n left hl h0 h1).mono ?_
  rintro r w1 ⟨z, rfl, hw, hf⟩
  subst hw
  have HF := hid hf
  clear hf
  by_cases hz : z < 0
  · go_wp2
    go_ret
    exact ⟨_, rfl, HB.out, Or.inl (by decide)⟩
  · go_wp2
    go_ret
    exact ⟨_, rfl, HB.out, HF.out⟩

set_option maxRecDepth 100000 in
set_option maxHeartbeats 2000000 in
theorem toGroupSec (w : World) (h e : Int) (a : Option Addr) (cap : Nat) (l : List Int) (S : Ints w a l) (hl : l.length ≤ 1048576) :
    Calls Try.prog 45 #[gpV h e a l.length cap] w fun r w' => ∃ g, r = .returned (gpV h e (some ⟨g, 0, none⟩) l.length l.length) ∧ w.heap.size ≤ g ∧ g < w'.heap.size ∧ IntsW w' w.heap.size (some ⟨g, 0, none⟩) l ∧ Below w.heap.size w w' := by
  unfold gpV
  have HS := hid S
  clear S
  go_enter Try.func45, Try.ntmps45
  go_wp2_with fail
  obtain ⟨wc, hwc, e2, A0, R0, O0, B0⟩ := three_new w [.int .i64 h, .int .i64 e, .slice a l.length cap] [.int .i64 0, .int .i64 0, .slice none 0 0] 75 60
  simp only [hwc]
  clear hwc
  refine (toLease h e wc).mono ?_
  rintro r w1 ⟨rfl, b1⟩
  replace A0 := A0.below b1 (by omega)
  replace R0 := R0.below b1 (by omega)
  replace O0 := O0.below b1 (by omega)
  replace B0 := B0.trans (b1.mono (by omega))
  have hs1 := b1.size
  have ca := A0.c 2 rfl
  have co0 := O0.c 0 rfl
  have co1 := O0.c 1 rfl
  have fo0 := O0.f 0
  have fo1 := O0.f 1
  have HA := hid A0
  have HR := hid R0
  have HO := hid O0
  clear A0 R0 O0 b1
  go_wp2_with fail
  have A0 := (HA.out.other (p := ⟨w.heap.size + 1 + 1, 0, none⟩) (by show w.heap.size ≠ w.heap.size + 1 + 1; omega) (.int .i64 h)).other (p := ⟨w.heap.size + 1 + 1, 1, none⟩) (by show w.heap.size ≠ w.heap.size + 1 + 1; omega) (.int .i64 e)
  have R0 := (HR.out.other (p := ⟨w.heap.size + 1 + 1, 0, none⟩) (by show w.heap.size + 1 ≠ w.heap.size + 1 + 1; omega) (.int .i64 h)).other (p := ⟨w.heap.size + 1 + 1, 1, none⟩) (by show w.heap.size + 1 ≠ w.heap.size + 1 + 1; omega) (.int .i64 e)
  have O0 := (HO.out.set 0 (.int .i64 h)).set 1 (.int .i64 e)
  replace B0 := below_set (below_set B0 (w.heap.size + 1 + 1) 0 (.int .i64 h) (by omega)) (w.heap.size + 1 + 1) 1 (.int .i64 e) (by omega)
  have es : ((w1.setCell ⟨w.heap.size + 1 + 1, 0, none⟩ (.int .i64 h)).setCell ⟨w.heap.size + 1 + 1, 1, none⟩ (.int .i64 e)).heap.size = w1.heap.size := by simp
  generalize (w1.setCell ⟨w.heap.size + 1 + 1, 0, none⟩ (.int .i64 h)).setCell ⟨w.heap.size + 1 + 1, 1, none⟩ (.int .i64 e) = w1' at *
  clear ca co0 co1 fo0 fo1 HA HR HO
  refine (toIntS w1' a cap l (HS.out.below B0) hl).mono ?_
  rintro r w2 ⟨g, rfl, hg, hl2, S2, b2⟩
  replace R0 := R0.below b2 R0.lt
  replace O0 := O0.below b2 O0.lt
  replace B0 := B0.trans (b2.mono (by omega))
  have d0 := O0.c 0 rfl
  have d1 := O0.c 1 rfl
  have d2 := O0.c 2 rfl
  have fd := O0.f 2
  have cr0 := R0.c 0 rfl
  have cr1 := R0.c 1 rfl
  have cr2 := R0.c 2 rfl
  have fr0 := R0.f 0
  have fr1 := R0.f 1
  have fr2 := R0.f 2
  have HS2 := hid S2
  have HB := hid B0
  have HR := hid ((((R0.other (p := ⟨w.heap.size + 1 + 1, 2, none⟩) (by show w.heap.size + 1 ≠ w.heap.size + 1 + 1; omega) (.slice (some ⟨g, 0, none⟩) l.length l.length)).set 0 (.int .i64 h)).set 1 (.int .i64 e)).set 2 (.slice (some ⟨g, 0, none⟩) l.length l.length))
  clear R0 O0 b2 S2 B0
  go_wp2
  refine bodyPost_ret (results_row rfl _ _ (w.heap.size + 1) [.int .i64 h, .int .i64 e, .slice (some ⟨g, 0, none⟩) l.length l.length] _ rfl HR.out Try.underlying60 rfl (by kernel_rfl)) rfl ?_
  refine ⟨g, rfl, by omega, by simpa using hl2, ?_, ?_⟩
  · exact (HS2.out.move (((((kept_set _ _ _ _).trans (kept_set _ _ _ _)).trans (kept_set _ _ _ _)).trans (kept_set _ _ _ _)).mono (T := fun b => b < wc.heap.size) (fun b _ hb => by rcases hb with ((h | h) | h) | h <;> omega)) (fun b hb => by have := HS2.out.foot_ge hb; omega)).mono (by omega)
  · exact below_set (below_set (below_set (below_set (HB.out) _ _ _ (by omega)) _ _ _ (by omega)) _ _ _ (by omega)) _ _ _ (by omega)

set_option maxRecDepth 100000 in
set_option maxHeartbeats 1000000 in
theorem eqGroupSec (w : World) (h e : Int) (a b : Option Addr) (ca cb : Nat) (l m : List Int) (S : Ints w a l) (T : Ints w b m) (hl : l.length ≤ maxLen) (hm : m.length ≤ maxLen) (hlm : l = m) :
    Calls Try.prog 49 #[gpV h e a l.length ca, gpV h e b m.length cb] w fun r w' => r = .returned (.bool true) ∧ Below w.heap.size w w' := by
  unfold gpV
  have HS := hid S
  have HT := hid T
  have HL := hid hl
  have HM := hid hm
  have HE := hid (decide_eq_true hlm)
  clear S T hl hm hlm
  obtain ⟨wa, hwa, ez, A0, C0, B0⟩ := two_new w [.int .i64 h, .int .i64 e, .slice a l.length ca] [.int .i64 h, .int .i64 e, .slice b m.length cb] 60 60
  have k0 := A0.c 0 rfl
  have k1 := A0.c 1 rfl
  have k2 := A0.c 2 rfl
  have j0 := C0.c 0 rfl
  have j1 := C0.c 1 rfl
  have j2 := C0.c 2 rfl
  have HA := hid A0
  have HC := hid C0
  have HB := hid B0
  clear A0 B0 C0
  go_enter Try.func49, Try.ntmps49
  go_wp2_with fail
  refine (eqLease h e wa).mono ?_
  rintro r w1 ⟨rfl, b1⟩
  replace k2 := (HA.out.below b1 HA.out.lt).c 2 rfl
  replace j2 := (HC.out.below b1 HC.out.lt).c 2 rfl
  have HB1 := hid (HB.out.trans (b1.mono HB.out.size))
  clear b1 hwa k0 k1 j0 j1
  go_wp2_with fail
  refine (eqIntS w1 a b ca cb l m (HS.out.below HB1.out) (HT.out.below HB1.out) HL.out HM.out).mono ?_
  rintro r w2 ⟨rfl, b2⟩
  have HB2 := hid (HB1.out.trans (b2.mono HB1.out.size))
  rw [HE.out]
  clear b2
  go_wp2
  go_ret
  exact ⟨rfl, HB2.out⟩

end Go.Proofs.Yteaiciofcffkgaa.Sec
