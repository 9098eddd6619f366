/-
  The walk of laws.toView: a view laid anew. No condition but lists of at most 2^20.
-/
import Derived.Test.YteaiciofcffkgaaVw
import Derived.Test.YteaiciofcffkgaaPuts
namespace Go.Proofs.Yteaiciofcffkgaa.Pl
open Go.RowKit Go.Proofs.Yteaiciofcffkgaa.Mem Go.Proofs.Yteaiciofcffkgaa.Sec
set_option linter.unusedVariables false

set_option maxRecDepth 100000 in
set_option maxHeartbeats 4000000 in
theorem toView (w : World) (V : Vw) (S : VwR w V) (hh : V.Upto 1048576) :
    Calls Try.prog 11 #[vwV V] w fun r w' => ∃ U, r = .returned (vwV U) ∧ VwW w' w.heap.size U ∧ V.Same U ∧ Below w.heap.size w w' := by
  obtain ⟨vh, ve, va, vc, vs, ga, gc, gs, fa, fc, fs⟩ := V
  have HV : Hid (vwV ⟨vh, ve, va, vc, vs, ga, gc, gs, fa, fc, fs⟩ = .agg #[.int .i64 vh, .int .i64 ve, .slice va vs.length vc, .slice ga gs.length gc, .slice fa fs.length fc]) := rfl
  rw [HV.out]
  have HS := hid S
  have HH := hid hh
  clear S hh
  go_enter Try.func11, Try.ntmps11
  go_wp2_with fail
  obtain ⟨wc, hwc, e2, A0, R0, O0, B0⟩ := three_news w [.int .i64 vh, .int .i64 ve, .slice va vs.length vc, .slice ga gs.length gc, .slice fa fs.length fc] [.int .i64 0, .int .i64 0, .slice none 0 0, .slice none 0 0, .slice none 0 0] [.int .i64 0, .int .i64 0, .slice none 0 0, .slice none 0 0, .slice none 0 0] 35 42
  simp only [hwc]
  clear hwc
  refine (toLease vh ve wc).mono ?_
  rintro r w1 ⟨rfl, b1⟩
  replace A0 := A0.below b1 (by omega)
  replace R0 := R0.below b1 (by omega)
  replace O0 := O0.below b1 (by omega)
  replace B0 := B0.trans (b1.mono (by omega))
  have hs1 := b1.size
  have ca := A0.c 2 rfl
  have co0 := O0.c 0 rfl
  have co1 := O0.c 1 rfl
  have fo0 := O0.f 0
  have fo1 := O0.f 1
  have HA := hid A0
  have HR := hid R0
  have HO := hid O0
  clear A0 R0 O0 b1
  go_wp2_with fail
  obtain ⟨w1', hw1', A0, R0, O0, B1, es⟩ : ∃ w1', (w1.setCell ⟨w.heap.size + 1 + 1, 0, none⟩ (.int .i64 vh)).setCell ⟨w.heap.size + 1 + 1, 1, none⟩ (.int .i64 ve) = w1' ∧ Row w1' w.heap.size _ ∧ Row w1' (w.heap.size + 1) _ ∧ Row w1' (w.heap.size + 1 + 1) _ ∧ Below w.heap.size w w1' ∧ w1'.heap.size = w1.heap.size :=
    ⟨_, rfl, puts_other HA.out (by omega) 0 [.int .i64 vh, .int .i64 ve], puts_other HR.out (by omega) 0 [.int .i64 vh, .int .i64 ve], puts_row HO.out 0 [.int .i64 vh, .int .i64 ve], puts_below B0 (by omega) 0 [.int .i64 vh, .int .i64 ve], puts_size w1 _ 0 [.int .i64 vh, .int .i64 ve]⟩
  simp only [hw1']
  clear hw1' ca co0 co1 fo0 fo1 HA HR HO B0
  refine (toVolSecS w1' va vc vs (HS.out.vols.below B1) HH.out.vl HH.out.ve).mono ?_
  rintro r w2 ⟨g1, M, rfl, hg1, hl1, S1, D1, b2⟩
  replace A0 := A0.below b2 A0.lt
  replace R0 := R0.below b2 R0.lt
  replace O0 := O0.below b2 O0.lt
  replace B1 := B1.trans (b2.mono (by omega))
  have hs2 := b2.size
  have HS1 := hid S1
  have HD1 := hid D1
  have ca := A0.c 3 rfl
  have co := O0.c 2 rfl
  have fo := O0.f 2
  have HA := hid A0
  have HR := hid R0
  have HO := hid O0
  clear A0 R0 O0 b2 S1 D1
  go_wp2_with fail
  obtain ⟨w2', hw2', A0, R0, O0, B2, es2, HS1'⟩ : ∃ w2', w2.setCell ⟨w.heap.size + 1 + 1, 2, none⟩ (.slice (some ⟨g1, 0, none⟩) M.length M.length) = w2' ∧ Row w2' w.heap.size _ ∧ Row w2' (w.heap.size + 1) _ ∧ Row w2' (w.heap.size + 1 + 1) _ ∧ Below w.heap.size w w2' ∧ w2'.heap.size = w2.heap.size ∧ Hid (VolsW w2' wc.heap.size (some ⟨g1, 0, none⟩) M) :=
    ⟨_, rfl, puts_other HA.out (by omega) 2 [.slice (some ⟨g1, 0, none⟩) M.length M.length], puts_other HR.out (by omega) 2 [.slice (some ⟨g1, 0, none⟩) M.length M.length], puts_row HO.out 2 [.slice (some ⟨g1, 0, none⟩) M.length M.length], puts_below B1 (by omega) 2 [.slice (some ⟨g1, 0, none⟩) M.length M.length], puts_size w2 _ 2 [.slice (some ⟨g1, 0, none⟩) M.length M.length], (HS1.out.mono (by omega)).kept (kept_set w2 (w.heap.size + 1 + 1) 2 _) (fun b hb => by omega)⟩
  simp only [hw2']
  clear hw2' ca co fo HA HR HO B1 HS1
  refine (toGroupSecS w2' ga gc gs (HS.out.grps.below B2) HH.out.gl HH.out.ge).mono ?_
  rintro r w3 ⟨g2, N, rfl, hg2, hl2, S2, D2, b3⟩
  replace A0 := A0.below b3 A0.lt
  replace R0 := R0.below b3 R0.lt
  replace O0 := O0.below b3 O0.lt
  replace B2 := B2.trans (b3.mono (by omega))
  have hs3 := b3.size
  have HS1 := hid (HS1'.out.below b3)
  have HS2 := hid S2
  have HD2 := hid D2
  have ca := A0.c 4 rfl
  have co := O0.c 3 rfl
  have fo := O0.f 3
  have HA := hid A0
  have HR := hid R0
  have HO := hid O0
  clear A0 R0 O0 b3 S2 D2 HS1'
  go_wp2_with fail
  obtain ⟨w3', hw3', R0, O0, B3, es3, HS1', HS2'⟩ : ∃ w3', w3.setCell ⟨w.heap.size + 1 + 1, 3, none⟩ (.slice (some ⟨g2, 0, none⟩) N.length N.length) = w3' ∧ Row w3' (w.heap.size + 1) _ ∧ Row w3' (w.heap.size + 1 + 1) _ ∧ Below w.heap.size w w3' ∧ w3'.heap.size = w3.heap.size ∧ Hid (VolsW w3' wc.heap.size (some ⟨g1, 0, none⟩) M) ∧ Hid (GrpsW w3' wc.heap.size (some ⟨g2, 0, none⟩) N) :=
    ⟨_, rfl, puts_other HR.out (by omega) 3 [.slice (some ⟨g2, 0, none⟩) N.length N.length], puts_row HO.out 3 [.slice (some ⟨g2, 0, none⟩) N.length N.length], puts_below B2 (by omega) 3 [.slice (some ⟨g2, 0, none⟩) N.length N.length], puts_size w3 _ 3 [.slice (some ⟨g2, 0, none⟩) N.length N.length], HS1.out.kept (kept_set w3 (w.heap.size + 1 + 1) 3 _) (fun b hb => by omega), (HS2.out.mono (by omega)).kept (kept_set w3 (w.heap.size + 1 + 1) 3 _) (fun b hb => by omega)⟩
  simp only [hw3']
  clear hw3' ca co fo HA HR HO B2 HS1 HS2
  refine (toIntS w3' fa fc fs (Sl.below HS.out.frees B3) HH.out.fl).mono ?_
  rintro r w4 ⟨g3, rfl, hg3, hl3, S3, b4⟩
  replace R0 := R0.below b4 R0.lt
  replace O0 := O0.below b4 O0.lt
  replace B3 := B3.trans (b4.mono (by omega))
  have hs4 := b4.size
  have HS1 := hid (HS1'.out.below b4)
  have HS2 := hid (HS2'.out.below b4)
  have HS3 := hid S3
  have d0 := O0.c 0 rfl
  have d1 := O0.c 1 rfl
  have d2 := O0.c 2 rfl
  have d3 := O0.c 3 rfl
  have d4 := O0.c 4 rfl
  have fd := O0.f 4
  have r0 := R0.c 0 rfl
  have r1 := R0.c 1 rfl
  have r2 := R0.c 2 rfl
  have r3 := R0.c 3 rfl
  have r4 := R0.c 4 rfl
  have f0 := R0.f 0
  have f1 := R0.f 1
  have f2 := R0.f 2
  have f3 := R0.f 3
  have f4 := R0.f 4
  have HB := hid B3
  have HR := hid (puts_row (R0.other (p := ⟨w.heap.size + 1 + 1, 4, none⟩) (by show w.heap.size + 1 ≠ w.heap.size + 1 + 1; omega) (.slice (some ⟨g3, 0, none⟩) fs.length fs.length)) 0 [.int .i64 vh, .int .i64 ve, .slice (some ⟨g1, 0, none⟩) M.length M.length, .slice (some ⟨g2, 0, none⟩) N.length N.length, .slice (some ⟨g3, 0, none⟩) fs.length fs.length])
  have HK := hid (((kept_set w4 (w.heap.size + 1 + 1) 4 (.slice (some ⟨g3, 0, none⟩) fs.length fs.length)).trans (puts_kept _ (w.heap.size + 1) 0 [.int .i64 vh, .int .i64 ve, .slice (some ⟨g1, 0, none⟩) M.length M.length, .slice (some ⟨g2, 0, none⟩) N.length N.length, .slice (some ⟨g3, 0, none⟩) fs.length fs.length])).mono (T := fun b => b < wc.heap.size) (fun b _ hb => by rcases hb with h | h <;> omega))
  have HBf := hid (puts_below (below_set HB.out (w.heap.size + 1 + 1) 4 (.slice (some ⟨g3, 0, none⟩) fs.length fs.length) (by omega)) (by omega : w.heap.size ≤ w.heap.size + 1) 0 [.int .i64 vh, .int .i64 ve, .slice (some ⟨g1, 0, none⟩) M.length M.length, .slice (some ⟨g2, 0, none⟩) N.length N.length, .slice (some ⟨g3, 0, none⟩) fs.length fs.length])
  clear R0 O0 b4 S3 B3 HS1' HS2'
  go_wp2
  refine bodyPost_ret (results_row rfl _ _ (w.heap.size + 1) [.int .i64 vh, .int .i64 ve, .slice (some ⟨g1, 0, none⟩) M.length M.length, .slice (some ⟨g2, 0, none⟩) N.length N.length, .slice (some ⟨g3, 0, none⟩) fs.length fs.length] _ rfl HR.out Try.underlying42 rfl (by kernel_rfl)) rfl ?_
  refine ⟨⟨vh, ve, some ⟨g1, 0, none⟩, M.length, M, some ⟨g2, 0, none⟩, N.length, N, some ⟨g3, 0, none⟩, fs.length, fs⟩, rfl, ?_, ⟨rfl, rfl, HD1.out, HD2.out, rfl⟩, HBf.out⟩
  have hw : VwW w4 wc.heap.size ⟨vh, ve, some ⟨g1, 0, none⟩, M.length, M, some ⟨g2, 0, none⟩, N.length, N, some ⟨g3, 0, none⟩, fs.length, fs⟩ := ⟨HS1.out, HS2.out, Wr.mono HS3.out (by omega)⟩
  exact (hw.kept HK.out (fun b hb => by omega)).mono (by omega)

end Go.Proofs.Yteaiciofcffkgaa.Pl
