/-
  The walk of spec.Flush: what it makes of a disk, in rows of its own. No condition but sizes.
-/
import Derived.Test.YtppjohfafnbdlajDkFlush
import Derived.Test.YtppjohfafnbdlajPeekLaw
import Derived.Test.YtppjohfafnbdlajWrapEnd
namespace Go.Proofs.Ytppjohfafnbdlaj.Mem
open Go.RowKit Classical
set_option linter.unusedVariables false

/-- What Flush answers. -/
def Dk.flushA (D : Dk) (x ep : Int) : Dk × Int := if D.right = true then D.flush x ep else (Dk.nil, 1)

set_option maxRecDepth 100000 in
set_option maxHeartbeats 2000000 in
theorem specFlush (w : World) (v : Value) (D : Dk) (x ep : Int) (h : DkR w v D) (hd : D.Held) (hs : D.Small 1048576) :
    Calls Try.prog 21 #[v, .int .i64 x, .int .i64 ep] w fun e w' => ∃ v', e = .returned (.tuple #[v', .int .i64 (D.flushA x ep).2]) ∧ DkW w' w.heap.size v' (D.flushA x ep).1 ∧ Below w.heap.size w w' := by
  have HH := hid h
  have HD := hid hd
  have HS := hid hs
  obtain ⟨a1, c1, a2, c2, a3, c3, rfl, _, _, _⟩ := h
  clear hd hs
  obtain ⟨wb, hwb, ez, A0, R0, B0⟩ := two_new w [.slice a1 D.sec.length c1, .slice a2 D.ep.length c2, .slice a3 D.pe.length c3] [.slice none 0 0, .slice none 0 0, .slice none 0 0] 31 31
  have k0 := A0.c 0 rfl
  have k1 := A0.c 1 rfl
  have k2 := A0.c 2 rfl
  go_enter Try.func21, Try.ntmps21
  go_wp2_with fail
  refine (diskOk wb _ D (HH.out.below B0) HD.out).mono ?_
  rintro e w1 ⟨rfl, b1⟩
  have HA := hid (A0.below b1 A0.lt)
  have HR := hid (R0.below b1 R0.lt)
  have HB := hid (B0.trans (b1.mono B0.size))
  clear A0 R0 B0 b1 hwb ez k0 k1 k2
  have m0 := HR.out.c 0 rfl
  have m1 := HR.out.c 1 rfl
  have m2 := HR.out.c 2 rfl
  have f0 := HR.out.f 0
  have f1 := HR.out.f 1
  have f2 := HR.out.f 2
  by_cases hr : ¬ D.right = true
  · have HP : Hid (D.flushA x ep = (Dk.nil, 1)) := if_neg hr
    have hr' : D.right = false := by simpa using hr
    clear hr
    have E := hid (wrap_bad HB.out HR.out)
    go_wp2
    refine bodyPost_ret (results_row2 rfl _ _ (w.heap.size + 1) [.slice none 0 0, .slice none 0 0, .slice none 0 0] _ rfl E.out.2.2 Try.underlying31 rfl (by kernel_rfl)) rfl ?_
    rw [HP.out]
    exact ⟨_, rfl, E.out.1, E.out.2.1⟩
  replace hr := Classical.not_not.mp hr
  have HP : Hid (D.flushA x ep = D.flush x ep) := if_pos hr
  have HT := hid (Dk.of_right hr)
  have k0 := HA.out.c 0 rfl
  have k1 := HA.out.c 1 rfl
  have k2 := HA.out.c 2 rfl
  go_wp2_with fail
  refine (l3Copy w1 _ D (HH.out.below HB.out) HS.out.c1 HS.out.c2 HS.out.c3).mono ?_
  rintro e w2 ⟨v2, rfl, O2, b2⟩
  have HB2 := hid b2.size
  have HL := hid HR.out.lt
  have HR2 := hid (HR.out.below b2 HR.out.lt)
  have HB3 := hid (HB.out.trans (b2.mono HB.out.size))
  have HO2 := hid O2
  clear m0 m1 m2 f0 f1 f2 k0 k1 k2 O2 b2 HA HR
  go_wp2_with fail
  refine (l3Flush w2 w1.heap.size v2 D x ep HO2.out HB2.out HT.out.fit HD.out (fun j hj => ⟨(HT.out.p j hj).2.2.1, (HT.out.p j hj).2.2.2.1⟩)).mono ?_
  rintro e w3 ⟨v3, rfl, O3, b3⟩
  have HO3 := hid O3
  have HR3 := hid (HR2.out.below b3 HL.out)
  have HB4 := hid (HB3.out.trans (b3.mono HB.out.size))
  generalize D.flush x ep = P at *
  obtain ⟨u1, u2, u3, rfl, r1, r2, r3, _, _⟩ := O3
  obtain ⟨p1, q1, e1, _⟩ := r1.wr
  obtain ⟨p2, q2, e2, _⟩ := r2.wr
  obtain ⟨p3, q3, e3, _⟩ := r3.wr
  subst e1; subst e2; subst e3
  clear r1 r2 r3 b3 HR2 HO2
  obtain ⟨wx, hwx, ex, X0, Bx⟩ := one_new w3 [.slice p1 P.1.sec.length q1, .slice p2 P.1.ep.length q2, .slice p3 P.1.pe.length q3] 31
  have x0 := X0.c 0 rfl
  have x1 := X0.c 1 rfl
  have x2 := X0.c 2 rfl
  have HRx := hid (HR3.out.below Bx HR3.out.lt)
  have m0 := HRx.out.c 0 rfl
  have m1 := HRx.out.c 1 rfl
  have m2 := HRx.out.c 2 rfl
  have f0 := HRx.out.f 0
  have f1 := HRx.out.f 1
  have f2 := HRx.out.f 2
  have E := hid (wrap_end HL.out HB4.out HO3.out Bx HRx.out)
  clear ex X0 Bx HO3
  go_wp2
  refine bodyPost_ret (results_row2 rfl _ _ (w.heap.size + 1) [.slice p1 P.1.sec.length q1, .slice p2 P.1.ep.length q2, .slice p3 P.1.pe.length q3] _ rfl E.out.2.2 Try.underlying31 rfl (by kernel_rfl)) rfl ?_
  rw [HP.out]
  exact ⟨_, rfl, E.out.1, E.out.2.1⟩

end Go.Proofs.Ytppjohfafnbdlaj.Mem
