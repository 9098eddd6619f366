/-
  The walk of impl.Put: it answers as spec.Put does, in rows of its own. No condition but sizes.
-/
import Derived.Test.YtppjohfafnbdlajSpecPut
import Derived.Test.YtppjohfafnbdlajImplRefuse
import Derived.Test.YtppjohfafnbdlajImplOk2
import Derived.Test.YtppjohfafnbdlajImplCopy
import Derived.Test.YtppjohfafnbdlajImplState
namespace Go.Proofs.Ytppjohfafnbdlaj.Mem
open Go.RowKit
set_option linter.unusedVariables false

theorem put_refuse (D : Dk) (x ep s : Int) (t : ByteArray) : D.put x ep s t = if D.refuse x ep s [t] = 0 then (if (D.pe.length : Int) < 40 then (⟨D.sec, D.ep, D.pe ++ [⟨x, ep, s, t⟩]⟩, 0) else (D, 3)) else (D, D.refuse x ep s [t]) := by
  have e : (∀ j, j < [t].length → (([t].getD j ByteArray.empty).size : Int) ≤ 700) ↔ (t.size : Int) ≤ 700 := ⟨fun h => h 0 (by simp), fun h j hj => by
    have : j = 0 := by simp at hj; omega
    subst this
    exact h⟩
  unfold Dk.put Dk.refuse
  simp only [e]
  by_cases h1 : ((0 ≤ x ∧ x < 3) ∧ 0 ≤ s ∧ s < (D.sec.length : Int)) ∧ (t.size : Int) ≤ 700
  · rw [if_pos h1, if_pos h1]
    by_cases h2 : D.ep.getD x.toNat 0 = ep
    · simp only [if_pos h2]
      rfl
    · simp only [if_neg h2]
      rfl
  · rw [if_neg h1, if_neg h1]
    rfl

set_option maxRecDepth 100000 in
set_option maxHeartbeats 4000000 in
theorem implPut (w : World) (v : Value) (D : Dk) (x ep s : Int) (t : ByteArray) (h : DkR w v D) (hd : D.Held) (hs : D.Small 1048576) (ht : t.size ≤ maxLen) :
    Calls Try.prog 20 #[v, .int .i64 x, .int .i64 ep, .int .i64 s, .string t] w fun e w' => ∃ v', e = .returned (.tuple #[v', .int .i64 (D.putA x ep s t).2]) ∧ DkW w' w.heap.size v' (D.putA x ep s t).1 ∧ Below w.heap.size w w' := by
  have HH := hid h
  have HD := hid hd
  have HS := hid hs
  obtain ⟨a1, c1, a2, c2, a3, c3, rfl, _, _, _⟩ := h
  clear hd hs
  obtain ⟨wb, hwb, ez, A0, R0, B0⟩ := two_new w [.slice a1 D.sec.length c1, .slice a2 D.ep.length c2, .slice a3 D.pe.length c3] [.slice none 0 0, .slice none 0 0, .slice none 0 0] 31 31
  have k0 := A0.c 0 rfl
  have k1 := A0.c 1 rfl
  have k2 := A0.c 2 rfl
  go_enter Try.func20, Try.ntmps20
  go_wp2_with fail
  refine (implDiskOk wb _ D (HH.out.below B0) HD.out).mono ?_
  rintro e w1 ⟨rfl, b1⟩
  have HA := hid (A0.below b1 A0.lt)
  have HR := hid (R0.below b1 R0.lt)
  have HB := hid (B0.trans (b1.mono B0.size))
  clear A0 R0 B0 b1 hwb ez k0 k1 k2
  have m0 := HR.out.c 0 rfl
  have m1 := HR.out.c 1 rfl
  have m2 := HR.out.c 2 rfl
  have f0 := HR.out.f 0
  have f1 := HR.out.f 1
  have f2 := HR.out.f 2
  by_cases hr : ¬ D.right = true
  · have HP : Hid (D.putA x ep s t = (Dk.nil, 1)) := if_neg hr
    have hr' : D.right = false := by simpa using hr
    clear hr
    have E := hid (wrap_bad HB.out HR.out)
    go_wp2
    refine bodyPost_ret (results_row2 rfl _ _ (w.heap.size + 1) [.slice none 0 0, .slice none 0 0, .slice none 0 0] _ rfl E.out.2.2 Try.underlying31 rfl (by kernel_rfl)) rfl ?_
    rw [HP.out]
    exact ⟨_, rfl, E.out.1, E.out.2.1⟩
  replace hr := Classical.not_not.mp hr
  have HP : Hid (D.putA x ep s t = D.put x ep s t) := if_pos hr
  have HT := hid (Dk.of_right hr)
  have k0 := HA.out.c 0 rfl
  have k1 := HA.out.c 1 rfl
  have k2 := HA.out.c 2 rfl
  go_wp2_with fail
  refine (copyDisk w1 _ D (HH.out.below HB.out) HS.out.c1 HS.out.c2 HS.out.c3).mono ?_
  rintro e w2 ⟨v2, rfl, O2, b2⟩
  have HO2 := hid O2
  obtain ⟨u1, u2, u3, rfl, r1, r2, r3, _, _⟩ := O2
  obtain ⟨p1, q1, e1, _⟩ := r1.wr
  obtain ⟨p2, q2, e2, _⟩ := r2.wr
  obtain ⟨p3, q3, e3, _⟩ := r3.wr
  subst e1; subst e2; subst e3
  clear r1 r2 r3 m0 m1 m2 f0 f1 f2 k0 k1 k2
  obtain ⟨wn, hwn, en, N0, Bn⟩ := one_new w2 [.slice p1 D.sec.length q1, .slice p2 D.ep.length q2, .slice p3 D.pe.length q3] 31
  have I := hid (ISt.start HB.out HA.out HR.out HO2.out b2 N0 Bn)
  have HDn := hid (HH.out.below I.out.bel)
  clear HO2 b2 N0 Bn en HA HR HB
  obtain ⟨k0, k1, k2, m0, m1, m2, f0, f1, f2, n0, n1, n2, n3⟩ := I.out.cells
  obtain ⟨ws, hws, es, S0, Bs⟩ := one_new wn [.string t] 9
  have HBs := hid Bs
  have HSt : Hid (Strs ws (some ⟨wn.heap.size, 0, none⟩) [t]) := fun i hi => by
    have : i = 0 := by simp at hi; omega
    subst this
    exact ⟨_, _, rfl, S0.c 0 rfl⟩
  have IS := hid (I.out.below Bs)
  clear S0 Bs es
  go_wp2_with fail
  refine (refusal ws _ D x ep s (some ⟨wn.heap.size, 0, none⟩) 1 [t] (HDn.out.below HBs.out) HT.out.e3 HSt.out (by simp [maxLen])).mono ?_
  rintro e w3 ⟨rfl, b3⟩
  have HQ := hid (put_refuse D x ep s t)
  generalize D.refuse x ep s [t] = c at *
  have I3 := hid (IS.out.below b3)
  clear hws hwn IS HBs HSt HDn I b3 k0 k1 k2 m0 m1 m2 f0 f1 f2 n0 n1 n2 n3
  obtain ⟨k0, k1, k2, m0, m1, m2, f0, f1, f2, n0, n1, n2, n3⟩ := I3.out.cells
  by_cases g1 : ¬ c = 0
  · have HP1 := hid (HP.out.trans (HQ.out.trans (if_neg g1)))
    have E := hid I3.out.done
    go_wp2
    refine bodyPost_ret (results_row2 rfl _ _ (w.heap.size + 1) [.slice p1 D.sec.length q1, .slice p2 D.ep.length q2, .slice p3 D.pe.length q3] _ rfl E.out.2.2 Try.underlying31 rfl (by kernel_rfl)) rfl ?_
    rw [HP1.out]
    exact ⟨_, rfl, E.out.1, E.out.2.1⟩
  replace g1 := Classical.not_not.mp g1
  have HP1 := hid (HP.out.trans (HQ.out.trans (if_pos g1)))
  subst g1
  by_cases g2 : (D.pe.length : Int) = 40
  · have HP2 := hid (HP1.out.trans (if_neg (by omega)))
    have hlen : D.pe.length = 40 := by omega
    have E' := I3.out.done
    rw [hlen] at k2 n2 E'
    have E := hid E'
    clear g2 hlen E'
    go_wp2
    refine bodyPost_ret (results_row2 rfl _ _ (w.heap.size + 1) [.slice p1 D.sec.length q1, .slice p2 D.ep.length q2, .slice p3 40 q3] _ rfl E.out.2.2 Try.underlying31 rfl (by kernel_rfl)) rfl ?_
    rw [HP2.out]
    exact ⟨_, rfl, E.out.1, E.out.2.1⟩
  have hp40 := HT.out.p40
  have HP2 := hid (HP1.out.trans (if_pos (by omega)))
  have HR3 : Hid (∀ o, RowO (w3.alloc o) w1.heap.size 51 4 (.slice p3 D.pe.length q3) D.pe.length (wCells D.pe)) := fun o => by
    obtain ⟨_, _, _, ev, _, _, r3, _, _⟩ := I3.out.o
    cases ev
    exact r3.below ((Below.refl _ _).alloc (Nat.le_refl _) o)
  have hpl : D.pe.length + 1 ≤ 1048576 := by omega
  have hne1 : ¬ w2.heap.size = w.heap.size + 1 := by have := I3.out.lb; have := I3.out.ln; omega
  have hne2 : ¬ w.heap.size + 1 = w2.heap.size := by omega
  have HBa : Hid (∀ o, w1.heap.size ≤ (w3.alloc o).heap.size) := fun o => by have := lt_alloc w3 o; have := I3.out.ln; have := I3.out.rn.lt; omega
  go_wp2_with (at_builtin; refine wpList_app 29 51 Wt.none.val 4 40 Try.underlying29 infoW rfl (by decide) (by decide) _ rfl (.tmp 37) (.tmp 43) rfl w1.heap.size _ D.pe.length (wCells D.pe) rfl (HR3.out _) ⟨w3.heap.size, 0, none⟩ 1 1 (Wt.mk x ep s t).cells rfl rfl (sl_lit w3 (Wt.mk x ep s t).cells 51 4 rfl) (by intro u hu; exact wCells_one [Wt.mk x ep s t] u (by simpa [wCells] using hu)) hpl (HBa.out _) ?_; intro v3' w4 r3' kk hi; obtain ⟨y3, d3, e3, _⟩ := r3'.wr; subst e3; have HN0 := hid (show ¬ rb (.slice p3 D.pe.length q3) = some w.heap.size from fun e => by have := (I3.out.o.lt ⟨_, _, _, rfl, Or.inr (Or.inr e)⟩).1; have := I3.out.lb; omega); have HN1 := hid (show ¬ rb (.slice p3 D.pe.length q3) = some (w.heap.size + 1) from fun e => by have := (I3.out.o.lt ⟨_, _, _, rfl, Or.inr (Or.inr e)⟩).1; have := I3.out.lb; omega); have HN2 := hid (show ¬ rb (.slice p3 D.pe.length q3) = some w2.heap.size from fun e => I3.out.far _ ⟨_, _, _, rfl, Or.inr (Or.inr e)⟩ rfl); have RN := ((I3.out.rn.alloc _).kept kk HN2.out); have RR := ((I3.out.rr.alloc _).kept kk HN1.out); have HI4 := hid (I3.out.app ((Below.refl _ _).alloc (Nat.le_refl _) _) kk r3' hi); clear k0 k1 k2 m0 m1 m2 f0 f1 f2 n0 n1 n2 n3; have n0 := RN.c 0 rfl; have n1 := RN.c 1 rfl; have n2 := RN.c 2 rfl; have n3 := RN.f 2; have m0 := RR.c 0 rfl; have m1 := RR.c 1 rfl; have m2 := RR.c 2 rfl; have f0 := RR.f 0; have f1 := RR.f 1; have f2 := RR.f 2; clear r3' kk hi RN RR)
  have E := HI4.out.done
  refine bodyPost_ret (results_row2 rfl _ _ (w.heap.size + 1) [.slice p1 D.sec.length q1, .slice p2 D.ep.length q2, .slice y3 (D.pe.length + 1) d3] _ rfl E.2.2 Try.underlying31 rfl (by kernel_rfl)) rfl ?_
  rw [HP2.out]
  exact ⟨_, rfl, E.1, E.2.1⟩

end Go.Proofs.Ytppjohfafnbdlaj.Mem
