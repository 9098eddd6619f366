/-
  The walk of impl.Land: it answers as spec.Land does, in rows of its own. No condition but sizes.
-/
import Derived.Test.YtppjohfafnbdlakSpecLand
import Derived.Test.YtppjohfafnbdlakImplLeft
import Derived.Test.YtppjohfafnbdlakLeftMore
import Derived.Test.YtppjohfafnbdlakImplOk2
import Derived.Test.YtppjohfafnbdlakImplCopy
import Derived.Test.YtppjohfafnbdlakImplState
namespace Go.Proofs.Ytppjohfafnbdlak.Mem
open Go.RowKit
set_option linter.unusedVariables false

theorem wts_of {w : World} {a1 a2 a3 : Option Addr} {n1 n2 n3 c1 c2 c3 : Nat} {D : Dk} (h : DkR w (.agg #[.slice a1 n1 c1, .slice a2 n2 c2, .slice a3 n3 c3]) D) : Wts w a3 D.pe := by
  obtain ⟨_, _, _, _, _, _, e, _, _, s3⟩ := h
  cases e
  exact s3

theorem ISt.secCell {w : World} {a0 a1 a2 : Value} {B nn : Nat} {p0 : Value} {p1 p2 : Value} {E : Dk} {wk : World} (h : ISt w a0 a1 a2 B nn p0 p1 p2 E wk) {i : Nat} (hi : i < E.sec.length) :
    ∃ g c, p0 = .slice (some ⟨g, 0, none⟩) E.sec.length (c + 1) ∧ (∃ u, wk.cell? ⟨g, i, none⟩ = some u) ∧ wk.frozen? ⟨g, i, none⟩ = false ∧ B ≤ g ∧ g ≠ nn ∧ g < wk.heap.size := by
  have ho := h.o
  obtain ⟨_, _, _, ev, r1, _⟩ := ho
  cases ev
  obtain ⟨g, c, e⟩ := r1.form (by omega)
  subst e
  obtain ⟨aa, cp, e1, hw⟩ := r1.wr
  cases e1
  obtain ⟨b, off, e2, _, hc2, hf2⟩ := hw i (by omega)
  cases e2
  rw [Nat.zero_add] at hc2 hf2
  have hl := h.o.lt (b := g) ⟨_, _, _, rfl, Or.inl rfl⟩
  exact ⟨g, c, rfl, ⟨_, hc2⟩, hf2, hl.1, h.far g ⟨_, _, _, rfl, Or.inl rfl⟩, hl.2⟩

/-- The queues stay while a sector is stored. -/
theorem QM.other {w : World} {B b n : Nat} {Q : Int → Int → List Nat} {D : DataW Value} {V : Int → Int → Value} (q : QM w B b n Q D V) (g i : Nat) (v : Value) (hg : g < b) : QM (w.setCell ⟨g, i, none⟩ v) B b n Q D V :=
  q.kept (kept_set w g i v) (by omega) (fun h s g' hk hg' e => by have := ((q.row h s hk).lt hg').1; have := q.lt; omega)

set_option maxRecDepth 100000 in
set_option maxHeartbeats 4000000 in
theorem implLand (w : World) (v : Value) (D : Dk) (i : Int) (h : DkR w v D) (hd : D.Held) (hs : D.Small 1048576) :
    Calls Try.prog 16 #[v, .int .i64 i] w fun e w' => ∃ v', e = .returned (.tuple #[v', .bool (D.landA i).2]) ∧ DkW w' w.heap.size v' (D.landA i).1 ∧ Below w.heap.size w w' := by
  have HH := hid h
  have HD := hid hd
  have HS := hid hs
  obtain ⟨a1, c1, a2, c2, a3, c3, rfl, _, _, _⟩ := h
  clear hd hs
  obtain ⟨wb, hwb, ez, A0, R0, B0⟩ := two_new w [.slice a1 D.sec.length c1, .slice a2 D.ep.length c2, .slice a3 D.pe.length c3] [.slice none 0 0, .slice none 0 0, .slice none 0 0] 30 30
  have k0 := A0.c 0 rfl
  have k1 := A0.c 1 rfl
  have k2 := A0.c 2 rfl
  go_enter Try.func16, Try.ntmps16
  go_wp2_with fail
  refine (implDiskOk wb _ D (HH.out.below B0) HD.out).mono ?_
  rintro e w1 ⟨rfl, b1⟩
  have HA := hid (A0.below b1 A0.lt)
  have HR := hid (R0.below b1 R0.lt)
  have HB := hid (B0.trans (b1.mono B0.size))
  clear A0 R0 B0 b1 hwb ez k0 k1 k2
  have m0 := HR.out.c 0 rfl
  have m1 := HR.out.c 1 rfl
  have m2 := HR.out.c 2 rfl
  have f0 := HR.out.f 0
  have f1 := HR.out.f 1
  have f2 := HR.out.f 2
  by_cases hr : ¬ D.right = true
  · have HP : Hid (D.landA i = (Dk.nil, false)) := if_neg hr
    have hr' : D.right = false := by simpa using hr
    clear hr
    have E := hid (wrap_bad HB.out HR.out)
    go_wp2
    refine bodyPost_ret (results_row2 rfl _ _ (w.heap.size + 1) [.slice none 0 0, .slice none 0 0, .slice none 0 0] _ rfl E.out.2.2 Try.underlying30 rfl (by kernel_rfl)) rfl ?_
    rw [HP.out]
    exact ⟨_, rfl, E.out.1, E.out.2.1⟩
  replace hr := Classical.not_not.mp hr
  have HP : Hid (D.landA i = D.land i) := if_pos hr
  have HT := hid (Dk.of_right hr)
  have k0 := HA.out.c 0 rfl
  have k1 := HA.out.c 1 rfl
  have k2 := HA.out.c 2 rfl
  go_wp2_with fail
  refine (copyDisk w1 _ D (HH.out.below HB.out) HS.out.c1 HS.out.c2 HS.out.c3).mono ?_
  rintro e w2 ⟨v2, rfl, O2, b2⟩
  have HO2 := hid O2
  obtain ⟨u1, u2, u3, rfl, r1, r2, r3, _, _⟩ := O2
  obtain ⟨p1, q1, e1, _⟩ := r1.wr
  obtain ⟨p2, q2, e2, _⟩ := r2.wr
  obtain ⟨p3, q3, e3, _⟩ := r3.wr
  subst e1; subst e2; subst e3
  clear r1 r2 r3 m0 m1 m2 f0 f1 f2 k0 k1 k2
  obtain ⟨wn, hwn, en, N0, Bn⟩ := one_new w2 [.slice p1 D.sec.length q1, .slice p2 D.ep.length q2, .slice p3 D.pe.length q3] 30
  have I := hid (ISt.start HB.out HA.out HR.out HO2.out b2 N0 Bn)
  have HDn := hid (HH.out.below I.out.bel)
  clear HO2 b2 N0 Bn en HA HR HB
  obtain ⟨k0, k1, k2, m0, m1, m2, f0, f1, f2, n0, n1, n2, n3⟩ := I.out.cells
  have hd3 : (D.pe.length : Int) ≤ 40 := by have := HT.out.p40; omega
  by_cases g1 : i < 0
  · have HP1 := hid (HP.out.trans (if_neg (fun q => by have := q.1; omega)))
    have E := hid I.out.done
    go_wp2
    refine bodyPost_ret (results_row2 rfl _ _ (w.heap.size + 1) [.slice p1 D.sec.length q1, .slice p2 D.ep.length q2, .slice p3 D.pe.length q3] _ rfl E.out.2.2 Try.underlying30 rfl (by kernel_rfl)) rfl ?_
    rw [HP1.out]
    exact ⟨_, rfl, E.out.1, E.out.2.1⟩
  by_cases g2 : (D.pe.length : Int) ≤ i
  · have HP1 := hid (HP.out.trans (if_neg (fun q => by have := q.2.1; omega)))
    have E := hid I.out.done
    go_wp2
    refine bodyPost_ret (results_row2 rfl _ _ (w.heap.size + 1) [.slice p1 D.sec.length q1, .slice p2 D.ep.length q2, .slice p3 D.pe.length q3] _ rfl E.out.2.2 Try.underlying30 rfl (by kernel_rfl)) rfl ?_
    rw [HP1.out]
    exact ⟨_, rfl, E.out.1, E.out.2.1⟩
  obtain ⟨m, rfl⟩ : ∃ m : Nat, i = (m : Int) := Int.eq_ofNat_of_zero_le (by omega)
  have hml : m < D.pe.length := by omega
  have hm0 : (0 : Int) ≤ (m : Int) := Int.natCast_nonneg m
  obtain ⟨b3, o3, rfl, x0, x1, x2, x3⟩ := Wts.at_ (wts_of HDn.out) m hml
  have hok := HT.out.okK m hml
  have hpm := HT.out.p m hml
  have hfirst := hid (first_q D.pe m hml)
  have hleft := hid (left_erase D.pe m 0 hml)
  have hmem := hid (mem_qAt hml)
  have HLd := hid (show D.land (m : Int) = if 0 ≤ (m : Int) ∧ (m : Int) < (D.pe.length : Int) ∧ ∀ j, j < (m : Int).toNat → ¬ ((D.pe.getD j Wt.none).host = (D.pe.getD (m : Int).toNat Wt.none).host ∧ (D.pe.getD j Wt.none).sector = (D.pe.getD (m : Int).toNat Wt.none).sector) then (⟨D.sec.set (D.pe.getD (m : Int).toNat Wt.none).sector.toNat (D.pe.getD (m : Int).toNat Wt.none).text, D.ep, D.pe.eraseIdx (m : Int).toNat⟩, true) else (D, false) from rfl)
  simp only [Int.toNat_natCast] at HLd
  generalize D.pe.getD m Wt.none = u at *
  obtain ⟨xh, xe, xs, xt⟩ := u
  simp only [] at x0 x1 x2 x3 hok hpm hfirst hleft hmem HLd
  obtain ⟨sn, rfl⟩ : ∃ n : Nat, xs = (n : Int) := Int.eq_ofNat_of_zero_le hpm.2.2.1
  have hsl : (sn : Int) < (D.sec.length : Int) := hpm.2.2.2.1
  have hs0 : (0 : Int) ≤ (sn : Int) := Int.natCast_nonneg sn
  have HK := hid hok
  clear hok hpm
  obtain ⟨wk, hwk, ek, K0, K1, Bk⟩ := two_new wn [.int .i64 xh, .int .i64 xe, .int .i64 (sn : Int), .string xt] [.int .i64 xh, .int .i64 (sn : Int)] 72 66
  have IK := hid (I.out.below Bk)
  have HDk := hid (HDn.out.below Bk)
  have HK0 := hid K0
  have HK1 := hid K1
  have kk2 := IK.out.ra.c 2 rfl
  clear K0 K1 Bk ek
  go_wp2_with fail
  refine (queuesOf wk (some ⟨b3, o3, none⟩) c3 D.pe (wts_of HDk.out) HT.out.p40 HT.out.okK).mono ?_
  rintro e w4 ⟨rfl, ⟨nq, M, V, hnq, q⟩, b4⟩
  have I4 := hid (IK.out.below b4)
  have HB4 := hid b4
  have hlk : (Instr.lookup 63 (.map (some wk.heap.size)) (.agg #[.int .i64 xh, .int .i64 (sn : Int)]) false).run Try.prog w4 = .ok (V xh sn) w4 := q.look HK.out
  have hrow := q.row xh sn HK.out
  obtain ⟨Z, hZ⟩ : ∃ Z, qAt D.pe D.pe.length xh (sn : Int) = Z := ⟨_, rfl⟩
  rw [hZ] at hrow hfirst hleft hmem
  have hZp : 0 < Z.length := List.length_pos_iff.2 (fun e => by have := hmem.out; rw [e] at this; simp at this)
  obtain ⟨g, c, hv⟩ := hrow.form hZp
  have hc0 := q_cell hrow hv 0 hZp
  rw [hv] at hlk
  have HQ := hid q
  have HZ := hid hZ
  have HK0' := hid (HK0.out.below b4 HK0.out.lt)
  have HK1' := hid (HK1.out.below b4 HK1.out.lt)
  have y2 := HK0'.out.c 2 rfl
  have y3 := HK0'.out.c 3 rfl
  have z0 := HK1'.out.c 0 rfl
  have z1 := HK1'.out.c 1 rfl
  clear q hrow hv hZ b4 hwk hwn kk2 x0 x1 x2 x3 k0 k1 k2 m0 m1 m2 f0 f1 f2 n0 n1 n2 n3
  obtain ⟨k0, k1, k2, m0, m1, m2, f0, f1, f2, n0, n1, n2, n3⟩ := I4.out.cells
  generalize hz0 : Z.getD 0 0 = zz at hc0 hfirst hleft
  by_cases g3 : ¬ zz = m
  · have HP1 := hid (HP.out.trans (HLd.out.trans (if_neg (fun q => g3 (hfirst.out.2 q.2.2)))))
    have E := hid I4.out.done
    have g3' : ¬ (zz : Int) = (m : Int) := fun e => g3 (by omega)
    clear g3
    go_wp2
    refine bodyPost_ret (results_row2 rfl _ _ (w.heap.size + 1) [.slice p1 D.sec.length q1, .slice p2 D.ep.length q2, .slice p3 D.pe.length q3] _ rfl E.out.2.2 Try.underlying30 rfl (by kernel_rfl)) rfl ?_
    rw [HP1.out]
    exact ⟨_, rfl, E.out.1, E.out.2.1⟩
  replace g3 := Classical.not_not.mp g3
  have HP1 := hid (HP.out.trans (HLd.out.trans (if_pos ⟨hm0, by omega, hfirst.out.1 g3⟩)))
  have HLW := hid (hleft.out hZp g3)
  clear hleft hfirst hmem
  rw [g3] at hc0
  clear g3
  go_wp2_with fail
  refine (take w4 (wk.heap.size + 1) wk.heap.size nq _ M V HQ.out xh sn HK.out 0 (by rw [HZ.out]; exact hZp) (by omega) (by omega)).mono ?_
  rintro e w5 ⟨rfl, ⟨M5, V5, q5⟩, k5⟩
  rw [HZ.out] at q5
  have hkw : wk.heap.size < w4.heap.size := HQ.out.own.lt
  have HB5 := hid (HB4.out.trans (k5.below (by omega) (fun gg hg e => by rcases e with e | e <;> omega)))
  have I5 := hid (IK.out.below HB5.out)
  have HK0'' := hid (HK0.out.below HB5.out HK0.out.lt)
  have HQ5 := hid q5
  clear q5 k5 hc0 hlk z0 z1 y2 y3 k0 k1 k2 m0 m1 m2 f0 f1 f2 n0 n1 n2 n3 hz0
  obtain ⟨gg, cc, ef, ⟨us, hcu⟩, hfu, hgB, hgn, hgl⟩ := IK.out.secCell (i := sn) (by omega)
  cases ef
  have hcu5 := (HB5.out.cell (p := ⟨gg, sn, none⟩) hgl).trans hcu
  have hfu5 := (HB5.out.frozen (p := ⟨gg, sn, none⟩) hgl).trans hfu
  have I6 := hid (I5.out.setSec (i := sn) (by omega) xt)
  have HQ6 := hid (HQ5.out.other gg sn (.string xt) hgl)
  obtain ⟨w6, hw6⟩ : ∃ w6, w5.setCell ⟨gg, sn, none⟩ (.string xt) = w6 := ⟨_, rfl⟩
  rw [hw6] at I6 HQ6
  have y2 := HK0''.out.c 2 rfl
  have y3 := HK0''.out.c 3 rfl
  have n0 := I5.out.rn.c 0 rfl
  have k2 := I6.out.ra.c 2 rfl
  have HD6 := hid (HH.out.below I6.out.bel)
  clear hcu hfu
  go_wp2_with fail
  refine (left w6 (wk.heap.size + 1) wk.heap.size _ _ M5 V5 HQ6.out (some ⟨b3, o3, none⟩) c3 D.pe (wts_of HD6.out) HT.out.p40 HT.out.okK (by rw [← HZ.out]; exact qOk_erase D.pe xh sn 0)).mono ?_
  rintro e w7 ⟨v7, rfl, r7, b7⟩
  rw [HLW.out] at r7
  obtain ⟨p7, c7, e7, _⟩ := r7.wr
  subst e7
  have I8 := hid (I6.out.setPend b7 r7)
  have I7 := hid (I6.out.below b7)
  obtain ⟨w8, hw8⟩ : ∃ w8, w7.setCell ⟨w2.heap.size, 2, none⟩ (.slice p7 (D.pe.eraseIdx m).length c7) = w8 := ⟨_, rfl⟩
  rw [hw8] at I8
  have E := hid I8.out.done
  clear r7 b7 hw6 hcu5 hfu5 y2 y3 n0 k2
  have n2 := I7.out.rn.c 2 rfl
  have n3 := I7.out.rn.f 2
  obtain ⟨k0, k1, k2, m0, m1, m2, f0, f1, f2, j0, j1, j2, j3⟩ := I8.out.cells
  go_wp2
  refine bodyPost_ret (results_row2 rfl _ _ (w.heap.size + 1) [.slice (some ⟨gg, 0, none⟩) D.sec.length (cc + 1), .slice p2 D.ep.length q2, .slice p7 (D.pe.eraseIdx m).length c7] _ rfl E.out.2.2 Try.underlying30 rfl (by kernel_rfl)) rfl ?_
  rw [HP1.out]
  exact ⟨_, rfl, E.out.1, E.out.2.1⟩

end Go.Proofs.Ytppjohfafnbdlak.Mem
