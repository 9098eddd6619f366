/-
  The walk of impl.Fence: it answers as spec.Fence does, in rows of its own. No condition but sizes.
-/
import Derived.Test.YtppjohfafnbdlakSpecFence
import Derived.Test.YtppjohfafnbdlakImplLeft
import Derived.Test.YtppjohfafnbdlakLeftMore
import Derived.Test.YtppjohfafnbdlakImplOk2
import Derived.Test.YtppjohfafnbdlakImplCopy
import Derived.Test.YtppjohfafnbdlakImplState
namespace Go.Proofs.Ytppjohfafnbdlak.Mem
open Go.RowKit
set_option linter.unusedVariables false

theorem QM.congr {w : World} {B b n : Nat} {Q Q' : Int → Int → List Nat} {D : DataW Value} {V : Int → Int → Value} (q : QM w B b n Q D V) (e : ∀ h s, OkK h s → Q h s = Q' h s) : QM w B b n Q' D V :=
  ⟨q.own, q.lt, fun h s hk => by rw [← e h s hk]; exact q.has h s hk, q.at_, fun h s hk => by rw [← e h s hk]; exact q.row h s hk, q.apart, q.only⟩

theorem wts_of' {w : World} {a1 a2 a3 : Option Addr} {n1 n2 n3 c1 c2 c3 : Nat} {D : Dk} (h : DkR w (.agg #[.slice a1 n1 c1, .slice a2 n2 c2, .slice a3 n3 c3]) D) : Wts w a3 D.pe ∧ Ints w a2 D.ep := by
  obtain ⟨_, _, _, _, _, _, e, _, s2, s3⟩ := h
  cases e
  exact ⟨s3, s2⟩

theorem ISt.epCell {w : World} {a0 a1 a2 : Value} {B nn : Nat} {p0 : Value} {p1 p2 : Value} {E : Dk} {wk : World} (h : ISt w a0 a1 a2 B nn p0 p1 p2 E wk) {i : Nat} (hi : i < E.ep.length) :
    ∃ g c, p1 = .slice (some ⟨g, 0, none⟩) E.ep.length (c + 1) ∧ wk.cell? ⟨g, i, none⟩ = some (.int .i64 (E.ep.getD i 0)) ∧ wk.frozen? ⟨g, i, none⟩ = false := by
  have ho := h.o
  obtain ⟨_, _, _, ev, _, r2, _⟩ := ho
  cases ev
  obtain ⟨g, c, e⟩ := r2.form (by omega)
  subst e
  obtain ⟨aa, cp, e1, hw⟩ := r2.wr
  cases e1
  obtain ⟨b, off, e2, _, hc2, hf2⟩ := hw i (by omega)
  cases e2
  rw [Nat.zero_add] at hc2 hf2
  exact ⟨g, c, rfl, hc2.trans (congrArg some (iCells_at _ i hi)), hf2⟩

set_option maxRecDepth 100000 in
set_option maxHeartbeats 4000000 in
theorem implFence (w : World) (v : Value) (D : Dk) (x : Int) (h : DkR w v D) (hd : D.Held) (hs : D.Small 1048576) :
    Calls Try.prog 20 #[v, .int .i64 x] w fun e w' => ∃ v', e = .returned (.tuple #[v', .bool (D.fenceA x).2]) ∧ DkW w' w.heap.size v' (D.fenceA x).1 ∧ Below w.heap.size w w' := by
  have HH := hid h
  have HD := hid hd
  have HS := hid hs
  obtain ⟨a1, c1, a2, c2, a3, c3, rfl, _, _, _⟩ := h
  clear hd hs
  obtain ⟨wb, hwb, ez, A0, R0, B0⟩ := two_new w [.slice a1 D.sec.length c1, .slice a2 D.ep.length c2, .slice a3 D.pe.length c3] [.slice none 0 0, .slice none 0 0, .slice none 0 0] 30 30
  have k0 := A0.c 0 rfl
  have k1 := A0.c 1 rfl
  have k2 := A0.c 2 rfl
  go_enter Try.func20, Try.ntmps20
  go_wp2_with fail
  refine (implDiskOk wb _ D (HH.out.below B0) HD.out).mono ?_
  rintro e w1 ⟨rfl, b1⟩
  have HA := hid (A0.below b1 A0.lt)
  have HR := hid (R0.below b1 R0.lt)
  have HB := hid (B0.trans (b1.mono B0.size))
  clear A0 R0 B0 b1 hwb ez k0 k1 k2
  have m0 := HR.out.c 0 rfl
  have m1 := HR.out.c 1 rfl
  have m2 := HR.out.c 2 rfl
  have f0 := HR.out.f 0
  have f1 := HR.out.f 1
  have f2 := HR.out.f 2
  by_cases hr : ¬ D.right = true
  · have HP : Hid (D.fenceA x = (Dk.nil, false)) := if_neg hr
    have hr' : D.right = false := by simpa using hr
    clear hr
    have E := hid (wrap_bad HB.out HR.out)
    go_wp2
    refine bodyPost_ret (results_row2 rfl _ _ (w.heap.size + 1) [.slice none 0 0, .slice none 0 0, .slice none 0 0] _ rfl E.out.2.2 Try.underlying30 rfl (by kernel_rfl)) rfl ?_
    rw [HP.out]
    exact ⟨_, rfl, E.out.1, E.out.2.1⟩
  replace hr := Classical.not_not.mp hr
  have HP : Hid (D.fenceA x = D.fence x) := if_pos hr
  have HT := hid (Dk.of_right hr)
  have k0 := HA.out.c 0 rfl
  have k1 := HA.out.c 1 rfl
  have k2 := HA.out.c 2 rfl
  go_wp2_with fail
  refine (copyDisk w1 _ D (HH.out.below HB.out) HS.out.c1 HS.out.c2 HS.out.c3).mono ?_
  rintro e w2 ⟨v2, rfl, O2, b2⟩
  have HO2 := hid O2
  obtain ⟨u1, u2, u3, rfl, r1, r2, r3, _, _⟩ := O2
  obtain ⟨p1, q1, e1, _⟩ := r1.wr
  obtain ⟨p2, q2, e2, _⟩ := r2.wr
  obtain ⟨p3, q3, e3, _⟩ := r3.wr
  subst e1; subst e2; subst e3
  clear r1 r2 r3 m0 m1 m2 f0 f1 f2 k0 k1 k2
  obtain ⟨wn, hwn, en, N0, Bn⟩ := one_new w2 [.slice p1 D.sec.length q1, .slice p2 D.ep.length q2, .slice p3 D.pe.length q3] 30
  have I := hid (ISt.start HB.out HA.out HR.out HO2.out b2 N0 Bn)
  have HDn := hid (HH.out.below I.out.bel)
  clear HO2 b2 N0 Bn en HA HR HB
  obtain ⟨k0, k1, k2, m0, m1, m2, f0, f1, f2, n0, n1, n2, n3⟩ := I.out.cells
  have HFd := hid (show D.fence x = if (0 ≤ x ∧ x < 3) ∧ D.ep.getD x.toNat 0 < 100000 then (⟨D.sec, D.ep.set x.toNat (D.ep.getD x.toNat 0 + 1), others D.pe x⟩, true) else (D, false) from rfl)
  go_wp2_with fail
  refine (isHost x wn).mono ?_
  rintro e wm ⟨rfl, hw⟩
  subst hw
  by_cases g1 : ¬ (0 ≤ x ∧ x < 3)
  · have g1' := decide_eq_false g1
    have HP1 := hid (HP.out.trans (HFd.out.trans (if_neg (fun q => g1 q.1))))
    have E := hid I.out.done
    clear g1
    go_wp2
    refine bodyPost_ret (results_row2 rfl _ _ (w.heap.size + 1) [.slice p1 D.sec.length q1, .slice p2 D.ep.length q2, .slice p3 D.pe.length q3] _ rfl E.out.2.2 Try.underlying30 rfl (by kernel_rfl)) rfl ?_
    rw [HP1.out]
    exact ⟨_, rfl, E.out.1, E.out.2.1⟩
  replace g1 := Classical.not_not.mp g1
  have g1' := decide_eq_true g1
  have HG1 := hid g1
  obtain ⟨n, rfl⟩ : ∃ n : Nat, x = (n : Int) := Int.eq_ofNat_of_zero_le g1.1
  have hn3 : (n : Int) < 3 := g1.2
  have hn0 : (0 : Int) ≤ (n : Int) := Int.natCast_nonneg n
  clear g1
  simp only [Int.toNat_natCast] at HFd
  have hnl : n < D.ep.length := by have := HT.out.e3; omega
  have hnI : (n : Int) < (D.ep.length : Int) := by omega
  have hye := HT.out.e n hnl
  obtain ⟨b2, o2, rfl, hc⟩ := (wts_of' HDn.out).2 n hnl
  replace hc : wm.cell? ⟨b2, o2 + n, none⟩ = some (.int .i64 (D.ep.getD n 0)) := hc
  obtain ⟨gg, cc, ef, hcu, hfu⟩ := I.out.epCell (i := n) hnl
  cases ef
  generalize hy : D.ep.getD n 0 = y at *
  have HY := hid hy
  clear hy
  by_cases g2 : y = 100000
  · have HP1 := hid (HP.out.trans (HFd.out.trans (if_neg (fun q => by have := q.2; omega))))
    have E := hid I.out.done
    subst g2
    clear hcu hfu
    go_wp2
    refine bodyPost_ret (results_row2 rfl _ _ (w.heap.size + 1) [.slice p1 D.sec.length q1, .slice (some ⟨gg, 0, none⟩) D.ep.length (cc + 1), .slice p3 D.pe.length q3] _ rfl E.out.2.2 Try.underlying30 rfl (by kernel_rfl)) rfl ?_
    rw [HP1.out]
    exact ⟨_, rfl, E.out.1, E.out.2.1⟩
  have HP1 := hid (HP.out.trans (HFd.out.trans (if_pos ⟨HG1.out, by omega⟩)))
  have I5 := hid (I.out.setEp (i := n) hnl (y + 1))
  obtain ⟨w5, hw5⟩ : ∃ w5, wm.setCell ⟨gg, n, none⟩ (.int .i64 (y + 1)) = w5 := ⟨_, rfl⟩
  rw [hw5] at I5
  have HD5 := hid (HH.out.below I5.out.bel)
  have l2 := I5.out.ra.c 2 rfl
  have l0 := I5.out.ra.c 0 rfl
  have hy1 : y ≤ 100000 := by omega
  have hy0 : 1 ≤ y := by omega
  go_wp2_with fail
  refine (queuesOf w5 a3 c3 D.pe (wts_of' HD5.out).1 HT.out.p40 HT.out.okK).mono ?_
  rintro e w6 ⟨rfl, ⟨nq, M, V, hnq, q⟩, b6⟩
  have HQ6 : Hid (∃ M V, QM w6 (w5.heap.size + 1) w5.heap.size nq (qBut (qAt D.pe D.pe.length) n 0) M V) := ⟨M, V, q.congr (fun h s hk => (if_neg (fun z => by have := z.2; have := hk.2.1; omega)).symm)⟩
  have HB6 := hid b6
  have hq6 := hid q.own.lt
  have I6 := hid (I5.out.below b6)
  have hsl : (D.sec.length : Int) ≤ 40 := by have := HT.out.n2; omega
  clear q b6 hw5 hwn hcu hfu hc l0 l2 k0 k1 k2 m0 m1 m2 f0 f1 f2 n0 n1 n2 n3 I
  obtain ⟨k0, k1, k2, m0, m1, m2, f0, f1, f2, n0, n1, n2, n3⟩ := I6.out.cells
  go_wp2
  clear k0 k1 k2 m0 m1 m2 f0 f1 f2 n0 n1 n2 n3
  go_loopw [40] (fun i wr => ∃ k : Nat, k ≤ D.sec.length ∧ i = .int .i64 (k : Int) ∧ Hid (∃ M V, QM wr (w5.heap.size + 1) w5.heap.size nq (qBut (qAt D.pe D.pe.length) n k) M V) ∧ Hid (Below w5.heap.size w5 wr)) (fun i _ => D.sec.length - (intOf i).toNat)
  case atStart => exact ⟨0, Nat.zero_le _, rfl, HQ6.out, HB6.out⟩
  case round =>
    obtain ⟨k, hk, rfl, HQr, HBr⟩ := hrel
    by_cases hlt : k < D.sec.length
    · obtain ⟨Mr, Vr, qr⟩ := HQr.out
      have hok : OkK (n : Int) (k : Int) := ⟨⟨hn0, hn3⟩, Int.natCast_nonneg k, by omega⟩
      obtain ⟨w7, hr7, q7, k7⟩ := qr.drop (w2 := wr) hok (Kept.refl _ _) 0
      have hd : ∀ ty, (Builtin.delete_ #[63, 66] ty #[.map (some w5.heap.size), .agg #[.int .i64 (n : Int), .int .i64 (k : Int)]]).run Try.prog wr = .ok (.tuple #[]) w7 := fun ty => hr7
      have HQ7 := hid (q7.congr (fun h s hk' => (qBut_succ (qAt D.pe D.pe.length) n k h s hk').symm))
      have HK7 := hid k7
      clear qr q7 k7 hr7 hok
      go_wp2
      exact ⟨⟨k + 1, by omega, by go_num, ⟨_, _, HQ7.out⟩, HBr.out.trans (HK7.out.below HBr.out.size (fun g hg e => by omega))⟩, by simp [intOf]; omega⟩
    obtain rfl : k = D.sec.length := by omega
    have I7 := hid (I5.out.below HBr.out)
    have HD7 := hid (HH.out.below I7.out.bel)
    have k2 := I7.out.ra.c 2 rfl
    obtain ⟨Mr, Vr, qr⟩ := HQr.out
    have HQR := hid qr
    clear qr
    go_wp2_with fail
    refine (left wr (w5.heap.size + 1) w5.heap.size nq _ Mr Vr HQR.out a3 c3 D.pe (wts_of' HD7.out).1 HT.out.p40 HT.out.okK (qOk_but D.pe n D.sec.length)).mono ?_
    rintro e w8 ⟨v8, rfl, r8, b8⟩
    rw [left_but D.pe n D.sec.length (fun j hj => (HT.out.p j hj).2.2.2.1)] at r8
    obtain ⟨p8, c8, e8, _⟩ := r8.wr
    subst e8
    have I9 := hid (I7.out.setPend b8 r8)
    have I8 := hid (I7.out.below b8)
    obtain ⟨w9, hw9⟩ : ∃ w9, w8.setCell ⟨w2.heap.size, 2, none⟩ (.slice p8 (others D.pe n).length c8) = w9 := ⟨_, rfl⟩
    rw [hw9] at I9
    have E := hid I9.out.done
    clear r8 b8 k2
    have t2 := I8.out.rn.c 2 rfl
    have t3 := I8.out.rn.f 2
    obtain ⟨k0, k1, k2, m0, m1, m2, f0, f1, f2, j0, j1, j2, j3⟩ := I9.out.cells
    go_wp2
    refine bodyPost_ret (results_row2 rfl _ _ (w.heap.size + 1) [.slice p1 D.sec.length q1, .slice (some ⟨gg, 0, none⟩) D.ep.length (cc + 1), .slice p8 (others D.pe n).length c8] _ rfl E.out.2.2 Try.underlying30 rfl (by kernel_rfl)) rfl ?_
    rw [HP1.out]
    exact ⟨_, rfl, by simpa using E.out.1, E.out.2.1⟩

end Go.Proofs.Ytppjohfafnbdlak.Mem
