/-
  The walk of laws.FnExactLose, out of what spec.Lose and impl.Lose do: at every argument the law answers true, and nothing that was there is changed. No other condition.
-/
import Derived.Test.YtppjohfafnbdlakLawParts
namespace Go.Proofs.Ytppjohfafnbdlak.Mem
open Go.RowKit Classical
set_option linter.unusedVariables false

set_option maxRecDepth 100000 in
set_option maxHeartbeats 4000000 in
theorem lawLose (w : World) (v : Value) (D : Dk) (i : Int) (h : DkR w v D) (hd : D.Held) (E : Dk) (c : Bool) (he : D.Small 1048576 → E.Held ∧ E.sec.length + E.ep.length + E.pe.length * 4 ≤ 16777216)
    (SP : D.Small 1048576 → ∀ (w : World) (v : Value), DkR w v D → Calls Try.prog 17 #[v, .int .i64 i] w fun e w' => ∃ v', e = .returned (.tuple #[v', .bool c]) ∧ DkW w' w.heap.size v' E ∧ Below w.heap.size w w')
    (IM : D.Small 1048576 → ∀ (w : World) (v : Value), DkR w v D → Calls Try.prog 18 #[v, .int .i64 i] w fun e w' => ∃ v', e = .returned (.tuple #[v', .bool c]) ∧ DkW w' w.heap.size v' E ∧ Below w.heap.size w w') :
    Calls Try.prog 5 #[v, .int .i64 i] w fun e w' => e = .returned (.bool true) ∧ Below w.heap.size w w' := by
  have HI := hid IM
  have HP := hid SP
  have HH := hid h
  have HD := hid hd
  have HE := hid he
  obtain ⟨a1, c1, a2, c2, a3, c3, rfl, _, _, _⟩ := h
  clear hd IM SP he
  go_enter Try.func5, Try.ntmps5
  go_wp2_with fail
  obtain ⟨wb, hwb, ez, A0, B0⟩ := one_new w [.slice a1 D.sec.length c1, .slice a2 D.ep.length c2, .slice a3 D.pe.length c3] 26
  simp only [hwb]
  clear hwb
  refine (szDisk wb _ D 1048576 (HH.out.below B0) HD.out (by decide) (by decide)).mono ?_
  rintro e w1 ⟨r, rfl, b1, hf⟩
  have HA := hid (A0.below b1 A0.lt)
  have HB := hid (B0.trans (b1.mono B0.size))
  have HF := hid hf
  clear A0 B0 b1 hf ez
  by_cases hr : r < 0
  · go_wp2
    go_ret
    exact ⟨rfl, HB.out⟩
  have HS : Hid (D.Small 1048576) := by
    rcases HF.out with h | h
    · omega
    · exact h.2.2
  have HE1 := hid (HE.out HS.out)
  have HP1 := hid (HP.out HS.out)
  have HI1 := hid (HI.out HS.out)
  clear HF HE HP HI
  have k0 := HA.out.c 0 rfl
  have k1 := HA.out.c 1 rfl
  have k2 := HA.out.c 2 rfl
  go_wp2_with fail
  refine (toDisk w1 _ D (HH.out.below HB.out) HS.out.c1 HS.out.c2 HS.out.c3).mono ?_
  rintro e w2 ⟨v2, rfl, D2, b2⟩
  have HA2 := hid (HA.out.below b2 HA.out.lt)
  have HB2 := hid (HB.out.trans (b2.mono HB.out.size))
  have HD2 := hid D2
  replace k0 := HA2.out.c 0 rfl
  replace k1 := HA2.out.c 1 rfl
  replace k2 := HA2.out.c 2 rfl
  clear HA HB b2 D2
  go_wp2_with fail
  refine (HP1.out w2 v2 HD2.out.read).mono ?_
  rintro e w3 ⟨u, rfl, E3, b3⟩
  have HA3 := hid (HA2.out.below b3 HA2.out.lt)
  have HB3 := hid (HB2.out.trans (b3.mono HB2.out.size))
  have HU3 := hid E3.read
  obtain ⟨p1, q1, p2, q2, p3, q3, rfl, _, _, _, _, _⟩ := E3
  clear HA2 HB2 HD2 b3 k0 k1 k2
  obtain ⟨wd, hwd, ed, W0, B0⟩ := one_new w3 [.slice p1 E.sec.length q1, .slice p2 E.ep.length q2, .slice p3 E.pe.length q3] 30
  have L := hid (LSt.start HA3.out HU3.out HB3.out W0 B0)
  have HLu := hid W0.lt
  clear HA3 HU3 HB3 W0 B0 ed
  obtain ⟨k0, k1, k2, u0, u1, u2⟩ := L.out.cells
  go_wp2_with fail
  clear hwd k0 k1 k2 u0 u1 u2
  refine (toDisk wd _ D (HH.out.below L.out.bel) HS.out.c1 HS.out.c2 HS.out.c3).mono ?_
  rintro e w4 ⟨v4, rfl, D4, b4⟩
  have L4 := hid (L.out.below b4)
  have HX4 := hid D4
  obtain ⟨x1, y1, x2, y2, x3, y3, rfl, _, _, _, _, _⟩ := D4
  clear L b4
  obtain ⟨we, hwe, ee, X0, B0⟩ := one_new w4 [.slice x1 D.sec.length y1, .slice x2 D.ep.length y2, .slice x3 D.pe.length y3] 30
  have HLx := hid X0.lt
  have L5 := hid (LSx.mk (L4.out.below B0) X0 (HX4.out.below B0) (fun b hb => HX4.out.read.foot_lt hb) HLu.out L4.out.nuu.lt)
  clear L4 HX4 X0 B0 ee
  obtain ⟨k0, k1, k2, u0, u1, u2, m0, m1, m2⟩ := L5.out.cells
  go_wp2_with fail
  clear hwe k0 k1 k2 u0 u1 u2 m0 m1 m2
  refine (HI1.out we _ L5.out.dx.read).mono ?_
  rintro e w5 ⟨g, rfl, E5, b5⟩
  have L6 := hid (L5.out.below b5)
  have HG5 := hid E5
  obtain ⟨r1, s1, r2, s2, r3, s3, rfl, _, _, _, _, _⟩ := E5
  clear L5 b5
  obtain ⟨wg, hwg, eg, G0, B0⟩ := one_new w5 [.slice r1 E.sec.length s1, .slice r2 E.ep.length s2, .slice r3 E.pe.length s3] 30
  have L7 := hid (LSg.mk (L6.out.below B0) (LSm.mk (L6.out.below B0).core G0 (HG5.out.below B0) (fun b hb => HG5.out.read.foot_lt hb) (Nat.lt_trans L6.out.lnx HLx.out) L6.out.core.nuu.lt) HLx.out L6.out.rx.lt)
  clear L6 HG5 G0 B0 eg
  obtain ⟨k0, k1, k2, u0, u1, u2, m0, m1, m2, g0, g1, g2⟩ := L7.out.cells
  go_wp2_with fail
  clear hwg k0 k1 k2 u0 u1 u2 m0 m1 m2 g0 g1 g2
  have hdd : decide (D = D) = true := decide_eq_true rfl
  have hee : decide (E = E) = true := decide_eq_true rfl
  refine (eqDisk wg _ _ E E L7.out.m.dg.read L7.out.m.core.ru HE1.out.1 HE1.out.1).mono ?_
  rintro e w6 ⟨rfl, b6⟩
  have L8 := hid (L7.out.below b6)
  obtain ⟨k0, k1, k2, u0, u1, u2, m0, m1, m2, g0, g1, g2⟩ := L8.out.cells
  clear L7 b6
  go_wp2
  have Q0 := hid (show w6.drew.cell? ⟨w.heap.size, 0, none⟩ = some (.slice a1 D.sec.length c1) ∧ w6.drew.cell? ⟨w.heap.size, 1, none⟩ = some (.slice a2 D.ep.length c2) ∧ w6.drew.cell? ⟨w.heap.size, 2, none⟩ = some (.slice a3 D.pe.length c3) ∧ w6.drew.cell? ⟨w4.heap.size, 0, none⟩ = some (.slice x1 D.sec.length y1) ∧ w6.drew.cell? ⟨w4.heap.size, 1, none⟩ = some (.slice x2 D.ep.length y2) ∧ w6.drew.cell? ⟨w4.heap.size, 2, none⟩ = some (.slice x3 D.pe.length y3) ∧ Below w6.heap.size w6 w6.drew from ⟨k0, k1, k2, m0, m1, m2, (Below.refl _ w6).drew⟩)
  clear k0 k1 k2 u0 u1 u2 m0 m1 m2 g0 g1 g2
  go_region_held_law (fun w' => w'.cell? ⟨w.heap.size, 0, none⟩ = some (.slice a1 D.sec.length c1) ∧ w'.cell? ⟨w.heap.size, 1, none⟩ = some (.slice a2 D.ep.length c2) ∧ w'.cell? ⟨w.heap.size, 2, none⟩ = some (.slice a3 D.pe.length c3) ∧ w'.cell? ⟨w4.heap.size, 0, none⟩ = some (.slice x1 D.sec.length y1) ∧ w'.cell? ⟨w4.heap.size, 1, none⟩ = some (.slice x2 D.ep.length y2) ∧ w'.cell? ⟨w4.heap.size, 2, none⟩ = some (.slice x3 D.pe.length y3) ∧ Below w6.heap.size w6 w')
    (first | with_reducible exact Q2.out | with_reducible exact Q1.out | with_reducible exact Q0.out | with_reducible assumption)
    (first
      | (go_at_call 10; refine (toDisk _ _ D (HH.out.below (L8.out.x.core.bel.drew)) HS.out.c1 HS.out.c2 HS.out.c3).mono ?_; rintro e w7 ⟨v7, rfl, D7, b7⟩; have HD7 := hid D7; have Q1 := hid (eqS_below (wa := w6) (g := w.heap.size) (gx := w4.heap.size) (x0 := .slice a1 D.sec.length c1) (x1 := .slice a2 D.ep.length c2) (x2 := .slice a3 D.pe.length c3) (y0 := .slice x1 D.sec.length y1) (y1 := .slice x2 D.ep.length y2) (y2 := .slice x3 D.pe.length y3) b7 (by with_reducible assumption)); clear D7 b7)
      | (go_at_call 12; refine (eqDisk _ _ _ D D (L8.out.x.dx.read.below (Q1.out.2.2.2.2.2.2)) HD7.out.read HD.out HD.out).mono ?_; rintro e w8 ⟨rfl, b8⟩; have Q2 := hid (eqS_below (wa := w6) (g := w.heap.size) (gx := w4.heap.size) (x0 := .slice a1 D.sec.length c1) (x1 := .slice a2 D.ep.length c2) (x2 := .slice a3 D.pe.length c3) (y0 := .slice x1 D.sec.length y1) (y1 := .slice x2 D.ep.length y2) (y2 := .slice x3 D.pe.length y3) b8 Q1.out); clear b8))
  have L9 := hid (L8.out.below Q2.out.2.2.2.2.2.2)
  clear Q0 Q1 Q2 HD7 L8
  obtain ⟨k0, k1, k2, u0, u1, u2, m0, m1, m2, g0, g1, g2⟩ := L9.out.cells
  have hl1 := HE1.out.2
  have hl2 := HS.out.c1
  have hl3 := HS.out.c2
  have hl4 := HS.out.c3
  go_wp2_with fail
  refine (markDisk _ wd.heap.size _ D 1 L9.out.x.dx (by decide) (by omega)).mono ?_
  rintro e w9 ⟨rfl, M9, k9⟩
  have L10 := hid (L9.out.marked k9)
  clear L9 M9 k9 k0 k1 k2 u0 u1 u2 m0 m1 m2 g0 g1 g2
  obtain ⟨k0, k1, k2, u0, u1, u2, g0, g1, g2⟩ := L10.out.cells
  go_wp2_with fail
  refine (eqDisk w9 _ _ E E L10.out.dg.read L10.out.core.ru HE1.out.1 HE1.out.1).mono ?_
  rintro e w10 ⟨rfl, b10⟩
  have L11 := hid (L10.out.below b10)
  clear L10 b10 k0 k1 k2 u0 u1 u2 g0 g1 g2
  obtain ⟨k0, k1, k2, u0, u1, u2, g0, g1, g2⟩ := L11.out.cells
  go_wp2_with fail
  refine (markDisk _ we.heap.size _ E 1 L11.out.dg (by decide) (by omega)).mono ?_
  rintro e w11 ⟨e11, M11, k11⟩
  obtain ⟨N, hN⟩ : ∃ N : Nat, 1 + E.sec.length + E.ep.length + E.pe.length * 4 = N := ⟨_, rfl⟩
  rw [hN] at e11
  subst e11
  have hN0 : ¬ ((N : Nat) : Int) < 0 := by omega
  have HN := hid hN
  clear hN
  have L12 := hid (L11.out.marked k11 M11)
  clear L11 M11 k11 k0 k1 k2 u0 u1 u2 g0 g1 g2
  obtain ⟨k0, k1, k2, u0, u1, u2, g0, g1, g2⟩ := L12.out.cells
  go_wp2_with fail
  refine (heldDisk _ _ E.sec.length E.ep.length E.pe.length 1 L12.out.mkd (by decide) (by omega)).mono ?_
  rintro e w12 ⟨e12, b12⟩
  rw [HN.out] at e12
  subst e12
  have L13 := hid (L12.out.below b12)
  clear L12 b12 k0 k1 k2 u0 u1 u2 g0 g1 g2
  obtain ⟨k0, k1, k2, u0, u1, u2, g0, g1, g2⟩ := L13.out.cells
  clear hl2 hl3 hl4
  go_wp2_with fail
  refine (toDisk w12 _ D (HH.out.below L13.out.core.bel) HS.out.c1 HS.out.c2 HS.out.c3).mono ?_
  rintro e w13 ⟨v13, rfl, D13, b13⟩
  have L14 := hid (L13.out.below b13)
  have HD13 := hid D13
  clear L13 b13 D13 k0 k1 k2 u0 u1 u2 g0 g1 g2
  obtain ⟨k0, k1, k2, u0, u1, u2, g0, g1, g2⟩ := L14.out.cells
  go_wp2_with fail
  refine (HI1.out w13 _ HD13.out.read).mono ?_
  rintro e w14 ⟨y, rfl, E14, b14⟩
  have L15 := hid (L14.out.below b14)
  have HR14 := hid E14.read
  obtain ⟨t1, o1, t2, o2, t3, o3, rfl, _, _, _, _, _⟩ := E14
  clear L14 HD13 b14 k0 k1 k2 u0 u1 u2 g0 g1 g2
  obtain ⟨wh, hwh, eh, H0, B0⟩ := one_new w14 [.slice t1 E.sec.length o1, .slice t2 E.ep.length o2, .slice t3 E.pe.length o3] 30
  obtain ⟨k0, k1, k2, u0, u1, u2, g0, g1, g2⟩ := (L15.out.below B0).cells
  obtain ⟨h0, h1, h2⟩ := H0.cells3
  go_wp2_with fail
  clear hwh h0 h1 h2
  refine (eqDisk wh _ _ E E (HR14.out.below B0) (L15.out.below B0).core.ru HE1.out.1 HE1.out.1).mono ?_
  rintro e w15 ⟨rfl, b15⟩
  have L16 := hid ((L15.out.below B0).below b15)
  clear L15 HR14 B0 b15 H0 eh k0 k1 k2 u0 u1 u2 g0 g1 g2
  obtain ⟨k0, k1, k2, u0, u1, u2, g0, g1, g2⟩ := L16.out.cells
  go_wp2_with fail
  refine (heldDisk _ _ E.sec.length E.ep.length E.pe.length 1 L16.out.mkd (by decide) (by omega)).mono ?_
  rintro e w16 ⟨e16, b16⟩
  rw [HN.out] at e16
  subst e16
  have L17 := hid (L16.out.core.bel.trans (b16.mono L16.out.core.bel.size))
  clear L16 b16 k0 k1 k2 u0 u1 u2 g0 g1 g2
  go_wp2
  go_ret
  exact ⟨rfl, L17.out⟩

end Go.Proofs.Ytppjohfafnbdlak.Mem
