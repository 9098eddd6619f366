/-
  The walk of spec.Lose: what it makes of a disk, in rows of its own. No condition but sizes.
-/
import Derived.Test.YtppjohfafnbdlakDkLand
import Derived.Test.YtppjohfafnbdlakPeekLaw
import Derived.Test.YtppjohfafnbdlakWrapEnd
namespace Go.Proofs.Ytppjohfafnbdlak.Mem
open Go.RowKit
set_option linter.unusedVariables false

/-- What Lose makes of a right disk. -/
def Dk.lose (D : Dk) (i : Int) : Dk × Bool := if 0 ≤ i ∧ i < (D.pe.length : Int) then (⟨D.sec, D.ep, D.pe.eraseIdx i.toNat⟩, true) else (D, false)
/-- What Lose answers. -/
def Dk.loseA (D : Dk) (i : Int) : Dk × Bool := if D.right = true then D.lose i else (Dk.nil, false)

set_option maxRecDepth 100000 in
set_option maxHeartbeats 2000000 in
theorem specLose (w : World) (v : Value) (D : Dk) (i : Int) (h : DkR w v D) (hd : D.Held) (hs : D.Small 1048576) :
    Calls Try.prog 17 #[v, .int .i64 i] w fun e w' => ∃ v', e = .returned (.tuple #[v', .bool (D.loseA i).2]) ∧ DkW w' w.heap.size v' (D.loseA i).1 ∧ Below w.heap.size w w' := by
  have HH := hid h
  have HD := hid hd
  have HS := hid hs
  obtain ⟨a1, c1, a2, c2, a3, c3, rfl, _, _, _⟩ := h
  clear hd hs
  obtain ⟨wb, hwb, ez, A0, R0, B0⟩ := two_new w [.slice a1 D.sec.length c1, .slice a2 D.ep.length c2, .slice a3 D.pe.length c3] [.slice none 0 0, .slice none 0 0, .slice none 0 0] 30 30
  have k0 := A0.c 0 rfl
  have k1 := A0.c 1 rfl
  have k2 := A0.c 2 rfl
  go_enter Try.func17, Try.ntmps17
  go_wp2_with fail
  refine (diskOk wb _ D (HH.out.below B0) HD.out).mono ?_
  rintro e w1 ⟨rfl, b1⟩
  have HA := hid (A0.below b1 A0.lt)
  have HR := hid (R0.below b1 R0.lt)
  have HB := hid (B0.trans (b1.mono B0.size))
  clear A0 R0 B0 b1 hwb ez k0 k1 k2
  have m0 := HR.out.c 0 rfl
  have m1 := HR.out.c 1 rfl
  have m2 := HR.out.c 2 rfl
  have f0 := HR.out.f 0
  have f1 := HR.out.f 1
  have f2 := HR.out.f 2
  by_cases hr : ¬ D.right = true
  · have HP : Hid (D.loseA i = (Dk.nil, false)) := if_neg hr
    have hr' : D.right = false := by simpa using hr
    clear hr
    have E := hid (wrap_bad HB.out HR.out)
    go_wp2
    refine bodyPost_ret (results_row2 rfl _ _ (w.heap.size + 1) [.slice none 0 0, .slice none 0 0, .slice none 0 0] _ rfl E.out.2.2 Try.underlying30 rfl (by kernel_rfl)) rfl ?_
    rw [HP.out]
    exact ⟨_, rfl, E.out.1, E.out.2.1⟩
  replace hr := Classical.not_not.mp hr
  have HP : Hid (D.loseA i = D.lose i) := if_pos hr
  have HT := hid (Dk.of_right hr)
  have k0 := HA.out.c 0 rfl
  have k1 := HA.out.c 1 rfl
  have k2 := HA.out.c 2 rfl
  go_wp2_with fail
  refine (l3Copy w1 _ D (HH.out.below HB.out) HS.out.c1 HS.out.c2 HS.out.c3).mono ?_
  rintro e w2 ⟨v2, rfl, O2, b2⟩
  have hL := HR.out.lt
  have HR2 := HR.out.below b2 HR.out.lt
  have HA2 := HA.out.below b2 HA.out.lt
  have HB2 := HB.out.trans (b2.mono HB.out.size)
  have HO2 := O2
  obtain ⟨u1, u2, u3, rfl, r1, r2, r3, _, _⟩ := O2
  obtain ⟨p1, q1, e1, _⟩ := r1.wr
  obtain ⟨p2, q2, e2, _⟩ := r2.wr
  obtain ⟨p3, q3, e3, _⟩ := r3.wr
  subst e1; subst e2; subst e3
  have HCp := hid r3.cap
  have K3 := kept3 w2 w.heap.size (.slice p1 D.sec.length q1) (.slice p2 D.ep.length q2) (.slice p3 D.pe.length q3)
  have HON := hid (HO2.kept K3 (fun b hb e => by have := (HO2.lt hb).1; omega))
  have HRN := hid (HR2.kept K3 (by omega))
  have HAN := hid (((HA2.set 0 (.slice p1 D.sec.length q1)).set 1 (.slice p2 D.ep.length q2)).set 2 (.slice p3 D.pe.length q3))
  have HBN := hid (below_set (below_set (below_set HB2 w.heap.size 0 (.slice p1 D.sec.length q1) (Nat.le_refl _)) w.heap.size 1 (.slice p2 D.ep.length q2) (Nat.le_refl _)) w.heap.size 2 (.slice p3 D.pe.length q3) (Nat.le_refl _))
  have hsz := K3.size
  obtain ⟨ws, hws⟩ : ∃ ws, ((w2.setCell ⟨w.heap.size, 0, none⟩ (.slice p1 D.sec.length q1)).setCell ⟨w.heap.size, 1, none⟩ (.slice p2 D.ep.length q2)).setCell ⟨w.heap.size, 2, none⟩ (.slice p3 D.pe.length q3) = ws := ⟨_, rfl⟩
  rw [hws] at HON HRN HAN HBN hsz
  have HSB := hid (show w1.heap.size ≤ ws.heap.size from Nat.le_trans b2.size hsz)
  have HL := hid hL
  clear k0 k1 k2 m0 m1 m2 f0 f1 f2 r1 r2 r3 HO2 K3 hL
  have j0 := HA2.c 0 rfl
  have j1 := HA2.c 1 rfl
  have j2 := HA2.c 2 rfl
  have i0 := HA2.f 0
  have i1 := HA2.f 1
  have i2 := HA2.f 2
  have k0 := HAN.out.c 0 rfl
  have k1 := HAN.out.c 1 rfl
  have k2 := HAN.out.c 2 rfl
  have m0 := HRN.out.c 0 rfl
  have m1 := HRN.out.c 1 rfl
  have m2 := HRN.out.c 2 rfl
  have f0 := HRN.out.f 0
  have f1 := HRN.out.f 1
  have f2 := HRN.out.f 2
  clear HA2 HR2 HB2 b2 hsz
  have HLd := hid (show D.lose i = if 0 ≤ i ∧ i < (D.pe.length : Int) then (⟨D.sec, D.ep, D.pe.eraseIdx i.toNat⟩, true) else (D, false) from rfl)
  have hd3 : (D.pe.length : Int) ≤ 40 := by have := HT.out.p40; omega
  by_cases g1 : i < 0
  · have HP1 := hid (HP.out.trans (HLd.out.trans (if_neg (fun q => by have := q.1; omega))))
    have E := hid (wrap_end HL.out HBN.out HON.out (Below.refl _ _) HRN.out)
    go_wp2
    refine bodyPost_ret (results_row2 rfl _ _ (w.heap.size + 1) [.slice p1 D.sec.length q1, .slice p2 D.ep.length q2, .slice p3 D.pe.length q3] _ rfl E.out.2.2 Try.underlying30 rfl (by kernel_rfl)) rfl ?_
    rw [HP1.out]
    exact ⟨_, rfl, E.out.1, E.out.2.1⟩
  by_cases g2 : (D.pe.length : Int) ≤ i
  · have HP1 := hid (HP.out.trans (HLd.out.trans (if_neg (fun q => by have := q.2; omega))))
    have E := hid (wrap_end HL.out HBN.out HON.out (Below.refl _ _) HRN.out)
    go_wp2
    refine bodyPost_ret (results_row2 rfl _ _ (w.heap.size + 1) [.slice p1 D.sec.length q1, .slice p2 D.ep.length q2, .slice p3 D.pe.length q3] _ rfl E.out.2.2 Try.underlying30 rfl (by kernel_rfl)) rfl ?_
    rw [HP1.out]
    exact ⟨_, rfl, E.out.1, E.out.2.1⟩
  obtain ⟨m, rfl⟩ : ∃ m : Nat, i = (m : Int) := Int.eq_ofNat_of_zero_le (by omega)
  have hml : m < D.pe.length := by omega
  have HP1 := hid (HP.out.trans (HLd.out.trans (if_pos ⟨by omega, by omega⟩)))
  rw [Int.toNat_natCast] at HP1
  have HW : Hid (Wts ws p3 D.pe) := by
    obtain ⟨_, _, _, ev, _, _, r3, _⟩ := HON.out
    cases ev
    obtain ⟨_, _, ev, wr3⟩ := r3.wr
    cases ev
    exact wr3.sl.congr (fun i hi => wCells_at _ i hi)
  obtain ⟨b3, o3, rfl, _⟩ := Wts.at_ HW.out m hml
  go_wp2_with fail
  refine (l3Without ws b3 o3 q3 D.pe m HW.out hml (by omega) HCp.out.1 HCp.out.2).mono ?_
  rintro e w7 ⟨v7, rfl, r7, b7⟩
  obtain ⟨p7, c7, e7, _⟩ := r7.wr
  subst e7
  have O7 := HON.out.swapped b7 HSB.out r7
  have RN7 := HRN.out.below b7 HRN.out.lt
  have AN7 := HAN.out.below b7 HAN.out.lt
  have k7 := kept_set w7 w.heap.size 2 (.slice p7 (D.pe.eraseIdx m).length c7)
  have hL := HL.out
  have HO8 := hid (O7.kept k7 (fun b hb e => by have := (O7.lt hb).1; omega))
  have HR8 := hid (RN7.kept k7 (by omega))
  have HA8 := hid (AN7.set 2 (.slice p7 (D.pe.eraseIdx m).length c7))
  have HB8 := hid (below_set (HBN.out.trans (b7.mono HBN.out.size)) w.heap.size 2 (.slice p7 (D.pe.eraseIdx m).length c7) (Nat.le_refl _))
  obtain ⟨w8, hw8⟩ : ∃ w8, w7.setCell ⟨w.heap.size, 2, none⟩ (.slice p7 (D.pe.eraseIdx m).length c7) = w8 := ⟨_, rfl⟩
  rw [hw8] at HO8 HR8 HA8 HB8
  have E := hid (wrap_end hL HB8.out HO8.out (Below.refl _ _) HR8.out)
  clear k0 k1 k2 m0 m1 m2 f0 f1 f2 j0 j1 j2 i0 i1 i2 hws k7 hL r7 b7 O7
  have t2 := AN7.c 2 rfl
  have t3 := AN7.f 2
  have k0 := HA8.out.c 0 rfl
  have k1 := HA8.out.c 1 rfl
  have k2 := HA8.out.c 2 rfl
  have m0 := HR8.out.c 0 rfl
  have m1 := HR8.out.c 1 rfl
  have m2 := HR8.out.c 2 rfl
  have f0 := HR8.out.f 0
  have f1 := HR8.out.f 1
  have f2 := HR8.out.f 2
  clear AN7 RN7
  go_wp2
  refine bodyPost_ret (results_row2 rfl _ _ (w.heap.size + 1) [.slice p1 D.sec.length q1, .slice p2 D.ep.length q2, .slice p7 (D.pe.eraseIdx m).length c7] _ rfl E.out.2.2 Try.underlying30 rfl (by kernel_rfl)) rfl ?_
  rw [HP1.out]
  exact ⟨_, rfl, E.out.1, E.out.2.1⟩

end Go.Proofs.Ytppjohfafnbdlak.Mem
