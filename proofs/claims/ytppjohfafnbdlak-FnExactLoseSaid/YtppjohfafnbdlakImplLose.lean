/-
  The walk of impl.Lose: it answers as spec.Lose does, in rows of its own. No condition but sizes.
-/
import Derived.Test.YtppjohfafnbdlakSpecLose
import Derived.Test.YtppjohfafnbdlakImplLeft
import Derived.Test.YtppjohfafnbdlakLeftMore
import Derived.Test.YtppjohfafnbdlakRightHeld
import Derived.Test.YtppjohfafnbdlakImplOk2
import Derived.Test.YtppjohfafnbdlakImplCopy
import Derived.Test.YtppjohfafnbdlakImplState
namespace Go.Proofs.Ytppjohfafnbdlak.Mem
open Go.RowKit
set_option linter.unusedVariables false

theorem wts_of {w : World} {a1 a2 a3 : Option Addr} {n1 n2 n3 c1 c2 c3 : Nat} {D : Dk} (h : DkR w (.agg #[.slice a1 n1 c1, .slice a2 n2 c2, .slice a3 n3 c3]) D) : Wts w a3 D.pe := by
  obtain ⟨_, _, _, _, _, _, e, _, _, s3⟩ := h
  cases e
  exact s3

theorem idx_from : ∀ (Z : List Nat) (m i : Nat), m ∈ Z → ∃ p : Nat, Lib.idxFrom (zOf Z) (m : Int) i = ((i + p : Nat) : Int) ∧ p < Z.length ∧ Z.getD p 0 = m
  | [], m, _, h => by simp at h
  | z :: r, m, i, h => by
    have hz : (zOf (z :: r)) = (z : Int) :: zOf r := rfl
    rw [hz]
    unfold Lib.idxFrom
    by_cases e : z = m
    · subst e
      exact ⟨0, by simp, by simp, rfl⟩
    · obtain ⟨p, h1, h2, h3⟩ := idx_from r m (i + 1) (by rcases List.mem_cons.1 h with h | h; exact absurd h.symm e; exact h)
      refine ⟨p + 1, ?_, by simp; omega, by simpa using h3⟩
      rw [if_neg (fun q => e (by omega)), h1]
      congr 1
      omega

theorem idx_of (Z : List Nat) (m : Nat) (h : m ∈ Z) : ∃ p : Nat, Lib.idxOf (zOf Z) (m : Int) = (p : Int) ∧ p < Z.length ∧ Z.getD p 0 = m := by
  obtain ⟨p, h1, h2, h3⟩ := idx_from Z m 0 h
  exact ⟨p, by unfold Lib.idxOf; rw [h1, Nat.zero_add], h2, h3⟩

theorem Dk.Right.lose {D : Dk} (h : D.Right) (i : Int) : (D.lose i).1.Right := by
  unfold Dk.lose
  split
  · exact h.fewer _ (by rw [List.length_eraseIdx]; split <;> omega) (fun x hx => List.mem_of_mem_eraseIdx hx)
  · exact h

set_option maxRecDepth 100000 in
set_option maxHeartbeats 4000000 in
theorem implLose (w : World) (v : Value) (D : Dk) (i : Int) (h : DkR w v D) (hd : D.Held) (hs : D.Small 1048576) :
    Calls Try.prog 18 #[v, .int .i64 i] w fun e w' => ∃ v', e = .returned (.tuple #[v', .bool (D.loseA i).2]) ∧ DkW w' w.heap.size v' (D.loseA i).1 ∧ Below w.heap.size w w' := by
  have HH := hid h
  have HD := hid hd
  have HS := hid hs
  obtain ⟨a1, c1, a2, c2, a3, c3, rfl, _, _, _⟩ := h
  clear hd hs
  obtain ⟨wb, hwb, ez, A0, R0, B0⟩ := two_new w [.slice a1 D.sec.length c1, .slice a2 D.ep.length c2, .slice a3 D.pe.length c3] [.slice none 0 0, .slice none 0 0, .slice none 0 0] 30 30
  have k0 := A0.c 0 rfl
  have k1 := A0.c 1 rfl
  have k2 := A0.c 2 rfl
  go_enter Try.func18, Try.ntmps18
  go_wp2_with fail
  refine (implDiskOk wb _ D (HH.out.below B0) HD.out).mono ?_
  rintro e w1 ⟨rfl, b1⟩
  have HA := hid (A0.below b1 A0.lt)
  have HR := hid (R0.below b1 R0.lt)
  have HB := hid (B0.trans (b1.mono B0.size))
  clear A0 R0 B0 b1 hwb ez k0 k1 k2
  have m0 := HR.out.c 0 rfl
  have m1 := HR.out.c 1 rfl
  have m2 := HR.out.c 2 rfl
  have f0 := HR.out.f 0
  have f1 := HR.out.f 1
  have f2 := HR.out.f 2
  by_cases hr : ¬ D.right = true
  · have HP : Hid (D.loseA i = (Dk.nil, false)) := if_neg hr
    have hr' : D.right = false := by simpa using hr
    clear hr
    have E := hid (wrap_bad HB.out HR.out)
    go_wp2
    refine bodyPost_ret (results_row2 rfl _ _ (w.heap.size + 1) [.slice none 0 0, .slice none 0 0, .slice none 0 0] _ rfl E.out.2.2 Try.underlying30 rfl (by kernel_rfl)) rfl ?_
    rw [HP.out]
    exact ⟨_, rfl, E.out.1, E.out.2.1⟩
  replace hr := Classical.not_not.mp hr
  have HP : Hid (D.loseA i = D.lose i) := if_pos hr
  have HT := hid (Dk.of_right hr)
  have k0 := HA.out.c 0 rfl
  have k1 := HA.out.c 1 rfl
  have k2 := HA.out.c 2 rfl
  go_wp2_with fail
  refine (copyDisk w1 _ D (HH.out.below HB.out) HS.out.c1 HS.out.c2 HS.out.c3).mono ?_
  rintro e w2 ⟨v2, rfl, O2, b2⟩
  have HO2 := hid O2
  obtain ⟨u1, u2, u3, rfl, r1, r2, r3, _, _⟩ := O2
  obtain ⟨p1, q1, e1, _⟩ := r1.wr
  obtain ⟨p2, q2, e2, _⟩ := r2.wr
  obtain ⟨p3, q3, e3, _⟩ := r3.wr
  subst e1; subst e2; subst e3
  clear r1 r2 r3 m0 m1 m2 f0 f1 f2 k0 k1 k2
  obtain ⟨wn, hwn, en, N0, Bn⟩ := one_new w2 [.slice p1 D.sec.length q1, .slice p2 D.ep.length q2, .slice p3 D.pe.length q3] 30
  have I := hid (ISt.start HB.out HA.out HR.out HO2.out b2 N0 Bn)
  have HDn := hid (HH.out.below I.out.bel)
  clear HO2 b2 N0 Bn en HA HR HB
  obtain ⟨k0, k1, k2, m0, m1, m2, f0, f1, f2, n0, n1, n2, n3⟩ := I.out.cells
  have HLd := hid (show D.lose i = if 0 ≤ i ∧ i < (D.pe.length : Int) then (⟨D.sec, D.ep, D.pe.eraseIdx i.toNat⟩, true) else (D, false) from rfl)
  have hd3 : (D.pe.length : Int) ≤ 40 := by have := HT.out.p40; omega
  by_cases g1 : i < 0
  · have HP1 := hid (HP.out.trans (HLd.out.trans (if_neg (fun q => by have := q.1; omega))))
    have E := hid I.out.done
    go_wp2
    refine bodyPost_ret (results_row2 rfl _ _ (w.heap.size + 1) [.slice p1 D.sec.length q1, .slice p2 D.ep.length q2, .slice p3 D.pe.length q3] _ rfl E.out.2.2 Try.underlying30 rfl (by kernel_rfl)) rfl ?_
    rw [HP1.out]
    exact ⟨_, rfl, E.out.1, E.out.2.1⟩
  by_cases g2 : (D.pe.length : Int) ≤ i
  · have HP1 := hid (HP.out.trans (HLd.out.trans (if_neg (fun q => by have := q.2; omega))))
    have E := hid I.out.done
    go_wp2
    refine bodyPost_ret (results_row2 rfl _ _ (w.heap.size + 1) [.slice p1 D.sec.length q1, .slice p2 D.ep.length q2, .slice p3 D.pe.length q3] _ rfl E.out.2.2 Try.underlying30 rfl (by kernel_rfl)) rfl ?_
    rw [HP1.out]
    exact ⟨_, rfl, E.out.1, E.out.2.1⟩
  obtain ⟨m, rfl⟩ : ∃ m : Nat, i = (m : Int) := Int.eq_ofNat_of_zero_le (by omega)
  have hml : m < D.pe.length := by omega
  have hm0 : (0 : Int) ≤ (m : Int) := Int.natCast_nonneg m
  have hmI : (m : Int) < (D.pe.length : Int) := by omega
  have HP1 := hid (HP.out.trans (HLd.out.trans (if_pos ⟨hm0, hmI⟩)))
  rw [Int.toNat_natCast] at HP1
  obtain ⟨b3, o3, rfl, x0, x1, x2, x3⟩ := Wts.at_ (wts_of HDn.out) m hml
  have hok := HT.out.okK m hml
  have hleft := hid (fun p => left_erase D.pe m p hml)
  have hmem := hid (mem_qAt hml)
  generalize D.pe.getD m Wt.none = u at *
  obtain ⟨xh, xe, xs, xt⟩ := u
  simp only [] at x0 x1 x2 x3 hok hleft hmem
  have HK := hid hok
  clear hok x1 x3
  obtain ⟨wk, hwk, ek, K0, Bk⟩ := one_new wn [.int .i64 xh, .int .i64 xs] 66
  have IK := hid (I.out.below Bk)
  have HDk := hid (HDn.out.below Bk)
  have HK0 := hid K0
  have kk2 : ∀ ob, (wn.alloc ob).cell? ⟨w.heap.size, 2, none⟩ = some (.slice (some ⟨b3, o3, none⟩) D.pe.length c3) := fun ob => (I.out.ra.alloc ob).c 2 rfl
  have xx0 : ∀ ob, (wn.alloc ob).cell? ⟨b3, o3 + m * 4, none⟩ = some (.int .i64 xh) := fun ob => (((Below.refl _ wn).alloc (Nat.le_refl _) ob).cell (p := ⟨b3, o3 + m * 4, none⟩) (World.block_lt_of_cell? wn _ x0)).trans x0
  have xx2 : ∀ ob, (wn.alloc ob).cell? ⟨b3, o3 + m * 4 + 2, none⟩ = some (.int .i64 xs) := fun ob => (((Below.refl _ wn).alloc (Nat.le_refl _) ob).cell (p := ⟨b3, o3 + m * 4 + 2, none⟩) (World.block_lt_of_cell? wn _ x2)).trans x2
  clear K0 Bk ek k0 k1 m0 m1 m2 f0 f1 f2 n0 n1 n2 n3 g1 g2
  go_wp2
  go_region
  have D0 := (Below.refl wk.heap.size wk).drew
  have IY := hid (IK.out.below D0)
  have HDy := hid (HDk.out.below D0)
  have HKy := hid (HK0.out.below D0 HK0.out.lt)
  clear D0 IK HDk HK0 kk2 xx0 xx2 x0 x2 k2 hwk hwn
  generalize wk.drew = wy at *
  have kk2 := IY.out.ra.c 2 rfl
  go_wp2_with fail
  refine (queuesOf wy (some ⟨b3, o3, none⟩) c3 D.pe (wts_of HDy.out) HT.out.p40 HT.out.okK).mono ?_
  rintro e w4 ⟨rfl, ⟨nq, M, V, hnq, q⟩, b4⟩
  have HB4 := hid b4
  have qd := q.below ((Below.refl _ w4).drew)
  have hlk0 : (Instr.lookup 63 (.map (some wy.heap.size)) (.agg #[.int .i64 xh, .int .i64 xs]) false).run Try.prog w4.drew = .ok (V xh xs) w4.drew := qd.look HK.out
  have hrow := q.row xh xs HK.out
  obtain ⟨Z, hZ⟩ : ∃ Z, qAt D.pe D.pe.length xh xs = Z := ⟨_, rfl⟩
  rw [hZ] at hrow hleft hmem
  have hZp : 0 < Z.length := List.length_pos_iff.2 (fun e => by have := hmem.out; rw [e] at this; simp at this)
  obtain ⟨g, c, hv⟩ := hrow.form hZp
  rw [hv] at hlk0 hrow
  obtain ⟨p, hp1, hp2, hp3⟩ := idx_of Z m hmem.out
  have hix := Any.slices_Index_int Try.lays108 g 0 Z.length (c + 1) (zOf Z) (m : Int) w4.drew (by rw [zOf_length]; exact Nat.le_refl _) (by have := hrow.cap; unfold maxLen at this; omega) (fun j hj => by
    have := q_cell hrow rfl j (by rw [zOf_length] at hj; exact hj)
    rw [Nat.zero_add]
    show w4.cell? ⟨g, j, none⟩ = _
    rw [this]
    rw [zOf_length] at hj
    simp [zOf, List.getD, hj])
  rw [show (zOf Z).take Z.length = zOf Z from by rw [← zOf_length Z]; exact List.take_length, hp1] at hix
  have HQ := hid qd
  have HZ := hid hZ
  have HIX := hid hix
  have HLW := hid (hleft.out p hp2 hp3)
  have HKw := hid (HKy.out.below b4 HKy.out.lt)
  have z0 := HKw.out.c 0 rfl
  have z1 := HKw.out.c 1 rfl
  have hZl : p < 41 := by
    have h1 := qAt_len D.pe D.pe.length xh xs
    have := HT.out.p40
    rw [hZ] at h1
    omega
  have hkw : wy.heap.size < w4.heap.size := q.own.lt
  clear q qd hrow hv hZ b4 kk2 hleft hmem hp1 hix
  have hp0 : (0 : Int) ≤ (p : Int) := Int.natCast_nonneg p
  go_wp2
  go_region_with (first
    | (go_at_call 52; refine HIX.out.mono ?_; rintro e wi ⟨rfl, hwi⟩; subst hwi)
    | (go_at_call 49; refine (take w4.drew (wy.heap.size + 1) wy.heap.size nq _ M V HQ.out xh xs HK.out p (by rw [HZ.out]; exact hp2) (by omega) (by omega)).mono ?_; rintro e w5 ⟨rfl, ⟨M5, V5, q5⟩, k5⟩))
  all_goals
    rw [HZ.out] at q5
    have HB5 := hid ((HB4.out.drew).trans (k5.below (by show wy.heap.size ≤ w4.heap.size; omega) (fun gg hg e => by rcases e with e | e <;> omega)))
    have I5 := hid (IY.out.below HB5.out)
    have HQ5 := hid q5
    have HD5 := hid (HH.out.below I5.out.bel)
    clear q5 k5 z0 z1 hlk0
    have k2 := I5.out.ra.c 2 rfl
    go_wp2_with fail
    refine (left w5 (wy.heap.size + 1) wy.heap.size _ _ M5 V5 HQ5.out (some ⟨b3, o3, none⟩) c3 D.pe (wts_of HD5.out) HT.out.p40 HT.out.okK (by rw [← HZ.out]; exact qOk_erase D.pe xh xs p)).mono ?_
    rintro e w7 ⟨v7, rfl, r7, b7⟩
    rw [HLW.out] at r7
    obtain ⟨p7, c7, e7, _⟩ := r7.wr
    subst e7
    have I8 := hid (I5.out.setPend b7 r7)
    have I7 := hid (I5.out.below b7)
    obtain ⟨w8, hw8⟩ : ∃ w8, w7.setCell ⟨w2.heap.size, 2, none⟩ (.slice p7 (D.pe.eraseIdx m).length c7) = w8 := ⟨_, rfl⟩
    rw [hw8] at I8
    have E := hid I8.out.done
    clear r7 b7 k2
    have n2 := I7.out.rn.c 2 rfl
    have n3 := I7.out.rn.f 2
    obtain ⟨k0, k1, k2, m0, m1, m2, f0, f1, f2, j0, j1, j2, j3⟩ := I8.out.cells
    go_wp2
    refine bodyPost_ret (results_row2 rfl _ _ (w.heap.size + 1) [.slice p1 D.sec.length q1, .slice p2 D.ep.length q2, .slice p7 (D.pe.eraseIdx m).length c7] _ rfl E.out.2.2 Try.underlying30 rfl (by kernel_rfl)) rfl ?_
    rw [HP1.out]
    exact ⟨_, rfl, E.out.1, E.out.2.1⟩

end Go.Proofs.Ytppjohfafnbdlak.Mem
