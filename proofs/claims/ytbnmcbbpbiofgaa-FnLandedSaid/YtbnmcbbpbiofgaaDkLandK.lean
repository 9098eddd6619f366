/-
  The walk of spec.l3Land once more, with a word on what it leaves alone. No condition but sizes.
-/
import Derived.Test.YtbnmcbbpbiofgaaKeptMore
namespace Go.Proofs.Ytbnmcbbpbiofgaa.Mem
open Go.RowKit Classical
set_option linter.unusedVariables false

set_option maxRecDepth 100000 in
set_option maxHeartbeats 2000000 in
theorem l3LandK (w : World) (B : Nat) (v : Value) (D : Dk) (i : Int) (O : DkO w B v D) (hB : B ≤ w.heap.size) (hf : D.Fit) (hd : D.Held) (hs : ∀ j, j < D.pe.length → 0 ≤ (D.pe.getD j Wt.none).sector ∧ (D.pe.getD j Wt.none).sector < (D.sec.length : Int)) :
    Calls Try.prog 37 #[v, .int .i64 i] w fun e w' => ∃ v', e = .returned (.tuple #[v', .bool (D.land i).2]) ∧ DkO w' B v' (D.land i).1 ∧ Below B w w' ∧ Kept (DkB v) w w' := by
  have HO := hid O
  have HD := hid hd
  have HF := hid hf
  have HS := hid hs
  obtain ⟨v1, v2, v3, rfl, r1, r2, r3, _, _⟩ := O
  obtain ⟨a1, c1, e1, _⟩ := r1.wr
  obtain ⟨a2, c2, e2, i2⟩ := r2.wr
  obtain ⟨a3, c3, e3, _⟩ := r3.wr
  subst e1; subst e2; subst e3
  have d3 : D.pe.length ≤ 9223372036854775807 := hd.h3
  clear r1 r2 r3 hd hf i2 hs
  have hp : D.CanLand i → D.land i = (⟨D.sec.set (D.pe.getD i.toNat Wt.none).sector.toNat (D.pe.getD i.toNat Wt.none).text, D.ep, D.pe.eraseIdx i.toNat⟩, true) := fun h => by unfold Dk.land; exact if_pos h
  have hp' : ¬ D.CanLand i → D.land i = (D, false) := fun h => by unfold Dk.land; exact if_neg h
  generalize D.land i = P at *
  have HP := hid hp
  have HN := hid hp'
  clear hp hp'
  obtain ⟨P1, P2⟩ := P
  simp only []
  obtain ⟨wb, hwb, ez, A0, R0, B0⟩ := two_new w [.slice a1 D.sec.length c1, .slice a2 D.ep.length c2, .slice a3 D.pe.length c3] [.slice none 0 0, .slice none 0 0, .slice none 0 0] 28 28
  have HO1 := hid (HO.out.below B0)
  have hz : w.heap.size + 1 < wb.heap.size := R0.lt
  have hez : wb.heap.size ≤ w.heap.size + 1 + 1 := by omega
  clear ez
  have k0 := A0.c 0 rfl
  have k1 := A0.c 1 rfl
  have k2 := A0.c 2 rfl
  have HA := hid A0
  have HR := hid R0
  have HB := hid B0
  have m0 := HR.out.c 0 rfl
  have m1 := HR.out.c 1 rfl
  have m2 := HR.out.c 2 rfl
  have f0 := HR.out.f 0
  have f1 := HR.out.f 1
  have f2 := HR.out.f 2
  have HL := hid (show ∀ b, DkB (.agg #[.slice a1 D.sec.length c1, .slice a2 D.ep.length c2, .slice a3 D.pe.length c3]) b → b ≠ w.heap.size + 1 from fun b hb => by have := (HO.out.lt hb).2; omega)
  have HE := hid (put_end hz (HB.out.mono hB) hB HO1.out HL.out HR.out)
  clear A0 R0 B0
  by_cases g1 : i < 0
  · have HP1 := hid (HN.out (fun z => by have := z.1; omega))
    go_enter Try.func37, Try.ntmps37
    go_wp2
    refine bodyPost_ret (results_row2 rfl _ _ (w.heap.size + 1) [.slice a1 D.sec.length c1, .slice a2 D.ep.length c2, .slice a3 D.pe.length c3] _ rfl HE.out.2.2 Try.underlying28 rfl (by kernel_rfl)) rfl ?_
    cases HP1.out
    exact ⟨_, rfl, HE.out.1, HE.out.2.1, kept_end (Kept.of_below HB.out) (Nat.le_succ _) _ _ _⟩
  have g1' := decide_eq_false g1
  by_cases g2 : (D.pe.length : Int) ≤ i
  · have HP1 := hid (HN.out (fun z => by have := z.2.1; omega))
    go_enter Try.func37, Try.ntmps37
    go_wp2
    refine bodyPost_ret (results_row2 rfl _ _ (w.heap.size + 1) [.slice a1 D.sec.length c1, .slice a2 D.ep.length c2, .slice a3 D.pe.length c3] _ rfl HE.out.2.2 Try.underlying28 rfl (by kernel_rfl)) rfl ?_
    cases HP1.out
    exact ⟨_, rfl, HE.out.1, HE.out.2.1, kept_end (Kept.of_below HB.out) (Nat.le_succ _) _ _ _⟩
  have g2' := decide_eq_false g2
  obtain ⟨n, rfl⟩ : ∃ n : Nat, i = (n : Int) := Int.eq_ofNat_of_zero_le (by omega)
  have hn : n < D.pe.length := by omega
  obtain ⟨_, _, _, ev, _, _, r3, _⟩ := HO1.out
  cases ev
  obtain ⟨b3, c3', ef⟩ := r3.form (by omega)
  cases ef
  have HC3 := hid r3.cap
  clear r3
  obtain ⟨_, _, _, _, _, _, ev, _, _, i3⟩ := HO1.out.read
  cases ev
  obtain ⟨_, _, ef, x0, x1, x2, x3⟩ := Wts.at_ i3 n hn
  cases ef
  rw [Nat.zero_add] at x0 x1 x2 x3
  obtain ⟨s0, s1⟩ := HS.out n hn
  generalize hu : D.pe.getD n Wt.none = u at x0 x1 x2 x3 s0 s1
  have HU := hid hu
  obtain ⟨uh, ue, us, ut⟩ := u
  simp only [] at x0 x1 x2 x3 s0 s1
  have HI3 := hid i3
  clear hu i3
  go_enter Try.func37, Try.ntmps37
  go_wp2
  obtain ⟨wx, hwx, ex, X0, BX⟩ := one_new wb [.int .i64 uh, .int .i64 ue, .int .i64 us, .string ut] 36
  simp only [hwx]
  clear hwx hwb ex
  have HX := hid X0
  have HBX := hid BX
  clear X0 BX x0 x1 x2 x3 k0 k1 k2 m0 m1 m2 f0 f1 f2 HE
  go_loopw [7] (fun q wr => ∃ k : Nat, k ≤ n ∧ q = .int .i64 (k : Int) ∧ Hid (∀ j, j < k → ¬ ((D.pe.getD j Wt.none).host = uh ∧ (D.pe.getD j Wt.none).sector = us)) ∧ Hid (Below wx.heap.size wx wr)) (fun q _ => n - (intOf q).toNat)
  case atStart => exact ⟨0, Nat.zero_le _, rfl, fun j hj => by omega, Below.refl _ _⟩
  case round =>
    obtain ⟨k, hk, rfl, HJ, HBr⟩ := hrel
    have HBb := hid (HBX.out.trans (HBr.out.mono HBX.out.size))
    have HA2 := hid (HA.out.below HBb.out HA.out.lt)
    have HR2 := hid (HR.out.below HBb.out HR.out.lt)
    have HX2 := hid (HX.out.below HBr.out HX.out.lt)
    have HO2 := hid (HO1.out.below HBb.out)
    have HBw := hid (HB.out.trans (HBb.out.mono HB.out.size))
    have k2 := HA2.out.c 2 rfl
    have y0 := HX2.out.c 0 rfl
    have y2 := HX2.out.c 2 rfl
    by_cases hlt : k < n
    · obtain ⟨_, _, ef, x0, x1, x2, x3⟩ := Wts.at_ (HI3.out.below HBb.out) k (by omega)
      cases ef
      rw [Nat.zero_add] at x0 x1 x2 x3
      have hkl : k < D.pe.length := by omega
      generalize hu : D.pe.getD k Wt.none = u at x0 x1 x2 x3
      have HUk := hid hu
      clear hu
      by_cases h1 : u.host = uh
      · by_cases h2 : u.sector = us
        · have HP1 := hid (HN.out (fun z => z.2.2 k (by simpa using hlt) (by rw [Int.toNat_natCast, HU.out, HUk.out]; exact ⟨h1, h2⟩)))
          have h1' := decide_eq_true h1
          have h2' := decide_eq_true h2
          have k0 := HA2.out.c 0 rfl
          have k1 := HA2.out.c 1 rfl
          have m0 := HR2.out.c 0 rfl
          have m1 := HR2.out.c 1 rfl
          have m2 := HR2.out.c 2 rfl
          have f0 := HR2.out.f 0
          have f1 := HR2.out.f 1
          have f2 := HR2.out.f 2
          go_wp2
          go_quiet (fail)
          have hzr : w.heap.size + 1 < (wr.drewN nq).heap.size := HR2.out.lt
          have E := hid (put_end hzr (below_drewN (HBw.out.mono hB) nq) hB (HO2.out.below (below_drewN (Below.refl _ _) nq)) HL.out (HR2.out.below (below_drewN (Below.refl wr.heap.size wr) nq) HR2.out.lt))
          go_wp2
          refine bodyPost_ret (results_row2 rfl _ _ (w.heap.size + 1) [.slice a1 D.sec.length c1, .slice a2 D.ep.length c2, .slice (some ⟨b3, 0, none⟩) D.pe.length (c3' + 1)] _ rfl E.out.2.2 Try.underlying28 rfl (by kernel_rfl)) rfl ?_
          cases HP1.out
          exact ⟨_, rfl, E.out.1, E.out.2.1, kept_end (Kept.of_below (below_drewN HBw.out nq)) (Nat.le_succ _) _ _ _⟩
        · have h2' := decide_eq_false h2
          have h1' := decide_eq_true h1
          have HH := hid h2
          go_wp2
          go_quiet (fail)
          go_wp2
          exact ⟨⟨k + 1, by omega, by go_num, fun j hj => by
            by_cases h : j = k
            · subst h; rw [HUk.out]; exact fun z => HH.out z.2
            · exact HJ.out j (by omega), below_drewN HBr.out nq⟩, by simp [intOf]; omega⟩
      · have h1' := decide_eq_false h1
        have HH := hid h1
        go_wp2
        go_quiet (fail)
        go_wp2
        exact ⟨⟨k + 1, by omega, by go_num, fun j hj => by
          by_cases h : j = k
          · subst h; rw [HUk.out]; exact fun z => HH.out z.1
          · exact HJ.out j (by omega), below_drewN HBr.out nq⟩, by simp [intOf]; omega⟩
    obtain rfl : k = n := by omega
    have HP1 := hid (HP.out ⟨by omega, by omega, fun j hj => by
      rw [Int.toNat_natCast] at hj
      rw [Int.toNat_natCast, HU.out]
      exact HJ.out j hj⟩)
    rw [Int.toNat_natCast, HU.out] at HP1
    obtain ⟨m, rfl⟩ : ∃ m : Nat, us = (m : Int) := Int.eq_ofNat_of_zero_le s0
    have hm : m < D.sec.length := by omega
    obtain ⟨_, _, _, ev, r1, _⟩ := HO2.out
    cases ev
    obtain ⟨b1, c1', ef⟩ := r1.form (by omega)
    cases ef
    clear r1
    obtain ⟨_, _, _, _, _, _, ev, i1, _⟩ := HO2.out.w
    cases ev
    obtain ⟨_, _, ef, _, hc1, hz1⟩ := i1 m hm
    cases ef
    rw [Nat.zero_add] at hc1 hz1
    have hb0 : b1 < w.heap.size := (HO.out.lt ⟨_, _, _, rfl, Or.inl rfl⟩).2
    have hb1 : B ≤ b1 := (HO.out.lt ⟨_, _, _, rfl, Or.inl rfl⟩).1
    have hne0 : b1 ≠ w.heap.size := by omega
    have hne1 : b1 ≠ w.heap.size + 1 := by omega
    have hne2 : w.heap.size ≠ b1 := by omega
    have hne3 : w.heap.size + 1 ≠ b1 := by omega
    have hne4 : b1 ≠ wb.heap.size := by omega
    have hne5 : wb.heap.size ≠ b1 := by omega
    have HO3 := hid (HO2.out.setSec hm ut)
    have HA3 := hid (HA2.out.other (p := ⟨b1, m, none⟩) hne2 (.string ut))
    have HR3 := hid (HR2.out.other (p := ⟨b1, m, none⟩) hne3 (.string ut))
    have HB3 := hid (below_set (HBw.out.mono hB) b1 m (.string ut) hb1)
    have HK3 := hid (kept_in (S := DkB (.agg #[.slice (some ⟨b1, 0, none⟩) D.sec.length (c1' + 1), .slice a2 D.ep.length c2, .slice (some ⟨b3, 0, none⟩) D.pe.length (c3' + 1)])) (Kept.of_below HBw.out) ⟨_, _, _, rfl, Or.inl rfl⟩ m (.string ut))
    have hzr : w.heap.size + 1 < (wr.setCell ⟨b1, m, none⟩ (.string ut)).heap.size := HR3.out.lt
    have y3 := HX2.out.c 3 rfl
    have k0 := HA2.out.c 0 rfl
    clear i1
    go_wp2_with fail
    generalize wr.setCell ⟨b1, m, none⟩ (.string ut) = wq at *
    clear hc1 hz1 y0 y2 y3 k0 k2
    obtain ⟨_, _, _, ev, _, _, r3, _⟩ := HO3.out
    cases ev
    obtain ⟨_, _, ev, wr3⟩ := r3.wr
    cases ev
    have i3' : Wts wq (some ⟨b3, 0, none⟩) D.pe := wr3.sl.congr (fun i hi => wCells_at _ i hi)
    clear r3 wr3
    refine (l3Without wq b3 0 (c3' + 1) D.pe k i3' hn HF.out.h3 HC3.out.1 HC3.out.2).mono ?_
    rintro e w4 ⟨v4, rfl, r4, b4⟩
    obtain ⟨p4, d4, e4, _⟩ := r4.wr
    subst e4
    have hBq : B ≤ wq.heap.size := by omega
    have HO4 := hid (HO3.out.swapped b4 hBq r4)
    have HA4 := hid (HA3.out.below b4 HA3.out.lt)
    have HR4 := hid (HR3.out.below b4 HR3.out.lt)
    have HB4 := hid (HB3.out.trans (b4.mono hBq))
    have HK4 := hid (kept_below HK3.out b4)
    have F0 := hid (swapped_far HO.out (Nat.le_refl _) r4 (by omega))
    have F1 := hid (swapped_far HO.out (Nat.le_succ _) r4 hzr)
    have hz4 : w.heap.size + 1 < w4.heap.size := HR4.out.lt
    have k0 := HA4.out.c 0 rfl
    have k1 := HA4.out.c 1 rfl
    have k2 := HA4.out.c 2 rfl
    have k3 := HA4.out.f 2
    have m0 := HR4.out.c 0 rfl
    have m1 := HR4.out.c 1 rfl
    have m2 := HR4.out.c 2 rfl
    have f0 := HR4.out.f 0
    have f1 := HR4.out.f 1
    have f2 := HR4.out.f 2
    clear r4 b4 i3'
    go_wp2
    have E := put_end (w2 := w4.setCell ⟨w.heap.size, 2, none⟩ (.slice p4 (D.pe.eraseIdx k).length d4)) (by simpa using hz4) (below_set HB4.out w.heap.size 2 _ hB) hB (HO4.out.kept (kept_set w4 w.heap.size 2 _) F0.out) F1.out (HR4.out.other (by show w.heap.size + 1 ≠ w.heap.size; omega) _)
    refine bodyPost_ret (results_row2 rfl _ _ (w.heap.size + 1) [.slice (some ⟨b1, 0, none⟩) D.sec.length (c1' + 1), .slice a2 D.ep.length c2, .slice p4 (D.pe.eraseIdx k).length d4] _ rfl E.2.2 Try.underlying28 rfl (by kernel_rfl)) rfl ?_
    cases HP1.out
    exact ⟨_, rfl, E.1, E.2.1, kept_end (kept_new HK4.out (Nat.le_refl _) 2 _) (Nat.le_succ _) _ _ _⟩

end Go.Proofs.Ytbnmcbbpbiofgaa.Mem
