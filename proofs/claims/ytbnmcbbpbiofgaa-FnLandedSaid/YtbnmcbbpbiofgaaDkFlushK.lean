/-
  The walk of spec.l3Flush once more, with a word on what it leaves alone. No condition but sizes.
-/
import Derived.Test.YtbnmcbbpbiofgaaKeptMore
namespace Go.Proofs.Ytbnmcbbpbiofgaa.Mem
open Go.RowKit Classical
set_option linter.unusedVariables false

set_option maxRecDepth 100000 in
set_option maxHeartbeats 2000000 in
theorem l3FlushK (w : World) (B : Nat) (v : Value) (D : Dk) (x ep : Int) (O : DkO w B v D) (hB : B ≤ w.heap.size) (hf : D.Fit) (hd : D.Held) (hs : ∀ j, j < D.pe.length → 0 ≤ (D.pe.getD j Wt.none).sector ∧ (D.pe.getD j Wt.none).sector < (D.sec.length : Int)) :
    Calls Try.prog 35 #[v, .int .i64 x, .int .i64 ep] w fun e w' => ∃ v', e = .returned (.tuple #[v', .int .i64 (D.flush x ep).2]) ∧ DkO w' B v' (D.flush x ep).1 ∧ Below B w w' ∧ Kept (DkB v) w w' := by
  have HO := hid O
  have HF := hid hf
  have HSec := hid hs
  obtain ⟨v1, v2, v3, rfl, r1, r2, r3, _, _⟩ := O
  obtain ⟨a1, c1, e1, _⟩ := r1.wr
  obtain ⟨a2, c2, e2, i2⟩ := r2.wr
  obtain ⟨a3, c3, e3, _⟩ := r3.wr
  subst e1; subst e2; subst e3
  have d3 : D.pe.length ≤ 9223372036854775807 := hd.h3
  clear r1 r2 r3 hd hf i2 hs
  have hp : D.flush x ep = if 0 ≤ x ∧ x < 3 then (if D.ep.getD x.toNat 0 = ep then (⟨lands D.sec D.pe x, D.ep, others D.pe x⟩, 0) else (D, 2)) else (D, 1) := rfl
  generalize D.flush x ep = P at *
  have HP := hid hp
  clear hp
  obtain ⟨P1, P2⟩ := P
  simp only []
  go_enter Try.func35, Try.ntmps35
  go_wp2_with fail
  obtain ⟨wb, hwb, ez, A0, R0, B0⟩ := two_new w [.slice a1 D.sec.length c1, .slice a2 D.ep.length c2, .slice a3 D.pe.length c3] [.slice none 0 0, .slice none 0 0, .slice none 0 0] 28 28
  simp only [hwb]
  have hz : w.heap.size + 1 < wb.heap.size := R0.lt
  clear hwb ez
  refine (l3Host x wb).mono ?_
  rintro e w1 ⟨rfl, hw⟩
  subst hw
  have HO1 := hid (HO.out.below B0)
  have k0 := A0.c 0 rfl
  have k1 := A0.c 1 rfl
  have k2 := A0.c 2 rfl
  have HA := hid A0
  have HR := hid R0
  have HB := hid B0
  have m0 := HR.out.c 0 rfl
  have m1 := HR.out.c 1 rfl
  have m2 := HR.out.c 2 rfl
  have f0 := HR.out.f 0
  have f1 := HR.out.f 1
  have f2 := HR.out.f 2
  have HL := hid (show ∀ b, DkB (.agg #[.slice a1 D.sec.length c1, .slice a2 D.ep.length c2, .slice a3 D.pe.length c3]) b → b ≠ w.heap.size + 1 from fun b hb => by have := (HO.out.lt hb).2; omega)
  have HE := hid (put_end hz (HB.out.mono hB) hB HO1.out HL.out HR.out)
  clear A0 R0 B0
  by_cases g1 : ¬ (0 ≤ x ∧ x < 3)
  · have g1' := decide_eq_false g1
    have HP1 := hid (HP.out.trans (if_neg g1))
    clear g1
    go_wp2
    refine bodyPost_ret (results_row2 rfl _ _ (w.heap.size + 1) [.slice a1 D.sec.length c1, .slice a2 D.ep.length c2, .slice a3 D.pe.length c3] _ rfl HE.out.2.2 Try.underlying28 rfl (by kernel_rfl)) rfl ?_
    cases HP1.out
    exact ⟨_, rfl, HE.out.1, HE.out.2.1, kept_end (Kept.of_below HB.out) (Nat.le_succ _) _ _ _⟩
  replace g1 := Classical.not_not.mp g1
  have g1' := decide_eq_true g1
  have HP1 := hid (HP.out.trans (if_pos g1))
  have hx3 := g1.2
  obtain ⟨n, rfl⟩ : ∃ n : Nat, x = (n : Int) := Int.eq_ofNat_of_zero_le g1.1
  have hnl : n < D.ep.length := by have := HF.out.h2; have := g1.2; omega
  clear g1
  obtain ⟨_, _, _, _, _, _, ev, _, i2, _⟩ := HO1.out.w
  cases ev
  obtain ⟨b2, o2, rfl, _, hc, _⟩ := i2 n hnl
  replace hc : w1.cell? ⟨b2, o2 + n, none⟩ = some (.int .i64 (D.ep.getD n 0)) := hc
  generalize hy : D.ep.getD n 0 = y at hc
  have HY := hid hy
  clear hy i2
  by_cases g4 : ¬ y = ep
  · have HP2 := hid (HP1.out.trans (if_neg (by rw [Int.toNat_natCast, HY.out]; exact g4)))
    go_wp2
    refine bodyPost_ret (results_row2 rfl _ _ (w.heap.size + 1) [.slice a1 D.sec.length c1, .slice (some ⟨b2, o2, none⟩) D.ep.length c2, .slice a3 D.pe.length c3] _ rfl HE.out.2.2 Try.underlying28 rfl (by kernel_rfl)) rfl ?_
    cases HP2.out
    exact ⟨_, rfl, HE.out.1, HE.out.2.1, kept_end (Kept.of_below HB.out) (Nat.le_succ _) _ _ _⟩
  replace g4 := Classical.not_not.mp g4
  subst g4
  have HP2 := hid (HP1.out.trans (if_pos (by rw [Int.toNat_natCast, HY.out])))
  clear HE m0 m1 m2 f0 f1 f2
  go_wp2
  have hw1 : w.heap.size ≤ w1.heap.size := by omega
  have hB1 : B ≤ w1.heap.size := by omega
  have HAl := hid (show Below w1.heap.size w1 (w1.alloc (.cells #[] 36)) from (Below.refl _ _).alloc (Nat.le_refl _) _)
  clear k0 k1 k2 hc
  go_loopw [8, 9] (fun l i wr => ∃ k : Nat, k ≤ D.pe.length ∧ i = .int .i64 (k : Int) ∧ w1.heap.size ≤ wr.heap.size ∧ Hid (RowO wr w1.heap.size 36 4 l (others (D.pe.take k) n).length (wCells (others (D.pe.take k) n))) ∧
    Hid (DkO wr B (.agg #[.slice a1 D.sec.length c1, .slice (some ⟨b2, o2, none⟩) D.ep.length c2, .slice a3 D.pe.length c3]) ⟨lands D.sec (D.pe.take k) n, D.ep, D.pe⟩) ∧
    Hid (Row wr w.heap.size [.slice a1 D.sec.length c1, .slice (some ⟨b2, o2, none⟩) D.ep.length c2, .slice a3 D.pe.length c3]) ∧ Hid (Row wr (w.heap.size + 1) [.slice none 0 0, .slice none 0 0, .slice none 0 0]) ∧ Hid (Below B w wr) ∧ Hid (Kept (DkB (.agg #[.slice a1 D.sec.length c1, .slice (some ⟨b2, o2, none⟩) D.ep.length c2, .slice a3 D.pe.length c3])) w wr)) (fun _ i _ => D.pe.length - (intOf i).toNat)
  case atStart => exact ⟨0, Nat.zero_le _, rfl, HAl.out.size, Or.inl ⟨_, rfl, rfl, rfl⟩, HO1.out.below HAl.out, HA.out.below HAl.out HA.out.lt, HR.out.below HAl.out HR.out.lt, (HB.out.trans (HAl.out.mono HB.out.size)).mono hB, kept_below (Kept.of_below HB.out) HAl.out⟩
  case round =>
    obtain ⟨k, hk, rfl, hsz, HRo, HOr, HAr, HRr, HBr, HKr⟩ := hrel
    have k0 := HAr.out.c 0 rfl
    have k2 := HAr.out.c 2 rfl
    obtain ⟨p, d, el, _⟩ := HRo.out.wr
    subst el
    by_cases hlt : k < D.pe.length
    · obtain ⟨_, _, _, ev, r1, r2, r3, _⟩ := HOr.out
      cases ev
      obtain ⟨b3, c3', ef⟩ := r3.form (by show 0 < D.pe.length; omega)
      cases ef
      obtain ⟨_, _, ev, wr3⟩ := r3.wr
      cases ev
      have i3 : Wts wr (some ⟨b3, 0, none⟩) D.pe := wr3.sl.congr (fun i hi => wCells_at _ i hi)
      obtain ⟨_, _, ef, x0, x1, x2, x3⟩ := Wts.at_ i3 k hlt
      cases ef
      rw [Nat.zero_add] at x0 x1 x2 x3
      clear r1 r2 r3 wr3 i3
      obtain ⟨s0, s1⟩ := HSec.out k hlt
      have HOL := hid (others_le D.pe n k)
      have HY1 := hid (others_yes D.pe n k hlt)
      have HN1 := hid (others_no D.pe n k hlt)
      have HLn := hid (lands_more D.sec D.pe n k hlt)
      generalize hu : D.pe.getD k Wt.none = u at x0 x1 x2 x3 HY1 HN1 HLn s0 s1
      have HU := hid hu
      clear hu
      by_cases h1 : u.host = (n : Int)
      · have HE1 := hid (HN1.out h1)
        have HL1 := hid (HLn.out.trans (if_pos h1))
        obtain ⟨uh, ue, us, ut⟩ := u
        simp only [] at x0 x1 x2 x3 s0 s1 h1
        obtain ⟨m, rfl⟩ : ∃ m : Nat, us = (m : Int) := Int.eq_ofNat_of_zero_le s0
        have hm : m < D.sec.length := by omega
        have hml : m < (lands D.sec (D.pe.take k) n).length := by rw [lands_length]; exact hm
        have HML := hid hml
        clear hml
        obtain ⟨_, _, _, ev, r1, _⟩ := HOr.out
        cases ev
        have r1' : RowO wr B 9 1 (.slice a1 D.sec.length c1) D.sec.length (sCells (lands D.sec (D.pe.take k) n)) := by
          have h := r1
          rw [show (Dk.mk (lands D.sec (D.pe.take k) n) D.ep D.pe).sec.length = D.sec.length from lands_length _ _ _] at h
          exact h
        obtain ⟨b1, c1', ef⟩ := r1'.form (by omega)
        cases ef
        obtain ⟨_, _, ev, wr1⟩ := r1'.wr
        cases ev
        obtain ⟨_, _, ef, _, hc1, hz1⟩ := wr1 m (by omega)
        cases ef
        rw [Nat.zero_add] at hc1 hz1
        replace hc1 : ∃ z, wr.cell? ⟨b1, m, none⟩ = some z := ⟨_, hc1⟩
        obtain ⟨z1, hc1⟩ := hc1
        clear r1 r1' wr1
        have hb0 : b1 < w.heap.size := (HO.out.lt ⟨_, _, _, rfl, Or.inl rfl⟩).2
        have hb1 : B ≤ b1 := (HO.out.lt ⟨_, _, _, rfl, Or.inl rfl⟩).1
        have hne0 : b1 ≠ w.heap.size := by omega
        have hne1 : b1 ≠ w.heap.size + 1 := by omega
        have hne2 : w.heap.size ≠ b1 := by omega
        have hne3 : w.heap.size + 1 ≠ b1 := by omega
        have bd := (Below.refl (wr.setCell ⟨b1, m, none⟩ (.string ut)).heap.size (wr.setCell ⟨b1, m, none⟩ (.string ut))).drew
        have HO3 := hid ((HOr.out.setSec HML.out ut).below bd)
        have HA3 := hid ((HAr.out.other (p := ⟨b1, m, none⟩) hne2 (.string ut)).below bd (HAr.out.other (p := ⟨b1, m, none⟩) hne2 (.string ut)).lt)
        have HR3 := hid ((HRr.out.other (p := ⟨b1, m, none⟩) hne3 (.string ut)).below bd (HRr.out.other (p := ⟨b1, m, none⟩) hne3 (.string ut)).lt)
        have HB3 := hid ((below_set HBr.out b1 m (.string ut) hb1).drew)
        have HK3 := hid (kept_drew (kept_in HKr.out ⟨_, _, _, rfl, Or.inl rfl⟩ m (.string ut)))
        have HRo3 := hid ((HRo.out.kept (kept_set wr b1 m (.string ut)) (fun b e h => by have := (HRo.out.lt e).1; omega)).below bd)
        have HS3 := hid (show w1.heap.size ≤ (wr.setCell ⟨b1, m, none⟩ (.string ut)).drew.heap.size by simpa using hsz)
        clear bd
        go_wp2
        go_region
        go_wp2
        exact ⟨⟨k + 1, by omega, by go_num, HS3.out, by rw [HE1.out]; exact HRo3, by rw [HL1.out]; simpa using HO3, HA3, HR3, HB3, HK3⟩, by simp [intOf]; omega⟩
      · have HE1 := hid (HY1.out h1)
        have HL1 := hid (HLn.out.trans (if_neg h1))
        have hpl : (others (D.pe.take k) n).length + 1 ≤ 1048576 := by have := HOL.out; have := HF.out.h3; omega
        have HRa : Hid (∀ o, RowO (wr.alloc o) w1.heap.size 36 4 (.slice p (others (D.pe.take k) n).length d) (others (D.pe.take k) n).length (wCells (others (D.pe.take k) n))) := fun o => HRo.out.below ((Below.refl _ _).alloc (Nat.le_refl _) o)
        have HBa := hid (show ∀ o, w1.heap.size ≤ (wr.alloc o).heap.size from fun o => by have := lt_alloc wr o; omega)
        generalize others (D.pe.take k) n = ol at *
        go_wp2_with (at_builtin; refine wpList_app 26 36 Wt.none.val 4 40 Try.underlying26 infoW rfl (by decide) (by decide) _ rfl (.tmp 53) (.tmp 59) rfl w1.heap.size _ ol.length (wCells ol) rfl (HRa.out _) ⟨wr.heap.size, 0, none⟩ 1 1 u.cells rfl rfl (sl_lit wr u.cells 36 4 rfl) (by intro z hz; exact wCells_one [u] z (by simpa [wCells] using hz)) hpl (HBa.out _) ?_; intro v3' w2 r3' kk hi; obtain ⟨p3, d3', e3, _⟩ := r3'.wr; subst e3; have HR3 := hid r3'; have bal := (Below.refl wr.heap.size wr).alloc (Nat.le_refl _) (.cells u.cells.toArray 36); have far := fun b e => ((HRa.out (.cells #[] 0)).lt (b := b) e).1; have HK3 := hid (kept_more (kept_below HKr.out bal) kk (fun b hb e => by have := far b e; omega)); have HO3 := hid ((HOr.out.below bal).kept kk (fun b hb e => by have := (HO.out.lt hb).2; have := far b e; omega)); have HA3 := hid ((HAr.out.below bal HAr.out.lt).kept kk (fun e => by have := far _ e; omega)); have HR4 := hid ((HRr.out.below bal HRr.out.lt).kept kk (fun e => by have := far _ e; omega)); have HB3 := hid ((HBr.out.alloc (by omega) (.cells u.cells.toArray 36)).trans (kk.below (Nat.le_trans hB1 (HBa.out _)) (fun b hb e => by have := far b e; omega))); have hs2 := kk.size; have HS2 := hid (show w1.heap.size ≤ w2.heap.size from Nat.le_trans (HBa.out _) hs2); clear r3' kk hi bal far hs2)
        exact ⟨⟨k + 1, by omega, by go_num, HS2.out, by rw [HE1.out, wCells_snoc, List.length_append]; exact HR3, by rw [HL1.out]; exact HO3, HA3, HR4, HB3, HK3⟩, by simp [intOf]; omega⟩
    obtain rfl : k = D.pe.length := by omega
    have HT := hid (show others D.pe n = others (D.pe.take D.pe.length) n by rw [List.take_length])
    have HT2 := hid (show lands D.sec D.pe n = lands D.sec (D.pe.take D.pe.length) n by rw [List.take_length])
    rw [HT.out, HT2.out] at HP2
    have HO3 := hid (HOr.out.third HRo.out (by omega) (fun b hb => by
      have := (HO.out.lt (b := b) ⟨_, _, _, rfl, by rcases hb with h | h; exact Or.inl h; exact Or.inr (Or.inl h)⟩).2
      omega))
    have F0 := hid (swapped_far HO.out (Nat.le_refl _) HRo.out (by omega))
    have F1 := hid (swapped_far HO.out (Nat.le_succ _) HRo.out hz)
    generalize others (D.pe.take D.pe.length) n = ol at *
    have hz4 : w.heap.size + 1 < wr.heap.size := HRr.out.lt
    have k1 := HAr.out.c 1 rfl
    have k3 := HAr.out.f 2
    have m0 := HRr.out.c 0 rfl
    have m1 := HRr.out.c 1 rfl
    have m2 := HRr.out.c 2 rfl
    have f0 := HRr.out.f 0
    have f1 := HRr.out.f 1
    have f2 := HRr.out.f 2
    go_wp2
    have E := put_end (w2 := wr.setCell ⟨w.heap.size, 2, none⟩ (.slice p ol.length d)) (by simpa using hz4) (below_set HBr.out w.heap.size 2 _ hB) hB (HO3.out.kept (kept_set wr w.heap.size 2 _) F0.out) F1.out (HRr.out.other (by show w.heap.size + 1 ≠ w.heap.size; omega) _)
    refine bodyPost_ret (results_row2 rfl _ _ (w.heap.size + 1) [.slice a1 D.sec.length c1, .slice (some ⟨b2, o2, none⟩) D.ep.length c2, .slice p ol.length d] _ rfl E.2.2 Try.underlying28 rfl (by kernel_rfl)) rfl ?_
    cases HP2.out
    exact ⟨_, rfl, E.1, E.2.1, kept_end (kept_new HKr.out (Nat.le_refl _) 2 _) (Nat.le_succ _) _ _ _⟩

end Go.Proofs.Ytbnmcbbpbiofgaa.Mem
