/-
  The walk of spec.l3Put once more, with a word on what it leaves alone. No condition but sizes.
-/
import Derived.Test.YtbnmcbbpbiofgaaKeptMore
namespace Go.Proofs.Ytbnmcbbpbiofgaa.Mem
open Go.RowKit Classical
set_option linter.unusedVariables false

/-- The block of a disk's writes. -/
def PeB (v : Value) (b : Nat) : Prop := ∃ v1 v2 v3, v = .agg #[v1, v2, v3] ∧ rb v3 = some b
theorem PeB.dk {v : Value} {b : Nat} (h : PeB v b) : DkB v b := by
  obtain ⟨v1, v2, v3, e, h⟩ := h
  exact ⟨v1, v2, v3, e, Or.inr (Or.inr h)⟩

set_option maxRecDepth 100000 in
set_option maxHeartbeats 2000000 in
theorem l3PutK (w : World) (B : Nat) (v : Value) (D : Dk) (x ep s : Int) (t : ByteArray) (O : DkO w B v D) (hB : B ≤ w.heap.size) (hf : D.Fit) (hd : D.Held) (ht : t.size ≤ maxLen) :
    Calls Try.prog 38 #[v, .int .i64 x, .int .i64 ep, .int .i64 s, .string t] w fun e w' => ∃ v', e = .returned (.tuple #[v', .int .i64 (D.put x ep s t).2]) ∧ DkO w' B v' (D.put x ep s t).1 ∧ Below B w w' ∧ Kept (PeB v) w w' := by
  have HO := hid O
  have HD := hid hd
  have HF := hid hf
  obtain ⟨v1, v2, v3, rfl, r1, r2, r3, _, _⟩ := O
  obtain ⟨a1, c1, e1, _⟩ := r1.wr
  obtain ⟨a2, c2, e2, i2⟩ := r2.wr
  obtain ⟨a3, c3, e3, _⟩ := r3.wr
  subst e1; subst e2; subst e3
  clear r1 r2 r3 hd hf i2
  have ht' : t.size ≤ 9223372036854775807 := ht
  have hp : D.put x ep s t = if ((0 ≤ x ∧ x < 3) ∧ 0 ≤ s ∧ s < (D.sec.length : Int)) ∧ (t.size : Int) ≤ 700 then (if D.ep.getD x.toNat 0 = ep then (if (D.pe.length : Int) < 40 then (⟨D.sec, D.ep, D.pe ++ [⟨x, ep, s, t⟩]⟩, 0) else (D, 3)) else (D, 2)) else (D, 1) := rfl
  generalize D.put x ep s t = P at *
  have HP := hid hp
  clear hp ht
  obtain ⟨P1, P2⟩ := P
  simp only []
  go_enter Try.func38, Try.ntmps38
  go_wp2_with fail
  obtain ⟨wb, hwb, ez, A0, R0, B0⟩ := two_new w [.slice a1 D.sec.length c1, .slice a2 D.ep.length c2, .slice a3 D.pe.length c3] [.slice none 0 0, .slice none 0 0, .slice none 0 0] 28 28
  simp only [hwb]
  clear hwb
  refine (l3There wb _ D (HO.out.below B0).read HD.out x s).mono ?_
  rintro e w1 ⟨rfl, b1⟩
  have HA := hid (A0.below b1 A0.lt)
  have HR := hid (R0.below b1 R0.lt)
  have HB := hid (B0.trans (b1.mono B0.size))
  have HO1 := hid (HO.out.below HB.out)
  have hz : w.heap.size + 1 < w1.heap.size := HR.out.lt
  have k0 := HA.out.c 0 rfl
  have k1 := HA.out.c 1 rfl
  have k2 := HA.out.c 2 rfl
  have m0 := HR.out.c 0 rfl
  have m1 := HR.out.c 1 rfl
  have m2 := HR.out.c 2 rfl
  have f0 := HR.out.f 0
  have f1 := HR.out.f 1
  have f2 := HR.out.f 2
  have HL := hid (show ∀ b, DkB (.agg #[.slice a1 D.sec.length c1, .slice a2 D.ep.length c2, .slice a3 D.pe.length c3]) b → b ≠ w.heap.size + 1 from fun b hb => by have := (HO.out.lt hb).2; omega)
  have HE := hid (put_end hz (HB.out.mono hB) hB HO1.out HL.out HR.out)
  clear A0 R0 B0 b1
  by_cases g1 : ¬ (D.There x s ∧ (t.size : Int) ≤ 700)
  · have HP1 := hid (HP.out.trans (if_neg g1))
    by_cases g2 : D.There x s
    · have g2' := decide_eq_true g2
      have g3 : 700 < (t.size : Int) := Int.not_le.mp (fun q => g1 ⟨g2, q⟩)
      clear g1 g2
      go_wp2
      refine bodyPost_ret (results_row2 rfl _ _ (w.heap.size + 1) [.slice a1 D.sec.length c1, .slice a2 D.ep.length c2, .slice a3 D.pe.length c3] _ rfl HE.out.2.2 Try.underlying28 rfl (by kernel_rfl)) rfl ?_
      cases HP1.out
      exact ⟨_, rfl, HE.out.1, HE.out.2.1, kept_end (Kept.of_below HB.out) (Nat.le_succ _) _ _ _⟩
    · have g2' := decide_eq_false g2
      clear g1 g2
      go_wp2
      refine bodyPost_ret (results_row2 rfl _ _ (w.heap.size + 1) [.slice a1 D.sec.length c1, .slice a2 D.ep.length c2, .slice a3 D.pe.length c3] _ rfl HE.out.2.2 Try.underlying28 rfl (by kernel_rfl)) rfl ?_
      cases HP1.out
      exact ⟨_, rfl, HE.out.1, HE.out.2.1, kept_end (Kept.of_below HB.out) (Nat.le_succ _) _ _ _⟩
  replace g1 := Classical.not_not.mp g1
  have HP1 := hid (HP.out.trans (if_pos g1))
  have g2' := decide_eq_true g1.1
  have g3 : ¬ 700 < (t.size : Int) := by have := g1.2; omega
  obtain ⟨n, rfl⟩ : ∃ n : Nat, x = (n : Int) := Int.eq_ofNat_of_zero_le g1.1.1.1
  have hn3 : (n : Int) < 3 := g1.1.1.2
  have hnl : n < D.ep.length := by have := HF.out.h2; omega
  clear g1
  obtain ⟨_, _, _, _, _, _, ev, _, i2, _⟩ := HO1.out.w
  cases ev
  obtain ⟨b2, o2, rfl, _, hc, _⟩ := i2 n hnl
  replace hc : w1.cell? ⟨b2, o2 + n, none⟩ = some (.int .i64 (D.ep.getD n 0)) := hc
  generalize hy : D.ep.getD n 0 = y at hc
  have HY := hid hy
  clear hy i2
  by_cases g4 : ¬ y = ep
  · have HP2 := hid (HP1.out.trans (if_neg (by rw [Int.toNat_natCast, HY.out]; exact g4)))
    go_wp2
    refine bodyPost_ret (results_row2 rfl _ _ (w.heap.size + 1) [.slice a1 D.sec.length c1, .slice (some ⟨b2, o2, none⟩) D.ep.length c2, .slice a3 D.pe.length c3] _ rfl HE.out.2.2 Try.underlying28 rfl (by kernel_rfl)) rfl ?_
    cases HP2.out
    exact ⟨_, rfl, HE.out.1, HE.out.2.1, kept_end (Kept.of_below HB.out) (Nat.le_succ _) _ _ _⟩
  replace g4 := Classical.not_not.mp g4
  subst g4
  have HP2 := hid (HP1.out.trans (if_pos (by rw [Int.toNat_natCast, HY.out])))
  by_cases g5 : 40 ≤ (D.pe.length : Int)
  · have HP3 := hid (HP2.out.trans (if_neg (by omega)))
    go_wp2
    refine bodyPost_ret (results_row2 rfl _ _ (w.heap.size + 1) [.slice a1 D.sec.length c1, .slice (some ⟨b2, o2, none⟩) D.ep.length c2, .slice a3 D.pe.length c3] _ rfl HE.out.2.2 Try.underlying28 rfl (by kernel_rfl)) rfl ?_
    cases HP3.out
    exact ⟨_, rfl, HE.out.1, HE.out.2.1, kept_end (Kept.of_below HB.out) (Nat.le_succ _) _ _ _⟩
  have HP3 := hid (HP2.out.trans (if_pos (by omega)))
  have HR3 : Hid (∀ o, RowO (w1.alloc o) B 36 4 (.slice a3 D.pe.length c3) D.pe.length (wCells D.pe)) := fun o => by
    obtain ⟨_, _, _, ev, _, _, r3, _, _⟩ := HO1.out
    cases ev
    exact r3.below ((Below.refl _ _).alloc (Nat.le_refl _) o)
  have hpl : D.pe.length + 1 ≤ 1048576 := by have := HF.out.h3; omega
  have hBa : ∀ o, B ≤ (w1.alloc o).heap.size := fun o => by have := lt_alloc w1 o; omega
  have HBa := hid hBa
  clear HE m0 m1 m2 f0 f1 f2 k0 hBa
  have HN0 := hid (show ¬ rb (.slice a3 D.pe.length c3) = some w.heap.size from fun e => by have := (HO.out.lt ⟨_, _, _, rfl, Or.inr (Or.inr e)⟩).2; omega)
  have HN1 := hid (show ¬ rb (.slice a3 D.pe.length c3) = some (w.heap.size + 1) from fun e => by have := (HO.out.lt ⟨_, _, _, rfl, Or.inr (Or.inr e)⟩).2; omega)
  have HN2 := hid (show ∀ b, rb (.slice a3 D.pe.length c3) = some b → B ≤ b from fun b e => (HO.out.lt ⟨_, _, _, rfl, Or.inr (Or.inr e)⟩).1)
  go_wp2_with (at_builtin; refine wpList_app 26 36 Wt.none.val 4 40 Try.underlying26 infoW rfl (by decide) (by decide) _ rfl (.tmp 40) (.tmp 46) rfl B _ D.pe.length (wCells D.pe) rfl (HR3.out _) ⟨w1.heap.size, 0, none⟩ 1 1 (Wt.mk n y s t).cells rfl rfl (sl_lit w1 (Wt.mk n y s t).cells 36 4 rfl) (by intro u hu; exact wCells_one [Wt.mk n y s t] u (by simpa [wCells] using hu)) hpl (HBa.out _) ?_; intro v3' w2 r3' kk hi; obtain ⟨p3, d3, e3, _⟩ := r3'.wr; subst e3; have HA2 := hid ((HA.out.alloc _).kept kk HN0.out); have HR2 := hid ((HR.out.alloc _).kept kk HN1.out); have HO2 := hid (HO1.out.more1 ((Below.refl _ _).alloc (Nat.le_refl _) _) kk r3' hi); have HB2 := hid (((HB.out.mono hB).trans ((Below.refl B w1).alloc (Nat.le_trans hB HB.out.size) _)).trans (kk.below (HBa.out _) (fun b hb e => by have := HN2.out b e; omega))); have HI := hid hi; have hz2 := HR2.out.lt; have n0 := HA2.out.c 0 rfl; have n1 := HA2.out.c 1 rfl; have n2 := HA2.out.c 2 rfl; have n3 := HA2.out.f 2; have m0 := HR2.out.c 0 rfl; have m1 := HR2.out.c 1 rfl; have m2 := HR2.out.c 2 rfl; have f0 := HR2.out.f 0; have f1 := HR2.out.f 1; have f2 := HR2.out.f 2; have HKK := hid kk; clear r3' kk hi k1 k2 hc)
  have hal := lt_alloc w1 (.cells #[.int .i64 n, .int .i64 y, .int .i64 s, .string t] 36)
  have F0 := more_far HO.out (Nat.le_refl _) (by omega) HI.out
  have F1 := more_far HO.out (Nat.le_succ _) (by omega) HI.out
  have E := put_end (w2 := w2.setCell ⟨w.heap.size, 2, none⟩ (.slice p3 (D.pe.length + 1) d3)) (by simpa using hz2) (below_set HB2.out w.heap.size 2 _ hB) hB (HO2.out.kept (kept_set w2 w.heap.size 2 _) F0) F1 (HR2.out.other (by show w.heap.size + 1 ≠ w.heap.size; omega) _)
  refine bodyPost_ret (results_row2 rfl _ _ (w.heap.size + 1) [.slice a1 D.sec.length c1, .slice (some ⟨b2, o2, none⟩) D.ep.length c2, .slice p3 (D.pe.length + 1) d3] _ rfl E.2.2 Try.underlying28 rfl (by kernel_rfl)) rfl ?_
  cases HP3.out
  exact ⟨_, rfl, E.1, E.2.1, kept_end (kept_new (kept_more (kept_below (Kept.of_below HB.out) ((Below.refl _ w1).alloc (Nat.le_refl _) _)) HKK.out (fun b _ e => ⟨_, _, _, rfl, e⟩)) (Nat.le_refl _) 2 _) (Nat.le_succ _) _ _ _⟩

end Go.Proofs.Ytbnmcbbpbiofgaa.Mem
