/-
  The walk of spec.l3Fence: a host's epoch is one more on a disk of the call's own, and its writes are gone, or a refusal. No condition but three epochs and lengths of at most 2^19.
-/
import Derived.Test.YtbnmcbbpbiofgaaDkLand
namespace Go.Proofs.Ytbnmcbbpbiofgaa.Mem
open Go.RowKit
set_option linter.unusedVariables false

/-- The writes of other hosts. -/
def others (l : List Wt) (h : Int) : List Wt := l.filter (fun x => decide (x.host ≠ h))

theorem take_more (l : List Wt) (k : Nat) (h : k < l.length) : l.take (k + 1) = l.take k ++ [l.getD k Wt.none] := by
  rw [List.take_add_one, List.getElem?_eq_getElem h, List.getD_eq_getElem?_getD, List.getElem?_eq_getElem h]
  rfl
theorem others_no (l : List Wt) (h : Int) (k : Nat) (hk : k < l.length) (he : (l.getD k Wt.none).host = h) : others (l.take (k + 1)) h = others (l.take k) h := by
  unfold others
  rw [take_more l k hk, List.filter_append]
  generalize l.getD k Wt.none = y at he ⊢
  simp [he]
theorem others_yes (l : List Wt) (h : Int) (k : Nat) (hk : k < l.length) (he : ¬ (l.getD k Wt.none).host = h) : others (l.take (k + 1)) h = others (l.take k) h ++ [l.getD k Wt.none] := by
  unfold others
  rw [take_more l k hk, List.filter_append]
  generalize l.getD k Wt.none = y at he ⊢
  simp [he]
theorem others_le (l : List Wt) (h : Int) (k : Nat) : (others (l.take k) h).length ≤ l.length := by
  unfold others
  exact Nat.le_trans (List.length_filter_le _ _) (by rw [List.length_take]; omega)

/-- What Fence makes of a right disk. -/
def Dk.fence (D : Dk) (h : Int) : Dk × Bool :=
  if (0 ≤ h ∧ h < 3) ∧ D.ep.getD h.toNat 0 < 100000 then (⟨D.sec, D.ep.set h.toNat (D.ep.getD h.toNat 0 + 1), others D.pe h⟩, true) else (D, false)

theorem iCells_set (l : List Int) (i : Nat) (z : Int) : iCells (l.set i z) = (iCells l).set i (.int .i64 z) := by unfold iCells; rw [List.map_set]

/-- An epoch of a disk of the call's own is stored. -/
theorem DkO.setEp {w : World} {B : Nat} {v1 v3 : Value} {g n cap i : Nat} {D : Dk} (O : DkO w B (.agg #[v1, .slice (some ⟨g, 0, none⟩) n (cap + 1), v3]) D) (hi : i < D.ep.length) (z : Int) :
    DkO (w.setCell ⟨g, i, none⟩ (.int .i64 z)) B (.agg #[v1, .slice (some ⟨g, 0, none⟩) n (cap + 1), v3]) ⟨D.sec, D.ep.set i z, D.pe⟩ := by
  obtain ⟨_, _, _, e, r1, r2, r3, f1, f2⟩ := O
  cases e
  have hn : n = D.ep.length := by
    obtain ⟨_, _, e, _⟩ := r2.wr
    cases e; rfl
  subst hn
  refine ⟨_, _, _, rfl, r1.kept (kept_set w g i _) (fun b hb e => ?_), ?_, r3.kept (kept_set w g i _) (fun b hb e => ?_), f1, f2⟩
  · subst e; exact (f1 b hb).1 rfl
  · have h := r2.set i (by omega) (.int .i64 z)
    rw [← iCells_set] at h
    show RowO _ _ _ _ _ (D.ep.set i z).length _
    rw [List.length_set]
    exact h
  · subst e; exact f2 b rfl hb

set_option maxRecDepth 100000 in
set_option maxHeartbeats 2000000 in
theorem l3Fence (w : World) (B : Nat) (v : Value) (D : Dk) (x : Int) (O : DkO w B v D) (hB : B ≤ w.heap.size) (hf : D.Fit) (hd : D.Held) (he : ∀ j, j < D.ep.length → 1 ≤ D.ep.getD j 0) :
    Calls Try.prog 36 #[v, .int .i64 x] w fun e w' => ∃ v', e = .returned (.tuple #[v', .bool (D.fence x).2]) ∧ DkO w' B v' (D.fence x).1 ∧ Below B w w' := by
  have HO := hid O
  have HF := hid hf
  obtain ⟨v1, v2, v3, rfl, r1, r2, r3, _, _⟩ := O
  obtain ⟨a1, c1, e1, _⟩ := r1.wr
  obtain ⟨a2, c2, e2, i2⟩ := r2.wr
  obtain ⟨a3, c3, e3, _⟩ := r3.wr
  subst e1; subst e2; subst e3
  have d3 : D.pe.length ≤ 9223372036854775807 := hd.h3
  have HEp := hid he
  clear r1 r2 r3 hd hf i2 he
  have hp : D.fence x = if (0 ≤ x ∧ x < 3) ∧ D.ep.getD x.toNat 0 < 100000 then (⟨D.sec, D.ep.set x.toNat (D.ep.getD x.toNat 0 + 1), others D.pe x⟩, true) else (D, false) := rfl
  generalize D.fence x = P at *
  have HP := hid hp
  clear hp
  obtain ⟨P1, P2⟩ := P
  simp only []
  go_enter Try.func36, Try.ntmps36
  go_wp2_with fail
  obtain ⟨wb, hwb, ez, A0, R0, B0⟩ := two_new w [.slice a1 D.sec.length c1, .slice a2 D.ep.length c2, .slice a3 D.pe.length c3] [.slice none 0 0, .slice none 0 0, .slice none 0 0] 28 28
  simp only [hwb]
  have hz : w.heap.size + 1 < wb.heap.size := R0.lt
  clear hwb ez
  refine (l3Host x wb).mono ?_
  rintro e w1 ⟨rfl, hw⟩
  subst hw
  have HO1 := hid (HO.out.below B0)
  have k0 := A0.c 0 rfl
  have k1 := A0.c 1 rfl
  have k2 := A0.c 2 rfl
  have HA := hid A0
  have HR := hid R0
  have HB := hid B0
  have m0 := HR.out.c 0 rfl
  have m1 := HR.out.c 1 rfl
  have m2 := HR.out.c 2 rfl
  have f0 := HR.out.f 0
  have f1 := HR.out.f 1
  have f2 := HR.out.f 2
  have HL := hid (show ∀ b, DkB (.agg #[.slice a1 D.sec.length c1, .slice a2 D.ep.length c2, .slice a3 D.pe.length c3]) b → b ≠ w.heap.size + 1 from fun b hb => by have := (HO.out.lt hb).2; omega)
  have HE := hid (put_end hz (HB.out.mono hB) hB HO1.out HL.out HR.out)
  clear A0 R0 B0
  by_cases g1 : ¬ (0 ≤ x ∧ x < 3)
  · have g1' := decide_eq_false g1
    have HP1 := hid (HP.out.trans (if_neg (fun z => g1 z.1)))
    clear g1
    go_wp2
    refine bodyPost_ret (results_row2 rfl _ _ (w.heap.size + 1) [.slice a1 D.sec.length c1, .slice a2 D.ep.length c2, .slice a3 D.pe.length c3] _ rfl HE.out.2.2 Try.underlying28 rfl (by kernel_rfl)) rfl ?_
    cases HP1.out
    exact ⟨_, rfl, HE.out.1, HE.out.2.1⟩
  replace g1 := Classical.not_not.mp g1
  have g1' := decide_eq_true g1
  have HG1 := hid g1
  have hx3 := g1.2
  obtain ⟨n, rfl⟩ : ∃ n : Nat, x = (n : Int) := Int.eq_ofNat_of_zero_le g1.1
  have hnl : n < D.ep.length := by have := HF.out.h2; have := g1.2; omega
  clear g1
  obtain ⟨_, _, _, ev, _, r2, _⟩ := HO1.out
  cases ev
  obtain ⟨b2, c2', ef⟩ := r2.form (by omega)
  cases ef
  clear r2
  obtain ⟨_, _, _, _, _, _, ev, _, i2, _⟩ := HO1.out.w
  cases ev
  obtain ⟨_, _, ef, _, hc, hz2⟩ := i2 n hnl
  cases ef
  replace hc : w1.cell? ⟨b2, 0 + n, none⟩ = some (.int .i64 (D.ep.getD n 0)) := hc
  rw [Nat.zero_add] at hc hz2
  have hy1 := HEp.out n hnl
  generalize hy : D.ep.getD n 0 = y at hc hy1
  have HY := hid hy
  clear hy i2
  by_cases g2 : 100000 ≤ y
  · have HP1 := hid (HP.out.trans (if_neg (fun z => by have := z.2; rw [Int.toNat_natCast, HY.out] at this; omega)))
    go_wp2
    refine bodyPost_ret (results_row2 rfl _ _ (w.heap.size + 1) [.slice a1 D.sec.length c1, .slice (some ⟨b2, 0, none⟩) D.ep.length (c2' + 1), .slice a3 D.pe.length c3] _ rfl HE.out.2.2 Try.underlying28 rfl (by kernel_rfl)) rfl ?_
    cases HP1.out
    exact ⟨_, rfl, HE.out.1, HE.out.2.1⟩
  have g2' := decide_eq_false g2
  have HP1 := hid (HP.out.trans (if_pos ⟨HG1.out, by rw [Int.toNat_natCast, HY.out]; omega⟩))
  rw [Int.toNat_natCast, HY.out] at HP1
  have hb0 : b2 < w.heap.size := (HO.out.lt ⟨_, _, _, rfl, Or.inr (Or.inl rfl)⟩).2
  have hb1 : B ≤ b2 := (HO.out.lt ⟨_, _, _, rfl, Or.inr (Or.inl rfl)⟩).1
  have hne0 : b2 ≠ w.heap.size := by omega
  have hne1 : b2 ≠ w.heap.size + 1 := by omega
  have hne2 : w.heap.size ≠ b2 := by omega
  have hne3 : w.heap.size + 1 ≠ b2 := by omega
  have hy0 : y + 1 ≤ 9223372036854775807 := by omega
  clear HE m0 m1 m2 f0 f1 f2
  go_wp2
  go_region
  have HO2 := hid ((HO1.out.setEp hnl (y + 1)).below (Below.refl _ (w1.setCell ⟨b2, n, none⟩ (.int .i64 (y + 1)))).drew)
  have HA2 := hid ((HA.out.other (p := ⟨b2, n, none⟩) hne2 (.int .i64 (y + 1))).below (Below.refl _ _).drew (HA.out.other (p := ⟨b2, n, none⟩) hne2 (.int .i64 (y + 1))).lt)
  have HR2 := hid ((HR.out.other (p := ⟨b2, n, none⟩) hne3 (.int .i64 (y + 1))).below (Below.refl _ _).drew (HR.out.other (p := ⟨b2, n, none⟩) hne3 (.int .i64 (y + 1))).lt)
  have HB2 := hid ((below_set (HB.out.mono hB) b2 n (.int .i64 (y + 1)) hb1).drew)
  generalize (w1.setCell ⟨b2, n, none⟩ (.int .i64 (y + 1))).drew = wx at *
  have hzx : w.heap.size + 1 < wx.heap.size := HR2.out.lt
  have hBx : B ≤ wx.heap.size := by omega
  obtain ⟨_, _, _, ev, _, _, r3, _⟩ := HO2.out
  cases ev
  obtain ⟨_, _, ev, wr3⟩ := r3.wr
  cases ev
  have HI3 : Hid (Wts wx a3 D.pe) := wr3.sl.congr (fun i hi => wCells_at _ i hi)
  clear r3 wr3 hc hz2 k0 k1 k2
  go_wp2
  go_loopw [6, 7] (fun l i wr => ∃ k : Nat, k ≤ D.pe.length ∧ i = .int .i64 (k : Int) ∧ Hid (RowO wr wx.heap.size 36 4 l (others (D.pe.take k) n).length (wCells (others (D.pe.take k) n))) ∧ Hid (Below wx.heap.size wx wr)) (fun _ i _ => D.pe.length - (intOf i).toNat)
  case atStart => exact ⟨0, Nat.zero_le _, rfl, Or.inl ⟨_, rfl, rfl, rfl⟩, (Below.refl _ _).alloc (Nat.le_refl _) _⟩
  case round =>
    obtain ⟨k, hk, rfl, HRo, HBr⟩ := hrel
    have HA3 := hid (HA2.out.below HBr.out HA2.out.lt)
    have k2 := HA3.out.c 2 rfl
    obtain ⟨p, d, el, _⟩ := HRo.out.wr
    subst el
    by_cases hlt : k < D.pe.length
    · obtain ⟨b3, o3, rfl, x0, x1, x2, x3⟩ := Wts.at_ (HI3.out.below HBr.out) k hlt
      have hol := others_le D.pe n k
      have HOL := hid hol
      clear hol
      have HY1 := hid (others_yes D.pe n k hlt)
      have HN1 := hid (others_no D.pe n k hlt)
      generalize hu : D.pe.getD k Wt.none = u at x0 x1 x2 x3 HY1 HN1
      have HU := hid hu
      clear hu
      by_cases h1 : u.host = (n : Int)
      · have HE1 := hid (HN1.out h1)
        go_wp2
        exact ⟨⟨k + 1, by omega, by go_num, by rw [HE1.out]; exact HRo, HBr⟩, by simp [intOf]; omega⟩
      · have HE1 := hid (HY1.out h1)
        have hpl : (others (D.pe.take k) n).length + 1 ≤ 1048576 := by have := HOL.out; have := HF.out.h3; omega
        have HRa : Hid (∀ o, RowO (wr.alloc o) wx.heap.size 36 4 (.slice p (others (D.pe.take k) n).length d) (others (D.pe.take k) n).length (wCells (others (D.pe.take k) n))) := fun o => HRo.out.below ((Below.refl _ _).alloc (Nat.le_refl _) o)
        have HBa := hid (show ∀ o, wx.heap.size ≤ (wr.alloc o).heap.size from fun o => by have := lt_alloc wr o; have := HBr.out.size; omega)
        generalize others (D.pe.take k) n = ol at *
        go_wp2_with (at_builtin; refine wpList_app 26 36 Wt.none.val 4 40 Try.underlying26 infoW rfl (by decide) (by decide) _ rfl (.tmp 46) (.tmp 52) rfl wx.heap.size _ ol.length (wCells ol) rfl (HRa.out _) ⟨wr.heap.size, 0, none⟩ 1 1 u.cells rfl rfl (sl_lit wr u.cells 36 4 rfl) (by intro z hz; exact wCells_one [u] z (by simpa [wCells] using hz)) hpl (HBa.out _) ?_; intro v3' w2 r3' kk hi; obtain ⟨p3, d3', e3, _⟩ := r3'.wr; subst e3; have HR3 := hid r3'; have HB3 := hid ((HBr.out.alloc HBr.out.size _).trans (kk.below (HBa.out _) (fun b hb e => by have := ((HRa.out (.cells #[] 0)).lt e).1; omega))); clear r3' kk hi)
        exact ⟨⟨k + 1, by omega, by go_num, by rw [HE1.out, wCells_snoc, List.length_append]; exact HR3, HB3⟩, by simp [intOf]; omega⟩
    obtain rfl : k = D.pe.length := by omega
    have HT := hid (show others D.pe n = others (D.pe.take D.pe.length) n by rw [List.take_length])
    rw [HT.out] at HP1
    generalize others (D.pe.take D.pe.length) n = ol at *
    have HR3 := hid (HR2.out.below HBr.out HR2.out.lt)
    have HO3 := hid (HO2.out.swapped HBr.out hBx HRo.out)
    have HB3 := hid (HB2.out.trans (HBr.out.mono hBx))
    have F0 := hid (swapped_far HO.out (Nat.le_refl _) HRo.out (by omega))
    have F1 := hid (swapped_far HO.out (Nat.le_succ _) HRo.out hzx)
    have hz4 : w.heap.size + 1 < wr.heap.size := HR3.out.lt
    have k0 := HA3.out.c 0 rfl
    have k1 := HA3.out.c 1 rfl
    have k3 := HA3.out.f 2
    have m0 := HR3.out.c 0 rfl
    have m1 := HR3.out.c 1 rfl
    have m2 := HR3.out.c 2 rfl
    have f0 := HR3.out.f 0
    have f1 := HR3.out.f 1
    have f2 := HR3.out.f 2
    go_wp2
    have E := put_end (w2 := wr.setCell ⟨w.heap.size, 2, none⟩ (.slice p ol.length d)) (by simpa using hz4) (below_set HB3.out w.heap.size 2 _ hB) hB (HO3.out.kept (kept_set wr w.heap.size 2 _) F0.out) F1.out (HR3.out.other (by show w.heap.size + 1 ≠ w.heap.size; omega) _)
    refine bodyPost_ret (results_row2 rfl _ _ (w.heap.size + 1) [.slice a1 D.sec.length c1, .slice (some ⟨b2, 0, none⟩) D.ep.length (c2' + 1), .slice p ol.length d] _ rfl E.2.2 Try.underlying28 rfl (by kernel_rfl)) rfl ?_
    cases HP1.out
    exact ⟨_, rfl, E.1, E.2.1⟩

end Go.Proofs.Ytbnmcbbpbiofgaa.Mem
