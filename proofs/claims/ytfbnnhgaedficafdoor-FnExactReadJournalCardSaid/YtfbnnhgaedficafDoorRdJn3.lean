/-
  The walk of impl.journalParts. Condition: the error of a part that lacks stands in its variable.
-/
import Derived.Test.YtfbnnhgaedficafDoorRdJn2
namespace Go.Proofs.YtfbnnhgaedficafDoor.Rd
open Go.RowKit Go.Proofs.YtfbnnhgaedficafDoor.Mem Go.Proofs.YtfbnnhgaedficafDoor.Sec
set_option linter.unusedVariables false

theorem kept_set8 (w : World) (b : Nat) (x0 x1 x2 x3 x4 x5 x6 x7 : Value) : Kept (fun k => k = b) w ((((((((w.setCell ⟨b, 0, none⟩ x0).setCell ⟨b, 1, none⟩ x1).setCell ⟨b, 2, none⟩ x2).setCell ⟨b, 3, none⟩ x3).setCell ⟨b, 4, none⟩ x4).setCell ⟨b, 5, none⟩ x5).setCell ⟨b, 6, none⟩ x6).setCell ⟨b, 7, none⟩ x7) :=
  ((((kept_set5 w b x0 x1 x2 x3 x4).trans (kept_set _ _ _ _)).trans (kept_set _ _ _ _)).trans (kept_set _ _ _ _)).mono (fun k _ h => by rcases h with ((h | h) | h) | h <;> exact h)

theorem cell_set8 {w : World} {g o b : Nat} {v x0 x1 x2 x3 x4 x5 x6 x7 : Value} (h : w.cell? ⟨g, o, none⟩ = some v) (hn : ¬ g = b) : ((((((((w.setCell ⟨b, 0, none⟩ x0).setCell ⟨b, 1, none⟩ x1).setCell ⟨b, 2, none⟩ x2).setCell ⟨b, 3, none⟩ x3).setCell ⟨b, 4, none⟩ x4).setCell ⟨b, 5, none⟩ x5).setCell ⟨b, 6, none⟩ x6).setCell ⟨b, 7, none⟩ x7).cell? ⟨g, o, none⟩ = some v :=
  cell_set (cell_set (cell_set (cell_set5 h hn) hn) hn) hn

theorem row_set8 {w : World} {b : Nat} {y0 y1 y2 y3 y4 y5 y6 y7 : Value} (h : Row w b [y0, y1, y2, y3, y4, y5, y6, y7]) (x0 x1 x2 x3 x4 x5 x6 x7 : Value) : Row ((((((((w.setCell ⟨b, 0, none⟩ x0).setCell ⟨b, 1, none⟩ x1).setCell ⟨b, 2, none⟩ x2).setCell ⟨b, 3, none⟩ x3).setCell ⟨b, 4, none⟩ x4).setCell ⟨b, 5, none⟩ x5).setCell ⟨b, 6, none⟩ x6).setCell ⟨b, 7, none⟩ x7) b [x0, x1, x2, x3, x4, x5, x6, x7] :=
  (((((((h.set 0 x0).set 1 x1).set 2 x2).set 3 x3).set 4 x4).set 5 x5).set 6 x6).set 7 x7

set_option maxRecDepth 100000 in
set_option maxHeartbeats 2000000 in
theorem journalParts (R : ByteArray → Int × Nat) (hR : Reads R) (s : ByteArray) (hs : s.size ≤ 1048576) (w : World) (c : Nat) (h : Cur w c (rest s 5)) (u : TypeId) (pv : Value) (hL : Lacks w u pv) (hc : 1 < c) :
    Calls Tryd.prog 55 #[.pointer (some ⟨c, 0, none⟩)] w fun e w' =>
      ((∃ x f k v t a tx o ad cap, jnAt R s = some ([x, f, k, v, t, a], tx, o) ∧ f ≤ 1 ∧ e = .returned (jnV ⟨x, decide (f = 1), k, v, t, a, tx, o⟩ ad cap) ∧ Or2 w' w.heap.size (.slice ad o.length cap) o) ∨ (NoJn R s ∧ e = lack u pv)) ∧ Kept (fun b => b = c) w w' := by
  have HR := hid hR
  have HH := hid h
  have HL := hid hL
  have hlt := h.lt
  clear hR h hL
  have HN1 := hid (nums_step (R := R) (s := s) (i := 5) (k := 0) (l := []) (e := 5) rfl)
  go_enter Tryd.func55, Tryd.ntmps55
  go_wp2_with fail
  obtain ⟨wl, hwl, ez, A0, B0⟩ := one_new w [.int .i64 0, .bool false, .int .i64 0, .int .i64 0, .int .i64 0, .int .i64 0, .string ⟨#[]⟩, .slice none 0 0] 41
  simp only [hwl]
  have HA := hid A0
  have HKl : Hid (Kept (fun b => b = c) w wl) := (Kept.of_below B0)
  have HLl := hid (HL.out.kept (Kept.of_below (S := fun _ => False) B0) (fun x => x))
  have HHl := hid (HH.out.below B0)
  clear hwl A0 B0
  refine (number R HR.out s hs 5 wl c HHl.out u pv HLl.out).mono ?_
  rintro e w1 (⟨hq, rfl, M1⟩ | ⟨hq, rfl, hw⟩)
  rotate_left
  · have HNJ : Hid (NoJn R s) := Or.inl (jnAt_no1 (nums_none (k := 1) (by rw [HN1.out, if_pos hq]) 5))
    obtain rfl := hw.symm
    clear hq hw
    unfold lack
    go_wp2
    exact ⟨rfl, Or.inr ⟨HNJ.out, rfl⟩, HKl.out⟩
  have HN1' : Hid (nums R s 5 1 = some ([(R (rest s 5)).1], 5 + (R (rest s 5)).2)) := by rw [Hid, HN1.out, if_neg hq]; rfl
  have HC1 := hid M1.1
  have HL1 := hid (HLl.out.kept M1.2 (by omega))
  have HA1 := hid (HA.out.kept M1.2 (by omega))
  have HK1 : Hid (Kept (fun b => b = c) w w1) := (HKl.out.trans M1.2).mono (fun b _ x => by rcases x with x | x <;> exact x)
  have hs1 := M1.2.size
  clear M1 hq HN1 HA HLl
  generalize (R (rest s 5)).1 = x at *
  generalize 5 + (R (rest s 5)).2 = i1 at *
  go_wp2_with fail
  refine (flagOf R HR.out s hs i1 w1 c HC1.out u pv HL1.out hc).mono ?_
  rintro e w2 (⟨hq, hle, rfl, M2⟩ | ⟨hq, rfl, k2⟩)
  rotate_left
  · have HNJ := hid (noJn_flag HN1'.out hq)
    have HK2 : Hid (Kept (fun b => b = c) w w2) := (HK1.out.trans k2).mono (fun b _ x => by rcases x with x | x <;> exact x)
    clear hq k2
    unfold lack
    go_wp2
    exact ⟨rfl, Or.inr ⟨HNJ.out, rfl⟩, HK2.out⟩
  have h2 := nums_step HN1'.out
  rw [if_neg hq] at h2
  have HN6 := hid (nums_split2 (n := 4) h2)
  have HC2 := hid M2.1
  have HL2 := hid (HL1.out.kept M2.2 (by omega))
  have HA2 := hid (HA1.out.kept M2.2 (by omega))
  have HK2 : Hid (Kept (fun b => b = c) w w2) := (HK1.out.trans M2.2).mono (fun b _ x => by rcases x with x | x <;> exact x)
  have hs2 := M2.2.size
  have HFle := hid hle
  clear M2 hq h2 hle HA1 HL1 HC1 HN1'
  generalize (R (rest s i1)).1 = f at *
  generalize i1 + (R (rest s i1)).2 = i2 at *
  go_wp2_with fail
  refine (opParts R HR.out s hs i2 w2 c HC2.out u pv HL2.out hc).mono ?_
  rintro e w3 (⟨k, v, t, a, tx, z, z2, hn4, hpc, rfl, M3⟩ | ⟨hno, rfl, k3⟩)
  rotate_left
  · have HNJ : Hid (NoJn R s) := Or.inl (by
      rcases hno with hn | ⟨l, z, hn, hp⟩
      · exact jnAt_no1 (by rw [HN6.out, hn]; rfl)
      · exact jnAt_no2 (z := z) (by rw [HN6.out, hn]; rfl) hp)
    have HK3 : Hid (Kept (fun b => b = c) w w3) := (HK2.out.trans k3).mono (fun b _ x => by rcases x with x | x <;> exact x)
    clear hno k3
    unfold lack
    go_wp2
    exact ⟨rfl, Or.inr ⟨HNJ.out, rfl⟩, HK3.out⟩
  have HN : Hid (nums R s 5 6 = some ([x, f, k, v, t, a], z)) := by rw [Hid, HN6.out, hn4]; rfl
  have HPc := hid hpc
  have HC3 := hid M3.1
  have HL3 := hid (HL2.out.kept M3.2 (by omega))
  have HA3 := hid (HA2.out.kept M3.2 (by omega))
  have HK3 : Hid (Kept (fun b => b = c) w w3) := (HK2.out.trans M3.2).mono (fun b _ x => by rcases x with x | x <;> exact x)
  have hs3 := M3.2.size
  clear M3 hn4 hpc HN6 HA2 HL2 HC2
  unfold opV
  obtain ⟨w4, hw4, ez4, O0, B4⟩ := one_new w3 [.int .i64 k, .int .i64 v, .int .i64 t, .int .i64 a, .string tx] 38
  have HO := hid O0
  have HA4 := hid (HA3.out.below B4 HA3.out.lt)
  have HC4 := hid (HC3.out.below B4)
  have HL4 := hid (HL3.out.kept (Kept.of_below (S := fun _ => False) B4) (fun x => x))
  have HK4 : Hid (Kept (fun b => b = c) w w4) := (HK3.out.trans (Kept.of_below (S := fun _ => False) B4)).mono (fun b _ x => by rcases x with x | x; exact x; cases x)
  have o0 := O0.c 0 rfl
  have o1 := O0.c 1 rfl
  have o2 := O0.c 2 rfl
  have o3 := O0.c 3 rfl
  have o4 := O0.c 4 rfl
  clear O0 B4 HA3 HC3 HL3
  obtain ⟨dn, hdn⟩ : ∃ dn, decide (f = 1) = dn := ⟨_, rfl⟩
  have HDn := hid hdn
  rw [hdn]
  clear hdn
  go_wp2_with fail
  clear hw4
  have HE : Hid (w4.drew.cell? ⟨w3.heap.size, 0, none⟩ = some (.int .i64 k) ∧ w4.drew.cell? ⟨w3.heap.size, 1, none⟩ = some (.int .i64 v) ∧ w4.drew.cell? ⟨w3.heap.size, 2, none⟩ = some (.int .i64 t) ∧ w4.drew.cell? ⟨w3.heap.size, 3, none⟩ = some (.int .i64 a) ∧ w4.drew.cell? ⟨w3.heap.size, 4, none⟩ = some (.string tx)) := ⟨o0, o1, o2, o3, o4⟩
  have hgc : ¬ w3.heap.size = c := by omega
  have hgA : ¬ w3.heap.size = w.heap.size := by omega
  have hP := outsParts R HR.out s hs z2 w4.drew c HC4.out.drew u pv HL4.out.drew hc
  cases hp : outsAll R s z2 with
  | none =>
    have hP' : Calls Tryd.prog 92 #[.pointer (some ⟨c, 0, none⟩)] w4.drew fun e w' => e = .panicked [{ v := .iface u pv, recovered := false }] ∧ Kept (fun b => b = c) w4.drew w' := hP.mono (fun e w' ⟨hh, hk⟩ => by
      rcases hh with ⟨l, z, ad, cap, q, _⟩ | ⟨_, he⟩
      · rw [hp] at q; cases q
      · exact ⟨he, hk⟩)
    have HQ := hid hP'
    have HNJ : Hid (NoJn R s) := Or.inl (jnAt_no3 HN.out HPc.out hp)
    have HKx : Hid (∀ w5, Kept (fun b => b = c) w4.drew w5 → Kept (fun b => b = c) w w5) := fun w5 k => (HK4.out.trans (kundrew k)).mono (fun b _ x => by rcases x with x | x <;> exact x)
    clear hP hP' hp HN
    have q0 := HA4.out.c 0 rfl
    have q1 := HA4.out.c 1 rfl
    have q2 := HA4.out.c 2 rfl
    have q3 := HA4.out.c 3 rfl
    have q4 := HA4.out.c 4 rfl
    have q5 := HA4.out.c 5 rfl
    have q6 := HA4.out.c 6 rfl
    have q7 := HA4.out.c 7 rfl
    have f0 := HA4.out.f 0
    have f1 := HA4.out.f 1
    have f2 := HA4.out.f 2
    have f3 := HA4.out.f 3
    have f4 := HA4.out.f 4
    have f5 := HA4.out.f 5
    have f6 := HA4.out.f 6
    have f7 := HA4.out.f 7
    go_region_held_law (fun w' => w'.cell? ⟨w3.heap.size, 0, none⟩ = some (.int .i64 k) ∧ w'.cell? ⟨w3.heap.size, 1, none⟩ = some (.int .i64 v) ∧ w'.cell? ⟨w3.heap.size, 2, none⟩ = some (.int .i64 t) ∧ w'.cell? ⟨w3.heap.size, 3, none⟩ = some (.int .i64 a) ∧ w'.cell? ⟨w3.heap.size, 4, none⟩ = some (.string tx))
      (first | with_reducible exact HE.out | exact hf.out.elim)
      ((go_at_call 92; rcases Classical.em (Hid False) with hf | hnf; rotate_left; (refine HQ.out.mono ?_; rintro e w5 ⟨rfl, k5'⟩; exact ⟨rfl, Or.inr ⟨HNJ.out, rfl⟩, HKx.out w5 k5'⟩); (refine (dead 92 #[.pointer (some ⟨c, 0, none⟩)] w4.drew (.slice none 0 0) hf.out).mono ?_; rintro e w5 ⟨rfl, rfl⟩)))
    all_goals exact hf.out.elim
  | some q =>
    obtain ⟨o, z3⟩ := q
    have hP' : Calls Tryd.prog 92 #[.pointer (some ⟨c, 0, none⟩)] w4.drew fun e w' => ∃ ad cap, e = .returned (.slice ad o.length cap) ∧ Or2 w' w4.heap.size (.slice ad o.length cap) o ∧ Kept (fun b => b = c) w4.drew w' := hP.mono (fun e w' ⟨hh, hk⟩ => by
      rcases hh with ⟨l, z, ad, cap, q, he, ho⟩ | ⟨q, _⟩
      · rw [hp] at q
        simp only [Option.some.injEq, Prod.mk.injEq] at q
        obtain ⟨rfl, rfl⟩ := q
        exact ⟨ad, cap, he, ho, hk⟩
      · rw [hp] at q; cases q)
    have HQ := hid hP'
    have HJ := hid (jnAt_yes HN.out HPc.out hp)
    clear hP hP' hp HN HPc
    go_region_held_law (fun w' => w'.cell? ⟨w3.heap.size, 0, none⟩ = some (.int .i64 k) ∧ w'.cell? ⟨w3.heap.size, 1, none⟩ = some (.int .i64 v) ∧ w'.cell? ⟨w3.heap.size, 2, none⟩ = some (.int .i64 t) ∧ w'.cell? ⟨w3.heap.size, 3, none⟩ = some (.int .i64 a) ∧ w'.cell? ⟨w3.heap.size, 4, none⟩ = some (.string tx))
      (first | with_reducible exact HE.out | with_reducible exact HD.out | with_reducible exact ⟨cell_set8 HD.out.1 hgA, cell_set8 HD.out.2.1 hgA, cell_set8 HD.out.2.2.1 hgA, cell_set8 HD.out.2.2.2.1 hgA, cell_set8 HD.out.2.2.2.2 hgA⟩)
      ((go_at_call 92; refine HQ.out.mono ?_; rintro e w5 ⟨ad, cap, rfl, hO5, k5'⟩; have k5 := kundrew k5'; have HD := hid (And.intro (cell_kept o0 k5 hgc) (And.intro (cell_kept o1 k5 hgc) (And.intro (cell_kept o2 k5 hgc) (And.intro (cell_kept o3 k5 hgc) (cell_kept o4 k5 hgc))))); have RB := HA4.out.kept k5 (by omega); have q0 := RB.c 0 rfl; have q1 := RB.c 1 rfl; have q2 := RB.c 2 rfl; have q3 := RB.c 3 rfl; have q4 := RB.c 4 rfl; have q5 := RB.c 5 rfl; have q6 := RB.c 6 rfl; have q7 := RB.c 7 rfl; have f0 := RB.f 0; have f1 := RB.f 1; have f2 := RB.f 2; have f3 := RB.f 3; have f4 := RB.f 4; have f5 := RB.f 5; have f6 := RB.f 6; have f7 := RB.f 7))
    have hs4 : w.heap.size < w4.heap.size := by omega
    have HRw := hid (row_set8 RB (.int .i64 x) (.bool dn) (.int .i64 k) (.int .i64 v) (.int .i64 t) (.int .i64 a) (.string tx) (.slice ad o.length cap))
    have HKf := hid (((HK4.out.trans k5).trans (kept_set8 w5 w.heap.size (.int .i64 x) (.bool dn) (.int .i64 k) (.int .i64 v) (.int .i64 t) (.int .i64 a) (.string tx) (.slice ad o.length cap))).mono (T := fun b => b = c) (fun b hb x => by rcases x with (x | x) | x; exact x; exact x; omega))
    have HOf := hid (RowO.mono (RowO.kept hO5 (kept_set8 w5 w.heap.size (.int .i64 x) (.bool dn) (.int .i64 k) (.int .i64 v) (.int .i64 t) (.int .i64 a) (.string tx) (.slice ad o.length cap)) (fun b hb x => by have := (RowO.lt hO5 hb).1; omega)) (Nat.le_of_lt hs4))
    clear k5 k5' HD RB q0 q1 q2 q3 q4 q5 q6 q7 f0 f1 f2 f3 f4 f5 f6 f7 o0 o1 o2 o3 o4 HE HQ hO5
    go_wp2
    refine bodyPost_ret (results_row rfl _ _ w.heap.size [.int .i64 x, .bool dn, .int .i64 k, .int .i64 v, .int .i64 t, .int .i64 a, .string tx, .slice ad o.length cap] _ rfl HRw.out Tryd.underlying41 rfl (by kernel_rfl)) rfl ?_
    refine ⟨Or.inl ⟨x, f, k, v, t, a, tx, o, ad, cap, HJ.out, HFle.out, ?_, HOf.out⟩, HKf.out⟩
    rw [HDn.out]; rfl

end Go.Proofs.YtfbnnhgaedficafDoor.Rd
