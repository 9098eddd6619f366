/-
  The walk of laws.FnExactPoolDo. No condition but what Go can hold.
-/
import Derived.Test.YtieohdfhbfeoaaaPpDoLaw
namespace Go.Proofs.Ytieohdfhbfeoaaa.Pl
open Go.RowKit Go.Proofs.Ytieohdfhbfeoaaa.Mem
set_option linter.unusedVariables false

set_option maxRecDepth 100000 in
set_option maxHeartbeats 4000000 in
theorem lawPoolDo (w : World) (a : Option Addr) (cap : Nat) (L : List Pv) (k v t m : Int) (s : ByteArray) (S : Pvs w a L) (hl : L.length ≤ maxLen) (hu : ∀ x ∈ L, x.Upto maxLen) (hs : s.size ≤ maxLen) :
    Calls Try.prog 5 #[plV a L.length cap, opV k v t m s] w fun e w' => e = .returned (.bool true) ∧ Below w.heap.size w w' := by
  have HVp : Hid (∀ a n c, plV a n c = .agg #[.slice a n c]) := fun _ _ _ => rfl
  have HV : Hid (opV k v t m s = .agg #[.int .i64 k, .int .i64 v, .int .i64 t, .int .i64 m, .string s]) := rfl
  rw [HV.out, HVp.out]
  have HS := hid S
  have HL := hid hl
  have Hu := hid hu
  have Hs := hid hs
  clear S hl hu hs
  obtain ⟨wa, hwa, ez, A0, C0, B0⟩ := two_new w [.slice a L.length cap] [.int .i64 k, .int .i64 v, .int .i64 t, .int .i64 m, .string s] 31 37
  have HA := hid A0
  have HC := hid C0
  have HB := hid B0
  have k0 := A0.c 0 rfl
  clear A0 B0 C0 ez
  go_enter Try.func5, Try.ntmps5
  go_wp2_with fail
  try simp only [hwa]
  clear hwa
  refine (szPool wa a cap L 1048576 (HS.out.below HB.out) HL.out Hu.out (by decide) (by decide)).mono ?_
  rintro e w1 ⟨r, rfl, b1, hf⟩
  have HA1 := hid (HA.out.below b1 HA.out.lt)
  have HC1 := hid (HC.out.below b1 HC.out.lt)
  have HB1 := hid (HB.out.trans (b1.mono HB.out.size))
  clear b1 k0 HA HC HB
  by_cases hr : r < 0
  · clear hf
    go_wp2
    go_ret
    exact ⟨rfl, HB1.out⟩
  have hf2 : ((L.length : Int) ≤ 1048576 ∧ ∀ x ∈ L, x.Upto 1048576) ∧ 0 ≤ r ∧ r ≤ 1048576 := by
    rcases hf with h | h
    · omega
    · exact ⟨h.2.2, h.1, h.2.1⟩
  have hll : L.length ≤ 1048576 := by have := hf2.1.1; omega
  have HU := hid hf2.1.2
  have HL2 := hid hll
  have hr0 := hf2.2.1
  have hr1 := hf2.2.2
  clear hf hf2 hll
  have c0 := HC1.out.c 0 rfl
  have c1 := HC1.out.c 1 rfl
  have c2 := HC1.out.c 2 rfl
  have c3 := HC1.out.c 3 rfl
  have c4 := HC1.out.c 4 rfl
  go_wp2_with fail
  rw [← HV.out]
  refine (szOp w1 k v t m s r Hs.out hr0 hr1).mono ?_
  rintro e w2 ⟨r2, rfl, b2, hf⟩
  have HA2 := hid (HA1.out.below b2 HA1.out.lt)
  have HC2 := hid (HC1.out.below b2 HC1.out.lt)
  have HB2 := hid (HB1.out.trans (b2.mono HB1.out.size))
  clear b2 c0 c1 c2 c3 c4 HA1 HC1 HB1
  by_cases hr2 : r2 < 0
  · clear hf
    go_wp2
    go_ret
    exact ⟨rfl, HB2.out⟩
  have hs2 : s.size ≤ 1048576 := by
    rcases hf with h | h
    · omega
    · omega
  have HS2 := hid hs2
  clear hf hs2 hr hr0 hr1
  obtain ⟨X, hX⟩ : ∃ X, poolDo L k v t m s = X := ⟨_, rfl⟩
  obtain ⟨XD, xq⟩ := X
  have HX := hid hX
  have HSm : Hid (∀ M : List Pv, M.map Pv.data = XD → M.length ≤ 1048576 ∧ ∀ x ∈ M, x.Upto 1048576) := fun M h => small_of HL2.out HU.out HS2.out (by rw [HX.out]; exact h)
  clear hX
  have hb0 : w.heap.size < w2.heap.size := HA2.out.lt
  have hb1 : w.heap.size + 1 < w2.heap.size := HC2.out.lt
  have Q0 := hid (show w2.drew.cell? ⟨w.heap.size, 0, none⟩ = some (.slice a L.length cap) ∧ w2.drew.cell? ⟨w.heap.size + 1, 0, none⟩ = some (.int .i64 k) ∧ w2.drew.cell? ⟨w.heap.size + 1, 1, none⟩ = some (.int .i64 v) ∧ w2.drew.cell? ⟨w.heap.size + 1, 2, none⟩ = some (.int .i64 t) ∧ w2.drew.cell? ⟨w.heap.size + 1, 3, none⟩ = some (.int .i64 m) ∧ w2.drew.cell? ⟨w.heap.size + 1, 4, none⟩ = some (.string s) ∧ Below w2.heap.size w2 w2.drew from ⟨HA2.out.c 0 rfl, HC2.out.c 0 rfl, HC2.out.c 1 rfl, HC2.out.c 2 rfl, HC2.out.c 3 rfl, HC2.out.c 4 rfl, (Below.refl _ w2).drew⟩)
  have HSx := hid (HS.out.below HB2.out)
  go_upto_region 8 with fail
  go_cut [6, 7] (fun p q wr => ∃ (g : Nat) (a1 : Option Addr) (cc : Nat) (M1 : List Pv), p = .pointer (some ⟨g, 0, none⟩) ∧ q = .bool xq ∧ Hid (PBox w2 XD xq g a1 cc M1 wr))
  case first =>
    clear hr2
    go_region_held_law (fun w' => w'.cell? ⟨w.heap.size, 0, none⟩ = some (.slice a L.length cap) ∧ w'.cell? ⟨w.heap.size + 1, 0, none⟩ = some (.int .i64 k) ∧ w'.cell? ⟨w.heap.size + 1, 1, none⟩ = some (.int .i64 v) ∧ w'.cell? ⟨w.heap.size + 1, 2, none⟩ = some (.int .i64 t) ∧ w'.cell? ⟨w.heap.size + 1, 3, none⟩ = some (.int .i64 m) ∧ w'.cell? ⟨w.heap.size + 1, 4, none⟩ = some (.string s) ∧ Below w2.heap.size w2 w')
      (first | with_reducible exact Q5.out | with_reducible exact Q4.out | with_reducible exact Q3.out | with_reducible exact Q0.out | with_reducible assumption | (with_reducible refine t6_allocd ?_ _; with_reducible exact Q0.out) | (with_reducible refine t6_alloc ?_ _; first | with_reducible assumption | with_reducible exact Q5.out | with_reducible exact Q4.out | with_reducible exact Q3.out) | (refine t6_set ?_ hb0 hb1 (by omega) _; with_reducible assumption))
      (first
        | (go_at_call 14; rw [← HVp.out]; refine (toPool _ a cap L (HSx.out.below ((by assumption : _ ∧ _ ∧ _ ∧ _ ∧ _ ∧ _ ∧ _).2.2.2.2.2.2)) HL2.out HU.out).mono ?_; rintro e w3 ⟨g3, M3, rfl, P3, D3, b3⟩; unfold plV; have Q3 := hid (t6_below (by assumption) b3); have hz3 : w2.heap.size ≤ w3.heap.size := Q3.out.2.2.2.2.2.2.size; have HP3 := hid P3; have HD3 := hid D3; have HB3 := hid b3; (first | (have hz := box_newd2 b3; have HZ := hid hz.1; have HG := hid hz.2; clear hz) | (have hz := box_new2 b3; have HZ := hid hz.1; have HG := hid hz.2; clear hz) | (have HG := hid HZ.out.lt; have HZ := hid (HZ.out.below b3 HZ.out.lt)) | skip); clear P3 D3 b3)
        | (go_at_call 18; rw [← HV.out]; refine (toOp _ k v t m s).mono ?_; rintro e w4 ⟨rfl, b4⟩; rw [HV.out]; have Q4 := hid (t6_below (by assumption) b4); have hz4 : w2.heap.size ≤ w4.heap.size := Q4.out.2.2.2.2.2.2.size; have HB4 := hid b4; (first | (have hz := box_newd2 b4; have HZ := hid hz.1; have HG := hid hz.2; clear hz) | (have hz := box_new2 b4; have HZ := hid hz.1; have HG := hid hz.2; clear hz) | (have HG := hid HZ.out.lt; have HZ := hid (HZ.out.below b4 HZ.out.lt)) | skip); (first | (have HP3 := hid (HP3.out.below b4)) | (have HP3 := hid (HP3.out.below_a b4)) | skip); clear b4)
        | (go_at_call 17; rw [← HV.out, ← HVp.out]; refine (sPoolDo _ _ _ M3 k v t m s (by first | exact HP3.out.r | exact (HP3.out.below ((Below.refl _ _).alloc (Nat.le_refl _) _)).r) (upto_data HD3.out HL2.out HU.out).1 (upto_data HD3.out HL2.out HU.out).2 HS2.out).mono ?_; rintro e w5 ⟨a5, c5, M5, rfl, P5, D5, b5⟩; unfold plV; rw [← poolDo_data HD3.out, HX.out] at D5 ⊢; simp only [] at D5 ⊢; have Q5 := hid (t6_below (by assumption) b5); have hz5 : w2.heap.size ≤ w5.heap.size := Q5.out.2.2.2.2.2.2.size; have HP5 := hid P5; have HD5 := hid D5; (first | (have hz := box_newd2 b5; have HZ := hid hz.1; have HG := hid hz.2; clear hz) | (have hz := box_new2 b5; have HZ := hid hz.1; have HG := hid hz.2; clear hz) | (have HG := hid HZ.out.lt; have HZ := hid (HZ.out.below b5 HZ.out.lt)) | skip); (first | (have zc := HZ.out.c 0 rfl; have zf := HZ.out.f 0) | skip); clear P5 D5 b5))
    all_goals (go_wp2_with fail; go_meet; first
      | exact ⟨_, _, _, _, rfl, rfl, hid (PBox.stored Q5.out.2.2.2.2.2.2 HZ.out rfl HP5.out (by first | omega | (simp; omega)) HG.out (by omega) HD5.out)⟩
      | exact ⟨_, _, _, _, rfl, rfl, hid (PBox.laid Q5.out.2.2.2.2.2.2 HP5.out (by first | omega | (simp; omega)) HD5.out)⟩)
  case rest =>
    obtain ⟨g6, a6, c6, M6, rfl, rfl, HP⟩ := hcut
    obtain ⟨wo, hwo⟩ : ∃ wo, wo = wc := ⟨_, rfl⟩
    subst hwo
    have HA3 := hid (HA2.out.below HP.out.bel HA2.out.lt)
    have HC3 := hid (HC2.out.below HP.out.bel HC2.out.lt)
    have HAo := hid HA3.out
    have HCo := hid HC3.out
    have HB3 := hid (HB2.out.trans (HP.out.bel.mono HB2.out.size))
    have HS3 := hid (HS.out.below HB3.out)
    have hsz := HP.out.bel.size
    have hb0 : w.heap.size < wo.heap.size := by omega
    have hb1 : w.heap.size + 1 < wo.heap.size := by omega
    have HR6 := hid HP.out.row
    have HM6 := hid HP.out.pv.r
    have HE6 := hid HP.out.dat
    clear HA2 HC2 HB2 Q0 HSx HP hsz
    have k0 := HA3.out.c 0 rfl
    go_wp2_with fail
    refine (toPool wo a cap L HS3.out HL2.out HU.out).mono ?_
    rintro e w7 ⟨g7, M7, rfl, P7, D7, b7⟩
    unfold plV
    obtain ⟨w8, hw8, e8, X8, B8⟩ := one_new w7 [.slice (some ⟨g7, 0, none⟩) M7.length M7.length] 24
    have HB8 := hid (b7.trans (B8.mono b7.size))
    have HA8 := hid (HA3.out.below HB8.out HA3.out.lt)
    have HC8 := hid (HC3.out.below HB8.out HC3.out.lt)
    have HX8 := hid X8
    have HP8 := hid (P7.below B8)
    have HF8 : Hid (∀ b, pfoot (some ⟨g7, 0, none⟩) M7 b → b < w7.heap.size) := fun b hb => (P7.pfoot_ge hb).2
    have HD8 := hid D7
    have HSm7 := hid (upto_data D7 HL2.out HU.out)
    have hw78 : w7.heap.size < w8.heap.size := X8.lt
    have hwo7 : wo.heap.size ≤ w7.heap.size := b7.size
    have hb0 : w7.heap.size < w8.heap.size := X8.lt
    have hb1 : w.heap.size + 1 < w8.heap.size := by omega
    have Q0 := hid (show w8.drew.cell? ⟨w7.heap.size, 0, none⟩ = some (.slice (some ⟨g7, 0, none⟩) M7.length M7.length) ∧ w8.drew.cell? ⟨w.heap.size + 1, 0, none⟩ = some (.int .i64 k) ∧ w8.drew.cell? ⟨w.heap.size + 1, 1, none⟩ = some (.int .i64 v) ∧ w8.drew.cell? ⟨w.heap.size + 1, 2, none⟩ = some (.int .i64 t) ∧ w8.drew.cell? ⟨w.heap.size + 1, 3, none⟩ = some (.int .i64 m) ∧ w8.drew.cell? ⟨w.heap.size + 1, 4, none⟩ = some (.string s) ∧ Below w8.heap.size w8 w8.drew from ⟨HX8.out.c 0 rfl, HC8.out.c 0 rfl, HC8.out.c 1 rfl, HC8.out.c 2 rfl, HC8.out.c 3 rfl, HC8.out.c 4 rfl, (Below.refl _ w8).drew⟩)
    clear b7 B8 P7 D7 X8 k0 HA3 HC3 e8
    go_wp2_with fail
    try simp only [hw8]
    clear hw8
    go_upto_region 10 with fail
    go_cut [9, 10] (fun p q wr => ∃ (g : Nat) (a1 : Option Addr) (cc : Nat) (M1 : List Pv), p = .pointer (some ⟨g, 0, none⟩) ∧ q = .bool xq ∧ Hid (PBox w8 XD xq g a1 cc M1 wr))
    case first =>
      go_region_held_law (fun w' => w'.cell? ⟨w7.heap.size, 0, none⟩ = some (.slice (some ⟨g7, 0, none⟩) M7.length M7.length) ∧ w'.cell? ⟨w.heap.size + 1, 0, none⟩ = some (.int .i64 k) ∧ w'.cell? ⟨w.heap.size + 1, 1, none⟩ = some (.int .i64 v) ∧ w'.cell? ⟨w.heap.size + 1, 2, none⟩ = some (.int .i64 t) ∧ w'.cell? ⟨w.heap.size + 1, 3, none⟩ = some (.int .i64 m) ∧ w'.cell? ⟨w.heap.size + 1, 4, none⟩ = some (.string s) ∧ Below w8.heap.size w8 w')
        (first | with_reducible exact Q5.out | with_reducible exact Q4.out | with_reducible exact Q3.out | with_reducible exact Q0.out | with_reducible assumption | (with_reducible refine t6_allocd ?_ _; with_reducible exact Q0.out) | (with_reducible refine t6_alloc ?_ _; first | with_reducible assumption | with_reducible exact Q5.out | with_reducible exact Q4.out | with_reducible exact Q3.out) | (refine t6_set ?_ hb0 hb1 (by omega) _; with_reducible assumption))
        (first
          | (go_at_call 18; rw [← HV.out]; refine (toOp _ k v t m s).mono ?_; rintro e w4 ⟨rfl, b4⟩; rw [HV.out]; have Q4 := hid (t6_below (by assumption) b4); have hz4 : w8.heap.size ≤ w4.heap.size := Q4.out.2.2.2.2.2.2.size; have HB4 := hid b4; (first | (have hz := box_newd2 b4; have HZ := hid hz.1; have HG := hid hz.2; clear hz) | (have hz := box_new2 b4; have HZ := hid hz.1; have HG := hid hz.2; clear hz) | (have HG := hid HZ.out.lt; have HZ := hid (HZ.out.below b4 HZ.out.lt)) | skip); clear b4)
          | (go_at_call 19; rw [← HV.out, ← HVp.out]; refine (iPoolDo _ _ _ M7 k v t m s (HP8.out.r.below ((by assumption : _ ∧ _ ∧ _ ∧ _ ∧ _ ∧ _ ∧ _).2.2.2.2.2.2)) HSm7.out.1 HS2.out).mono ?_; rintro e w5 ⟨a5, c5, M5, rfl, P5, D5, b5⟩; unfold plV; rw [← poolDo_data HD8.out, HX.out] at D5 ⊢; simp only [] at D5 ⊢; have Q5 := hid (t6_below (by assumption) b5); have hz5 : w8.heap.size ≤ w5.heap.size := Q5.out.2.2.2.2.2.2.size; have HP5 := hid P5; have HD5 := hid D5; (first | (have hz := box_newd2 b5; have HZ := hid hz.1; have HG := hid hz.2; clear hz) | (have hz := box_new2 b5; have HZ := hid hz.1; have HG := hid hz.2; clear hz) | (have HG := hid HZ.out.lt; have HZ := hid (HZ.out.below b5 HZ.out.lt)) | skip); (first | (have zc := HZ.out.c 0 rfl; have zf := HZ.out.f 0) | skip); clear P5 D5 b5))
      all_goals (go_wp2_with fail; go_meet; first
        | exact ⟨_, _, _, _, rfl, rfl, hid (PBox.stored Q5.out.2.2.2.2.2.2 HZ.out rfl HP5.out (by first | omega | (simp; omega)) HG.out (by omega) HD5.out)⟩
        | exact ⟨_, _, _, _, rfl, rfl, hid (PBox.laid Q5.out.2.2.2.2.2.2 HP5.out (by first | omega | (simp; omega)) HD5.out)⟩)
    case rest =>
      obtain ⟨g9, a9, c9, M9, rfl, rfl, HG⟩ := hcut
      obtain ⟨wp, hwp⟩ : ∃ wp, wp = wc := ⟨_, rfl⟩
      subst hwp
      have HBp := hid HG.out.bel
      have HAp := hid (HA8.out.below HBp.out HA8.out.lt)
      have HXp := hid (HX8.out.below HBp.out HX8.out.lt)
      have HPp := hid (HP8.out.below HBp.out)
      have HBo := hid (HB8.out.trans (HBp.out.mono HB8.out.size))
      have HM9 := hid HG.out.pv
      have HR9 := hid HG.out.row
      have HE9 := hid HG.out.dat
      have HN9 := hid HG.out.sep
      have hg9 : w8.heap.size ≤ g9 := HG.out.ge
      have HR6p := hid (HR6.out.below HBo.out HR6.out.lt)
      have HM6p := hid (HM6.out.below HBo.out)
      clear HA8 HX8 HP8 HC8 Q0 HG
      have k9 := HR9.out.c 0 rfl
      have k6 := HR6p.out.c 0 rfl
      go_wp2_with fail
      refine (eqPool wp a9 a6 c9 c6 M9 M6 HM9.out.r HM6p.out (HE9.out.trans HE6.out.symm) (len_max (HSm.out M9 HE9.out).1) (upto_max (HSm.out M9 HE9.out).2)).mono ?_
      rintro e w10 ⟨rfl, b10⟩
      have HA10 := hid (HAp.out.below b10 HAp.out.lt)
      have HX10 := hid (HXp.out.below b10 HXp.out.lt)
      have HP10 := hid (HPp.out.below b10)
      have HM10 := hid (HM9.out.below b10)
      have HR10 := hid (HR9.out.below b10 HR9.out.lt)
      have HBo10 := hid (HBo.out.trans (b10.mono HBo.out.size))
      have hs10 := b10.size
      have hsp := HBp.out.size
      clear b10 HAp HXp HPp HM9 HR9 HR6p HM6p k9 k6 HBo
      have Q0 := hid (show w10.drew.cell? ⟨w7.heap.size, 0, none⟩ = some (.slice (some ⟨g7, 0, none⟩) M7.length M7.length) ∧ w10.drew.cell? ⟨w.heap.size, 0, none⟩ = some (.slice a L.length cap) ∧ Below w10.heap.size w10 w10.drew from ⟨HX10.out.c 0 rfl, HA10.out.c 0 rfl, (Below.refl _ w10).drew⟩)
      have HS10 := hid (HS3.out.below HBo10.out)
      go_upto_region 13 with fail
      go_region_held_law (fun w' => w'.cell? ⟨w7.heap.size, 0, none⟩ = some (.slice (some ⟨g7, 0, none⟩) M7.length M7.length) ∧ w'.cell? ⟨w.heap.size, 0, none⟩ = some (.slice a L.length cap) ∧ Below w10.heap.size w10 w')
        (first | with_reducible exact Q2.out | with_reducible exact Q1.out | with_reducible exact Q0.out | with_reducible assumption)
        (first
          | (go_at_call 14; rw [← HVp.out]; refine (toPool _ a cap L (HS10.out.below ((by assumption : _ ∧ _ ∧ _).2.2)) HL2.out HU.out).mono ?_; rintro e w11 ⟨g11, M11, rfl, P11, D11, b11⟩; unfold plV; have Q1 := hid (t2_below (by assumption) b11); have HP11 := hid P11; have HD11 := hid D11; clear P11 D11 b11)
          | (go_at_call 9; refine (eqPool _ _ _ _ _ M7 M11 (HP10.out.r.below Q1.out.2.2) HP11.out.r (HD8.out.symm.trans HD11.out) (len_max HSm7.out.1) (upto_max HSm7.out.2)).mono ?_; rintro e w12 ⟨rfl, b12⟩; have Q2 := hid (t2_below Q1.out b12); clear b12))
      have HB12 := hid Q2.out.2.2
      have HX12 := hid (HX10.out.below HB12.out HX10.out.lt)
      have HP12 := hid (HP10.out.below HB12.out)
      have HM12 := hid (HM10.out.below HB12.out)
      have HR12 := hid (HR10.out.below HB12.out HR10.out.lt)
      have HBo12 := hid (HBo10.out.trans (HB12.out.mono HBo10.out.size))
      have hs12 := HB12.out.size
      clear HP11 HD11 Q0 Q1 Q2 HX10 HP10 HM10 HR10 HBo10 HB12 HS10 HA10
      have k8 := HX12.out.c 0 rfl
      go_wp2_with fail
      refine (markPool w12 wo.heap.size _ _ 1 M7 HP12.out (by decide) (tot_ok HSm7.out.1 HSm7.out.2) HSm7.out.1).mono ?_
      rintro e w13 ⟨rfl, P13, K13⟩
      have HR13 := hid (HR12.out.kept K13 (fun hb => by have := HF8.out _ hb; omega))
      have HM13 := hid (HM12.out.kept K13 (fun b hb hf => by have := HF8.out _ hf; omega))
      have HBo13 := hid (HBo12.out.trans (marked_below HP12.out HBo12.out.size K13))
      have hs13 := K13.size
      have HR6m := hid (HR6.out.below HBo13.out HR6.out.lt)
      have HM6m := hid (HM6.out.below HBo13.out)
      have HT7 := hid (tot_ok HSm7.out.1 HSm7.out.2)
      clear P13 K13 k8 HX12 HP12 HM12 HR12 HBo12
      generalize hT7 : 1 + totPv M7 = T7
      have hT70 : ¬ (T7 : Int) < 0 := by omega
      clear hT7
      have k9 := HR13.out.c 0 rfl
      have k6 := HR6m.out.c 0 rfl
      go_wp2_with fail
      refine (eqPool w13 a9 a6 c9 c6 M9 M6 HM13.out.r HM6m.out (HE9.out.trans HE6.out.symm) (len_max (HSm.out M9 HE9.out).1) (upto_max (HSm.out M9 HE9.out).2)).mono ?_
      rintro e w14 ⟨rfl, b14⟩
      have HM14 := hid (HM13.out.below b14)
      have HR14 := hid (HR13.out.below b14 HR13.out.lt)
      have HBo14 := hid (HBo13.out.trans (b14.mono HBo13.out.size))
      have hs14 := b14.size
      clear b14 HM13 HR13 HBo13 HR6m HM6m k9 k6
      have k9 := HR14.out.c 0 rfl
      go_wp2_with fail
      refine (markPool w14 w8.heap.size a9 c9 1 M9 HM14.out (by decide) (tot_ok (HSm.out M9 HE9.out).1 (HSm.out M9 HE9.out).2) (HSm.out M9 HE9.out).1).mono ?_
      rintro e w15 ⟨rfl, P15, K15⟩
      have HR15 := hid (HR14.out.kept K15 (fun hb => HN9.out _ hb rfl))
      have HM15 := hid P15
      have HBo15 := hid (HBo14.out.trans ((marked_below HM14.out (by omega) K15).mono (by omega)))
      have HT := hid (tot_ok (HSm.out M9 HE9.out).1 (HSm.out M9 HE9.out).2)
      clear P15 K15 k9 HM14 HR14 HBo14
      generalize hT : 1 + totPv M9 = T
      have HTq := hid hT
      have hT0 : ¬ (T : Int) < 0 := by omega
      clear hT
      have k9 := HR15.out.c 0 rfl
      go_wp2_with fail
      refine (heldPool w15 a9 c9 1 M9 HM15.out.r (by decide) HT.out (HSm.out M9 HE9.out).1).mono ?_
      rintro e w16 ⟨rfl, b16⟩
      rw [HTq.out]
      have HR16 := hid (HR15.out.below b16 HR15.out.lt)
      have HM16 := hid (HM15.out.below b16)
      have HBo16 := hid (HBo15.out.trans (b16.mono HBo15.out.size))
      clear b16 k9 HR15 HM15 HBo15
      have HA16 := hid (HAo.out.below HBo16.out HAo.out.lt)
      have HC16 := hid (HCo.out.below HBo16.out HCo.out.lt)
      have HS16 := hid (HS3.out.below HBo16.out)
      have hs16 := HBo16.out.size
      have hb0 : w.heap.size < w16.heap.size := by omega
      have hb1 : w.heap.size + 1 < w16.heap.size := by omega
      have Q0 := hid (show w16.drew.cell? ⟨w.heap.size, 0, none⟩ = some (.slice a L.length cap) ∧ w16.drew.cell? ⟨w.heap.size + 1, 0, none⟩ = some (.int .i64 k) ∧ w16.drew.cell? ⟨w.heap.size + 1, 1, none⟩ = some (.int .i64 v) ∧ w16.drew.cell? ⟨w.heap.size + 1, 2, none⟩ = some (.int .i64 t) ∧ w16.drew.cell? ⟨w.heap.size + 1, 3, none⟩ = some (.int .i64 m) ∧ w16.drew.cell? ⟨w.heap.size + 1, 4, none⟩ = some (.string s) ∧ Below w16.heap.size w16 w16.drew from ⟨HA16.out.c 0 rfl, HC16.out.c 0 rfl, HC16.out.c 1 rfl, HC16.out.c 2 rfl, HC16.out.c 3 rfl, HC16.out.c 4 rfl, (Below.refl _ w16).drew⟩)
      clear HAo HCo HA16 HC16
      go_upto_region 27 with fail
      go_cut [14, 15] (fun p q wr => ∃ (g : Nat) (a1 : Option Addr) (cc : Nat) (M1 : List Pv), p = .pointer (some ⟨g, 0, none⟩) ∧ q = .bool xq ∧ Hid (PBox w16 XD xq g a1 cc M1 wr))
      case first =>
        go_region_held_law (fun w' => w'.cell? ⟨w.heap.size, 0, none⟩ = some (.slice a L.length cap) ∧ w'.cell? ⟨w.heap.size + 1, 0, none⟩ = some (.int .i64 k) ∧ w'.cell? ⟨w.heap.size + 1, 1, none⟩ = some (.int .i64 v) ∧ w'.cell? ⟨w.heap.size + 1, 2, none⟩ = some (.int .i64 t) ∧ w'.cell? ⟨w.heap.size + 1, 3, none⟩ = some (.int .i64 m) ∧ w'.cell? ⟨w.heap.size + 1, 4, none⟩ = some (.string s) ∧ Below w16.heap.size w16 w')
          (first | with_reducible exact Q5.out | with_reducible exact Q4.out | with_reducible exact Q3.out | with_reducible exact Q0.out | with_reducible assumption | (with_reducible refine t6_allocd ?_ _; with_reducible exact Q0.out) | (with_reducible refine t6_alloc ?_ _; first | with_reducible assumption | with_reducible exact Q5.out | with_reducible exact Q4.out | with_reducible exact Q3.out) | (refine t6_set ?_ hb0 hb1 (by omega) _; with_reducible assumption))
          (first
            | (go_at_call 14; rw [← HVp.out]; refine (toPool _ a cap L (HS16.out.below ((by assumption : _ ∧ _ ∧ _ ∧ _ ∧ _ ∧ _ ∧ _).2.2.2.2.2.2)) HL2.out HU.out).mono ?_; rintro e w3 ⟨g3, M3, rfl, P3, D3, b3⟩; unfold plV; have Q3 := hid (t6_below (by assumption) b3); have hz3 : w16.heap.size ≤ w3.heap.size := Q3.out.2.2.2.2.2.2.size; have HP3 := hid P3; have HD3 := hid D3; have HB3 := hid b3; (first | (have hz := box_newd2 b3; have HZ := hid hz.1; have HG := hid hz.2; clear hz) | (have hz := box_new2 b3; have HZ := hid hz.1; have HG := hid hz.2; clear hz) | (have HG := hid HZ.out.lt; have HZ := hid (HZ.out.below b3 HZ.out.lt)) | skip); clear P3 D3 b3)
            | (go_at_call 18; rw [← HV.out]; refine (toOp _ k v t m s).mono ?_; rintro e w4 ⟨rfl, b4⟩; rw [HV.out]; have Q4 := hid (t6_below (by assumption) b4); have hz4 : w16.heap.size ≤ w4.heap.size := Q4.out.2.2.2.2.2.2.size; have HB4 := hid b4; (first | (have hz := box_newd2 b4; have HZ := hid hz.1; have HG := hid hz.2; clear hz) | (have hz := box_new2 b4; have HZ := hid hz.1; have HG := hid hz.2; clear hz) | (have HG := hid HZ.out.lt; have HZ := hid (HZ.out.below b4 HZ.out.lt)) | skip); (first | (have HP3 := hid (HP3.out.below b4)) | (have HP3 := hid (HP3.out.below_a b4)) | skip); clear b4)
            | (go_at_call 19; rw [← HV.out, ← HVp.out]; refine (iPoolDo _ _ _ M3 k v t m s (by first | exact HP3.out.r | exact (HP3.out.below ((Below.refl _ _).alloc (Nat.le_refl _) _)).r) (upto_data HD3.out HL2.out HU.out).1 HS2.out).mono ?_; rintro e w5 ⟨a5, c5, M5, rfl, P5, D5, b5⟩; unfold plV; rw [← poolDo_data HD3.out, HX.out] at D5 ⊢; simp only [] at D5 ⊢; have Q5 := hid (t6_below (by assumption) b5); have hz5 : w16.heap.size ≤ w5.heap.size := Q5.out.2.2.2.2.2.2.size; have HP5 := hid P5; have HD5 := hid D5; (first | (have hz := box_newd2 b5; have HZ := hid hz.1; have HG := hid hz.2; clear hz) | (have hz := box_new2 b5; have HZ := hid hz.1; have HG := hid hz.2; clear hz) | (have HG := hid HZ.out.lt; have HZ := hid (HZ.out.below b5 HZ.out.lt)) | skip); (first | (have zc := HZ.out.c 0 rfl; have zf := HZ.out.f 0) | skip); clear P5 D5 b5))
        all_goals (go_wp2_with fail; go_meet; first
          | exact ⟨_, _, _, _, rfl, rfl, hid (PBox.stored Q5.out.2.2.2.2.2.2 HZ.out rfl HP5.out (by first | omega | (simp; omega)) HG.out (by omega) HD5.out)⟩
          | exact ⟨_, _, _, _, rfl, rfl, hid (PBox.laid Q5.out.2.2.2.2.2.2 HP5.out (by first | omega | (simp; omega)) HD5.out)⟩)
      case rest =>
        obtain ⟨g14, a14, c14, M14, rfl, rfl, HG⟩ := hcut
        obtain ⟨wq, hwq⟩ : ∃ wq, wq = wc := ⟨_, rfl⟩
        subst hwq
        have HBq := hid HG.out.bel
        have HBo17 := hid (HBo16.out.trans (HBq.out.mono HBo16.out.size))
        have HR17 := hid (HR16.out.below HBq.out HR16.out.lt)
        have HM17 := hid (HM16.out.below HBq.out)
        have HR14 := hid HG.out.row
        have HM14 := hid HG.out.pv
        have HE14 := hid HG.out.dat
        have HR6q := hid (HR6.out.below HBo17.out HR6.out.lt)
        have HM6q := hid (HM6.out.below HBo17.out)
        clear Q0 HR16 HM16 HBo16 HG HS16
        have k14 := HR14.out.c 0 rfl
        have k6 := HR6q.out.c 0 rfl
        go_wp2_with fail
        refine (eqPool wq a14 a6 c14 c6 M14 M6 HM14.out.r HM6q.out (HE14.out.trans HE6.out.symm) (len_max (HSm.out M14 HE14.out).1) (upto_max (HSm.out M14 HE14.out).2)).mono ?_
        rintro e w18 ⟨rfl, b18⟩
        have HR18 := hid (HR17.out.below b18 HR17.out.lt)
        have HM18 := hid (HM17.out.below b18)
        have HBo18 := hid (HBo17.out.trans (b18.mono HBo17.out.size))
        clear b18 k14 k6 HR17 HM17 HBo17 HR14 HM14 HR6q HM6q HBq
        have k9 := HR18.out.c 0 rfl
        go_wp2_with fail
        refine (heldPool w18 a9 c9 1 M9 HM18.out.r (by decide) HT.out (HSm.out M9 HE9.out).1).mono ?_
        rintro e w19 ⟨rfl, b19⟩
        rw [HTq.out]
        have HBo19 := hid (HBo18.out.trans (b19.mono HBo18.out.size))
        clear b19 k9
        go_wp2
        go_ret
        exact ⟨rfl, HB3.out.trans (HBo19.out.mono HB3.out.size)⟩

end Go.Proofs.Ytieohdfhbfeoaaa.Pl
