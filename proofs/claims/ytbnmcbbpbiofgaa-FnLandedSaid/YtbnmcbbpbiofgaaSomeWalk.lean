/-
  The walk of spec.l3Some: the disk that it draws is right, and lies in rows of its own. No condition but a bound that is small.
-/
import Derived.Test.YtbnmcbbpbiofgaaSomeParts
import Derived.Deep.RegionWith
import Derived.Deep.RegionHeldLaw
namespace Go.Proofs.Ytbnmcbbpbiofgaa.Mem
open Go.RowKit Classical
set_option linter.unusedVariables false

theorem fresh_right' {n : Nat} (h1 : 1 ≤ n) (h2 : n ≤ 40) : (Dk.fresh n).Right := by
  refine right_of (by simpa [Dk.fresh] using h1) (by simpa [Dk.fresh] using h2) rfl (by simp [Dk.fresh]) (fun x hx => ?_) (fun x hx => ?_) (fun x hx => by simp [Dk.fresh] at hx)
  · have := List.eq_of_mem_replicate (show x ∈ List.replicate n ByteArray.empty from hx)
    subst this
    decide
  · have : x = 1 := by simpa [Dk.fresh] using hx
    omega

/-- The three lists of a disk are slices. -/
theorem DkO.forms {w : World} {B : Nat} {v : Value} {D : Dk} (h : DkO w B v D) : ∃ p1 c1 p2 c2 p3 c3, v = .agg #[.slice p1 D.sec.length c1, .slice p2 D.ep.length c2, .slice p3 D.pe.length c3] := by
  obtain ⟨v1, v2, v3, rfl, r1, r2, r3, _, _⟩ := h
  obtain ⟨a1, c1, e1, _⟩ := r1.wr
  obtain ⟨a2, c2, e2, _⟩ := r2.wr
  obtain ⟨a3, c3, e3, _⟩ := r3.wr
  exact ⟨a1, c1, a2, c2, a3, c3, by rw [e1, e2, e3]⟩

set_option maxRecDepth 100000 in
set_option maxHeartbeats 20000000 in
theorem l3Some (w : World) (cb : Nat) (a : Option Addr) (len cap : Nat) (zs : List Int) (E : EnvX w cb a len cap zs) (n : Int) (h0 : 0 < n) (h1 : n ≤ 1000) :
    Calls Try.prog 26 #[.pointer (some ⟨cb, 0, none⟩), .int .i64 n] w fun e w' => ∃ v D, e = .returned v ∧ D.Right ∧ DkO w' w.heap.size v D ∧ EnvX w' cb a len cap zs ∧ w.grownBy w' (some cb) := by
  obtain ⟨wb, hwb, ez, R0, B0⟩ := one_new w [.slice none 0 0, .slice none 0 0, .slice none 0 0] 28
  have HE := hid (E.below E B0)
  have HE0 := hid E
  have HR := hid R0
  have HB := hid B0
  clear R0 B0 E
  go_enter Try.func26, Try.ntmps26
  go_wp2_with fail
  refine (belowX wb cb a len cap zs 5 (by omega) (by omega) HE.out).mono ?_
  rintro e w1 ⟨x, hx, rfl, hE1, hg1⟩
  have HE1 := hid hE1
  have HG1 := hid hg1
  clear hE1 hg1
  go_wp2_with fail
  refine (specNew w1 (1 + (x : Int))).mono ?_
  rintro e w2 ⟨v, rfl, O, b2⟩
  have e1 : Dk.newA (1 + (x : Int)) = (Dk.fresh (x + 1), true) := by
    unfold Dk.newA; rw [if_pos ⟨by omega, by omega⟩, show (1 + (x : Int)).toNat = x + 1 by omega]
  rw [e1] at O ⊢
  have HDR := hid (fresh_right' (n := x + 1) (by omega) (by omega))
  generalize Dk.fresh (x + 1) = D0 at *
  obtain ⟨p1, c1, p2, c2, p3, c3, rfl⟩ := O.forms
  have HO := hid (O.mono HG1.out.size)
  have HG2 := hid (Draw.grown_below HG1.out (b2.mono HG1.out.size))
  have HE2 := hid (HE1.out.below HE1.out b2)
  clear O b2 e1
  go_wp2_with fail
  obtain ⟨w3, hw3, e3, N3, B3⟩ := one_new w2 [.slice p1 D0.sec.length c1, .slice p2 D0.ep.length c2, .slice p3 D0.pe.length c3] 28
  have HS3 : Hid (SomeSt wb cb a len cap zs w2.heap.size (.slice p1 D0.sec.length c1) (.slice p2 D0.ep.length c2) (.slice p3 D0.pe.length c3) D0 w3) :=
    ⟨HE.out, HG2.out.size, HE2.out.below HE2.out B3, by rw [← hw3]; exact heap_alloc_new w2 _, HO.out.below B3, HDR.out, Draw.grown_below HG2.out (B3.mono HG2.out.size)⟩
  simp only [hw3]
  generalize w2.heap.size = nb at *
  clear hw3 e3 N3 B3 hwb HO HG2 HE2 HG1 HE1
  refine (belowX w3 cb a len cap zs n h0 (by omega) HS3.out.env).mono ?_
  rintro e w4 ⟨y, hy, rfl, hE4, hg4⟩
  have HS4 := hid (HS3.out.draw hE4 hg4)
  clear HS3 hE4 hg4
  go_wp2_with fail
  go_loopw [7] (fun i wr => ∃ (k : Nat) (v1 v2 v3 : Value) (D : Dk), k ≤ 1000 ∧ i = .int .i64 (k : Int) ∧ Hid (SomeSt wb cb a len cap zs nb v1 v2 v3 D wr)) (fun i _ => (intOf i).toNat)
  case atStart => exact ⟨y, _, _, _, D0, by omega, rfl, HS4⟩
  case round =>
    clear HS4 hx hy
    obtain ⟨k, u1, u2, u3, D, hk, rfl, HS⟩ := hrel
    obtain ⟨p1, c1, p2, c2, p3, c3, ev⟩ := HS.out.dk.forms
    cases ev
    by_cases hlt : 0 < k
    · go_wp2_with fail
      refine (belowX wr cb a len cap zs 3 (by omega) (by omega) HS.out.env).mono ?_
      rintro e w5 ⟨hh, hh3, rfl, hE5, hg5⟩
      have HS5 := hid (HS.out.draw hE5 hg5)
      clear HS hE5 hg5
      go_wp2_with fail
      refine (belowX w5 cb a len cap zs 9 (by omega) (by omega) HS5.out.env).mono ?_
      rintro e w6 ⟨q, hq, rfl, hE6, hg6⟩
      have HS6 := hid (HS5.out.draw hE6 hg6)
      clear HS5 hE6 hg6
      by_cases q1 : q = 1
      · subst q1
        have c0 := HS6.out.c0
        have c1 := HS6.out.c1
        have c2 := HS6.out.c2
        have f0 := HS6.out.f 0
        have f1 := HS6.out.f 1
        have f2 := HS6.out.f 2
        go_wp2_with fail
        refine (l3FenceK w6 wb.heap.size _ D (hh : Int) HS6.out.dk HS6.out.grown.size HS6.out.right.fit HS6.out.right.held.1 HS6.out.right.ep_in).mono ?_
        rintro e w7 ⟨v, rfl, O, b7, k7⟩
        obtain ⟨r1, d1, r2, d2, r3, d3, rfl⟩ := O.forms
        have HS7 := hid (HS6.out.step O (HS6.out.right.fence _) b7 k7)
        have HL := hid (HS6.out.left k7)
        clear HS6 O b7 k7 c0 c1 c2 f0 f1 f2
        have c0 := HL.out.c 0 rfl
        have c1 := HL.out.c 1 rfl
        have c2 := HL.out.c 2 rfl
        have f0 := HL.out.f 0
        have f1 := HL.out.f 1
        have f2 := HL.out.f 2
        go_wp2
        exact ⟨⟨k - 1, _, _, _, _, by omega, by go_num, HS7⟩, by simp [intOf]; omega⟩
      by_cases q0 : q = 0
      · subst q0
        obtain ⟨g, cg, eg, hge⟩ := HS6.out.ep hh (by omega)
        have he3 : (hh : Int) < (D.ep.length : Int) := by have := HS6.out.right.e3; omega
        cases eg
        generalize hyy : D.ep.getD hh 0 = yy at hge
        clear hyy
        have c0 := HS6.out.c0
        have c1 := HS6.out.c1
        have c2 := HS6.out.c2
        have HSd := hid HS6.out.drew
        clear HS6
        go_wp2_with fail
        go_region_with (go_at_call 35; refine (l3FlushK _ wb.heap.size _ D (hh : Int) yy HSd.out.dk HSd.out.grown.size HSd.out.right.fit HSd.out.right.held.1 HSd.out.right.sec_in).mono ?_; rintro e w7 ⟨v, rfl, O, b7, k7⟩; obtain ⟨r1, d1, r2, d2, r3, d3, rfl⟩ := O.forms; have HS7 := hid (HSd.out.step O (HSd.out.right.flush _ _) b7 k7); have HL := hid (HSd.out.left k7); clear HSd O b7 k7 c0 c1 c2; have c0 := HL.out.c 0 rfl; have c1 := HL.out.c 1 rfl; have c2 := HL.out.c 2 rfl; have f0 := HL.out.f 0; have f1 := HL.out.f 1; have f2 := HL.out.f 2)
        all_goals (go_wp2; exact ⟨⟨k - 1, _, _, _, _, by omega, by go_num, HS7⟩, by simp [intOf]; omega⟩)
      by_cases q2 : q = 2
      · subst q2
        have hp40 := HS6.out.right.p40
        have hwr : IntKind.i64.wrap ((D.pe.length : Int) + 1) = (D.pe.length : Int) + 1 := by rw [IntKind.wrap_i64]; omega
        have hn0 : (0 : Int) < (D.pe.length : Int) + 1 := by omega
        have hn1 : (D.pe.length : Int) + 1 ≤ 1000000000 := by omega
        have c0 := HS6.out.c0
        have c1 := HS6.out.c1
        have c2 := HS6.out.c2
        have HSd := hid HS6.out.drew
        clear HS6
        go_wp2_with fail
        go_region_with (first
          | (go_at_call 28; refine (belowX _ cb a len cap zs ((D.pe.length : Int) + 1) hn0 hn1 HSd.out.env).mono ?_; rintro e w7 ⟨i, hi, rfl, hE7, hg7⟩; have HSe := hid (HSd.out.draw hE7 hg7); clear HSd hE7 hg7 c0 c1 c2; have c0 := HSe.out.c0; have c1 := HSe.out.c1; have c2 := HSe.out.c2)
          | (go_at_call 37; refine (l3LandK _ wb.heap.size _ D (i : Int) HSe.out.dk HSe.out.grown.size HSe.out.right.fit HSe.out.right.held.1 HSe.out.right.sec_in).mono ?_; rintro e w8 ⟨v, rfl, O, b8, k8⟩; obtain ⟨r1, d1, r2, d2, r3, d3, rfl⟩ := O.forms; have HS8 := hid (HSe.out.step O (HSe.out.right.land _) b8 k8); have HL := hid (HSe.out.left k8); clear HSe O b8 k8 c0 c1 c2; have c0 := HL.out.c 0 rfl; have c1 := HL.out.c 1 rfl; have c2 := HL.out.c 2 rfl; have f0 := HL.out.f 0; have f1 := HL.out.f 1; have f2 := HL.out.f 2))
        all_goals (go_wp2; exact ⟨⟨k - 1, _, _, _, _, by omega, by go_num, HS8⟩, by simp [intOf]; omega⟩)
      obtain ⟨g, cg, eg, hge⟩ := HS6.out.ep hh (by omega)
      have he3 : (hh : Int) < (D.ep.length : Int) := by have := HS6.out.right.e3; omega
      cases eg
      have hh3' : hh < 3 := by omega
      have hq3 : 2 < q := by omega
      have hn0 : (0 : Int) < (D.sec.length : Int) := by have := HS6.out.right.n1; omega
      have hn1 : (D.sec.length : Int) ≤ 1000000000 := by have := HS6.out.right.n2; omega
      obtain ⟨yy, hyy⟩ : ∃ yy, D.ep.getD hh 0 = yy := ⟨_, rfl⟩
      have HYY := hid hyy
      have HSd := hid HS6.out.drew
      have Q0 := hid (show w6.drew.cell? ⟨nb, 0, none⟩ = some (.slice p1 D.sec.length c1) ∧ w6.drew.cell? ⟨nb, 1, none⟩ = some (.slice (some ⟨g, 0, none⟩) D.ep.length (cg + 1)) ∧ w6.drew.cell? ⟨nb, 2, none⟩ = some (.slice p3 D.pe.length c3) ∧ w6.drew.cell? ⟨g, hh, none⟩ = some (.int .i64 yy) from ⟨HSd.out.c0, HSd.out.c1, HSd.out.c2, by rw [HSd.out.epAt hh hh3', hyy]⟩)
      clear HS6 hge hyy q0 q1 q2
      go_wp2_with fail
      have c0 := Q0.out.1
      have c1' := Q0.out.2.1
      have c2' := Q0.out.2.2.1
      have c3' := Q0.out.2.2.2
      go_region_with
        (first
          | (go_at_call 28; refine (belowX _ cb a len cap zs (D.sec.length : Int) hn0 hn1 HSd.out.env).mono ?_; rintro e w7 ⟨i, hi, rfl, hE7, hg7⟩; have HSe := hid (HSd.out.draw hE7 hg7); have Q1 := hid (show w7.cell? ⟨nb, 0, none⟩ = some (.slice p1 D.sec.length c1) ∧ w7.cell? ⟨nb, 1, none⟩ = some (.slice (some ⟨g, 0, none⟩) D.ep.length (cg + 1)) ∧ w7.cell? ⟨nb, 2, none⟩ = some (.slice p3 D.pe.length c3) ∧ w7.cell? ⟨g, hh, none⟩ = some (.int .i64 yy) from ⟨HSe.out.c0, HSe.out.c1, HSe.out.c2, by rw [HSe.out.epAt hh hh3', HYY.out]⟩); clear HSd hE7 hg7; have x0 := Q1.out.1; have x1 := Q1.out.2.1; have x2 := Q1.out.2.2.1; have x3 := Q1.out.2.2.2)
          | (go_at_call 39; refine (textX _ cb a len cap zs 6 (by decide) (by decide) HSe.out.env).mono ?_; rintro e w8 ⟨tx, htx, rfl, hE8, hg8⟩; have HSf := hid (HSe.out.draw hE8 hg8); have Q2 := hid (show w8.cell? ⟨nb, 0, none⟩ = some (.slice p1 D.sec.length c1) ∧ w8.cell? ⟨nb, 1, none⟩ = some (.slice (some ⟨g, 0, none⟩) D.ep.length (cg + 1)) ∧ w8.cell? ⟨nb, 2, none⟩ = some (.slice p3 D.pe.length c3) ∧ w8.cell? ⟨g, hh, none⟩ = some (.int .i64 yy) from ⟨HSf.out.c0, HSf.out.c1, HSf.out.c2, by rw [HSf.out.epAt hh hh3', HYY.out]⟩); clear HSe hE8 hg8; have y0 := Q2.out.1; have y1 := Q2.out.2.1; have y2 := Q2.out.2.2.1; have y3 := Q2.out.2.2.2)
          | (go_at_call 38; refine (l3PutK _ wb.heap.size _ D (hh : Int) yy (i : Int) tx HSf.out.dk HSf.out.grown.size HSf.out.right.fit HSf.out.right.held.1 (by unfold maxLen; omega)).mono ?_; rintro e w9 ⟨v, rfl, O, b9, k9⟩; obtain ⟨r1, d1, r2, d2, r3, d3, rfl⟩ := O.forms; have HS9 := hid (HSf.out.step O (HSf.out.right.put _ _ _ _) b9 (k9.mono (fun b _ e => e.dk))); have HL := hid (HSf.out.left (k9.mono (fun b _ e => e.dk))); have Q3 := hid (show w9.cell? ⟨nb, 0, none⟩ = some (.slice p1 D.sec.length c1) ∧ w9.cell? ⟨nb, 1, none⟩ = some (.slice (some ⟨g, 0, none⟩) D.ep.length (cg + 1)) ∧ w9.cell? ⟨nb, 2, none⟩ = some (.slice p3 D.pe.length c3) ∧ w9.cell? ⟨g, hh, none⟩ = some (.int .i64 yy) from ⟨HL.out.c 0 rfl, HL.out.c 1 rfl, HL.out.c 2 rfl, HSf.out.epLeft Q2.out.2.2.2 k9⟩); clear HSf O b9 k9; have z0 := Q3.out.1; have z1 := Q3.out.2.1; have z2 := Q3.out.2.2.1; have f0 := HL.out.f 0; have f1 := HL.out.f 1; have f2 := HL.out.f 2))
      all_goals (go_wp2; exact ⟨⟨k - 1, _, _, _, _, by omega, by go_num, HS9⟩, by simp [intOf]; omega⟩)
    obtain rfl : k = 0 := by omega
    have c0 := HS.out.c0
    have c1 := HS.out.c1
    have c2 := HS.out.c2
    go_wp2_with fail
    refine (l3Copy wr _ D HS.out.dk.read (by have := HS.out.right.n2; omega) (by have := HS.out.right.e3; omega) (by have := HS.out.right.p40; omega)).mono ?_
    rintro e w7 ⟨v, rfl, O, b7⟩
    obtain ⟨r1, d1, r2, d2, r3, d3, rfl⟩ := O.forms
    have hcb : w.heap.size ≠ cb := Nat.ne_of_gt HE0.out.lt
    have HL := hid ((some_res HS.out HR.out hcb).below b7 (some_res HS.out HR.out hcb).lt)
    have HS7 := hid (HS.out.below b7)
    have HO := hid O
    have hz := HS.out.grown.size
    clear O HS b7 c0 c1 c2
    have c0 := HL.out.c 0 rfl
    have c1 := HL.out.c 1 rfl
    have c2 := HL.out.c 2 rfl
    have f0 := HL.out.f 0
    have f1 := HL.out.f 1
    have f2 := HL.out.f 2
    have EN := hid (some_end HE0.out HB.out ez HS7.out HO.out (by omega) HL.out)
    go_wp2
    refine bodyPost_ret (results_row rfl _ _ w.heap.size [.slice r1 D.sec.length d1, .slice r2 D.ep.length d2, .slice r3 D.pe.length d3] _ rfl EN.out.1 Try.underlying28 rfl (by kernel_rfl)) rfl ?_
    exact ⟨_, D, rfl, HS7.out.right, EN.out.2⟩

end Go.Proofs.Ytbnmcbbpbiofgaa.Mem
