/-
  The walk of spec.l3Any: what is drawn is some small disk in rows of its own, the cursor moved alone. No condition but what the walk of spec.l3Some gives.
-/
import Derived.Test.YtbnmcbbpbiofgaaAnyStep
namespace Go.Proofs.Ytbnmcbbpbiofgaa.Mem
open Go.RowKit
set_option linter.unusedVariables false

theorem infoI : (Try.prog.info? 3).map (fun i => (i.zero, i.size, i.bytes)) = some (some (.int .i64 0), 1, 8) := by kernel_rfl

theorem any_ep {D : Dk} (h : D.Any) (z : Int) (h3 : D.ep.length = 3) (hz : 0 ≤ z ∧ z ≤ 100001) : Dk.Any ⟨D.sec, D.ep ++ [z], D.pe⟩ :=
  ⟨h.s, h.st, by simp [h3], fun x hx => by rcases List.mem_append.1 hx with hx | hx; exact h.ev x hx; simp at hx; subst hx; exact hz, h.p, h.pt⟩
theorem any_set {D : Dk} (h : D.Any) (i : Nat) (z : Int) (hz : 0 ≤ z ∧ z ≤ 100001) : Dk.Any ⟨D.sec, D.ep.set i z, D.pe⟩ :=
  ⟨h.s, h.st, by rw [List.length_set]; exact h.e, fun x hx => by rcases List.mem_or_eq_of_mem_set hx with hx | rfl; exact h.ev x hx; exact hz, h.p, h.pt⟩
theorem any_pe {D : Dk} (h : D.Any) (x : Wt) (hp : D.pe.length ≤ 40) (hx : x.text.size ≤ 700) : Dk.Any ⟨D.sec, D.ep, D.pe ++ [x]⟩ :=
  ⟨h.s, h.st, h.e, h.ev, by simp; exact hp, fun y hy => by rcases List.mem_append.1 hy with hy | hy; exact h.pt y hy; simp at hy; subst hy; exact hx⟩
theorem any_sec {D : Dk} (h : D.Any) : Dk.Any ⟨[], D.ep, D.pe⟩ := ⟨by simp, fun x hx => (by cases hx), h.e, h.ev, h.p, h.pt⟩

theorem picks (j : Nat) (h : j < 4) : 0 ≤ ([0, 9, 100000, 100001] : List Int).getD j 0 ∧ ([0, 9, 100000, 100001] : List Int).getD j 0 ≤ 100001 := by
  rcases (by omega : j = 0 ∨ j = 1 ∨ j = 2 ∨ j = 3) with rfl | rfl | rfl | rfl <;> decide

set_option maxRecDepth 100000 in
set_option maxHeartbeats 8000000 in
theorem l3Any (hS : SomeDoes) (w : World) (cb : Nat) (a : Option Addr) (len cap : Nat) (zs : List Int) (E : EnvX w cb a len cap zs) (n : Int) (h0 : 0 < n) (h1 : n ≤ 1000) :
    Calls Try.prog 12 #[.pointer (some ⟨cb, 0, none⟩), .int .i64 n] w fun e w' => ∃ v D, e = .returned v ∧ D.Any ∧ DkW w' w.heap.size v D ∧ EnvX w' cb a len cap zs ∧ w.grownBy w' (some cb) := by
  obtain ⟨wb, hwb, ez, R0, B0⟩ := one_new w [.slice none 0 0, .slice none 0 0, .slice none 0 0] 28
  have HE := hid (E.below E B0)
  have HE0 := hid E
  have HR := hid R0
  have HB := hid B0
  have hcb : w.heap.size ≠ cb := Nat.ne_of_gt E.lt
  clear R0 B0 E
  go_enter Try.func12, Try.ntmps12
  go_wp2_with fail
  refine (hS wb cb a len cap zs HE.out n h0 h1).mono ?_
  rintro e w1 ⟨v, D, rfl, hr, O, E1, g1⟩
  obtain ⟨p1, c1, p2, c2, p3, c3, rfl⟩ := O.three
  obtain ⟨w2, hw2, ez2, A2, B2⟩ := one_new w1 [.slice p1 D.sec.length c1, .slice p2 D.ep.length c2, .slice p3 D.pe.length c3] 28
  have HS2 : Hid (AnySt wb cb a len cap zs w1.heap.size (.slice p1 D.sec.length c1) (.slice p2 D.ep.length c2) (.slice p3 D.pe.length c3) D w2) :=
    ⟨HE.out, g1.size, HE.out.below E1 (B2.mono g1.size), by rw [← hw2]; exact heap_alloc_new w1 _, O.below B2, Draw.grown_below g1 (B2.mono g1.size)⟩
  have HRt := hid hr
  have hnw : w.heap.size ≠ w1.heap.size := by have := HS2.out.hnb; omega
  clear A2 B2 O E1 g1 hr
  go_wp2_with fail
  generalize w1.heap.size = nb at *
  refine (onceX w2 cb a len cap zs 10 (by decide) (by decide) HS2.out.env).mono ?_
  rintro e w3 ⟨b, rfl, E3, g3⟩
  have HS3 := hid (HS2.out.draw E3 g3)
  clear E3 g3 HS2
  cases b with
  | false =>
    have HL := hid (any_res HS3.out HR.out hcb)
    have l0 := HL.out.c 0 rfl
    have l1 := HL.out.c 1 rfl
    have l2 := HL.out.c 2 rfl
    have lf0 := HL.out.f 0
    have lf1 := HL.out.f 1
    have lf2 := HL.out.f 2
    have e0 := HS3.out.c0
    have e1 := HS3.out.c1
    have e2 := HS3.out.c2
    have EN := hid (any_end HE0.out HB.out ez HS3.out HL.out)
    go_wp2
    refine bodyPost_ret (results_row rfl _ _ w.heap.size [Value.slice p1 D.sec.length c1, .slice p2 D.ep.length c2, .slice p3 D.pe.length c3] _ rfl EN.out.1 Try.underlying28 rfl (by kernel_rfl)) rfl ?_
    exact ⟨_, _, rfl, HRt.out.any, EN.out.2⟩
  | true =>
    go_wp2_with fail
    refine (belowX w3 cb a len cap zs 5 (by decide) (by decide) HS3.out.env).mono ?_
    rintro e w4 ⟨q, hq, rfl, E4, g4⟩
    have HS4 := hid (HS3.out.draw E4 g4)
    clear E4 g4 HS3
    have hp40 := HRt.out.p40
    have HE3 := hid HRt.out.e3
    by_cases q0 : q = 0
    · subst q0
      have b1 := HS4.out.c1
      have hlen : D.ep.length + 1 ≤ 1048576 := by have := HE3.out; omega
      go_wp2_with (at_builtin; go_loud (refine wpList_app 25 3 (.int .i64 0) 1 8 Try.underlying25 infoI rfl (by decide) (by decide) _ rfl (.tmp 37) (.tmp 38) rfl wb.heap.size _ D.ep.length (iCells D.ep) rfl (HS4.out.alloc _).r2 ⟨w4.heap.size, 0, none⟩ 1 1 [.int .i64 1] rfl rfl (sl_lit w4 [.int .i64 1] 3 1 rfl) (by intro u hu; simp at hu; subst hu; rfl) hlen (HS4.out.alloc _).size ?_); intro v2' w5 r5 kk hi; have HM := hid (HS4.out.moreEp kk r5 hi); obtain ⟨p2', d2', e2', _⟩ := r5.wr; subst e2'; clear r5 kk hi b1; have HS5 := hid HM.out.1; have x1 := HM.out.2.c 1 rfl; have xf := HM.out.2.f 1; have HL := hid (any_res HS5.out HR.out hcb); have l0 := HL.out.c 0 rfl; have l1 := HL.out.c 1 rfl; have l2 := HL.out.c 2 rfl; have lf0 := HL.out.f 0; have lf1 := HL.out.f 1; have lf2 := HL.out.f 2; have e0 := HS5.out.c0; have e1 := HS5.out.c1; have e2 := HS5.out.c2; have EN := hid (any_end HE0.out HB.out ez HS5.out HL.out))
      refine bodyPost_ret (results_row rfl _ _ w.heap.size [Value.slice p1 D.sec.length c1, .slice p2' (D.ep.length + 1) d2', .slice p3 D.pe.length c3] _ rfl EN.out.1 Try.underlying28 rfl (by kernel_rfl)) rfl ?_
      exact ⟨_, _, rfl, any_ep HRt.out.any 1 HE3.out (by decide), EN.out.2⟩
    by_cases q1 : q = 1
    · subst q1
      obtain ⟨g, cg, eg⟩ := HS4.out.r2.form (by have := HE3.out; omega)
      cases eg
      have HSd := hid HS4.out.drew
      have hfar := HS4.out.far2 g rfl
      have HPick : Hid (∀ w5, EnvX w5 cb a len cap zs → Calls Try.prog 14 #[.pointer (some ⟨cb, 0, none⟩), .slice (some ⟨w5.heap.size, 0, none⟩) 4 4] (w5.alloc (.cells #[.int .i64 0, .int .i64 9, .int .i64 100000, .int .i64 100001] 3)) fun e w' => ∃ z : Int, (0 ≤ z ∧ z ≤ 100001) ∧ e = .returned (.int .i64 z) ∧ EnvX w' cb a len cap zs ∧ (w5.alloc (.cells #[.int .i64 0, .int .i64 9, .int .i64 100000, .int .i64 100001] 3)).grownBy w' (some cb)) := fun w5 E5 => by
        refine (pickX _ cb a len cap zs w5.heap.size 4 [0, 9, 100000, 100001] (by decide) (by decide) (E5.below E5 ((Below.refl _ _).alloc (Nat.le_refl _) _)) (Nat.ne_of_gt E5.lt) (fun j hj => lit_ints w5 [0, 9, 100000, 100001] 3 j hj)).mono ?_
        rintro e w' ⟨j, hj, rfl, E', g'⟩
        exact ⟨_, picks j hj, rfl, E', g'⟩
      have HSa := hid (HS4.out.alloc (.cells #[.int .i64 0, .int .i64 9, .int .i64 100000, .int .i64 100001] 3)).drew
      have HLit : Hid (∀ j, j < 4 → (w4.alloc (.cells #[.int .i64 0, .int .i64 9, .int .i64 100000, .int .i64 100001] 3)).drew.cell? ⟨w4.heap.size, j, none⟩ = some (.int .i64 (([0, 9, 100000, 100001] : List Int).getD j 0))) := fun j hj => lit_ints w4 [0, 9, 100000, 100001] 3 j hj
      have hw4 : cb < w4.heap.size := HS4.out.env.lt
      clear HS4
      have b1 := HSd.out.c1
      have b1a := HSa.out.c1
      go_wp2_with fail
      go_region_with (first
        | (go_at_call 28; first
            | (refine (belowX _ cb a len cap zs 3 (by decide) (by decide) HSd.out.env).mono ?_; rintro e w5 ⟨x, hx, rfl, E5, g5⟩; have HSe := hid (HSd.out.draw E5 g5); have y1 := HSe.out.c1; have y1a := (HSe.out.alloc (.cells #[.int .i64 0, .int .i64 9, .int .i64 100000, .int .i64 100001] 3)).c1; have hxe : (x : Int) < (D.ep.length : Int) := (by have := HE3.out; omega); clear HSd HSa E5 g5)
            | (refine (belowX _ cb a len cap zs 3 (by decide) (by decide) HSa.out.env).mono ?_; rintro e w5 ⟨x, hx, rfl, E5, g5⟩; have HSg := hid (HSa.out.draw E5 g5); have y1 := HSg.out.c1; have hxe : (x : Int) < (D.ep.length : Int) := (by have := HE3.out; omega); have HLg : Hid (∀ j, j < 4 → w5.cell? ⟨w4.heap.size, j, none⟩ = some (.int .i64 (([0, 9, 100000, 100001] : List Int).getD j 0))) := (fun j hj => (cell_block (p := ⟨w4.heap.size, j, none⟩) (g5.block w4.heap.size (World.block_lt_of_cell? _ _ (HLit.out j hj)) (by simp; omega))).trans (HLit.out j hj)); clear HSd HSa E5 g5))
        | (go_at_call 14; first
            | (refine (HPick.out w5 HSe.out.env).mono ?_; rintro e w6 ⟨z, hz, rfl, E6, g6⟩; have HSf := hid ((HSe.out.alloc _).draw E6 g6); clear HSe E6 g6; have t1 := HSf.out.c1; obtain ⟨u1, u2⟩ := HSf.out.epc x (by omega); have HZ := hid hz; clear hz; have HS7 := hid (HSf.out.store hfar.1 hfar.2 (HSf.out.dk.setEp (i := x) (by omega) z)); have HL := hid (any_res HS7.out HR.out hcb); have l0 := HL.out.c 0 rfl; have l1 := HL.out.c 1 rfl; have l2 := HL.out.c 2 rfl; have lf0 := HL.out.f 0; have lf1 := HL.out.f 1; have lf2 := HL.out.f 2; have e0 := HS7.out.c0; have e1 := HS7.out.c1; have e2 := HS7.out.c2; have EN := hid (any_end HE0.out HB.out ez HS7.out HL.out))
            | (refine (pickX _ cb a len cap zs w4.heap.size 4 [0, 9, 100000, 100001] (by decide) (by decide) HSg.out.env (Nat.ne_of_gt hw4) HLg.out).mono ?_; rintro e w6 ⟨jz, hjz, rfl, E6, g6⟩; have hz := picks jz hjz; obtain ⟨z, hzz⟩ : ∃ z, ([0, 9, 100000, 100001] : List Int).getD jz 0 = z := ⟨_, rfl⟩; rw [hzz] at hz ⊢; clear hzz; have HSf := hid (HSg.out.draw E6 g6); clear HSg E6 g6; have t1 := HSf.out.c1; obtain ⟨u1, u2⟩ := HSf.out.epc x (by omega); have HZ := hid hz; clear hz; have HS7 := hid (HSf.out.store hfar.1 hfar.2 (HSf.out.dk.setEp (i := x) (by omega) z)); have HL := hid (any_res HS7.out HR.out hcb); have l0 := HL.out.c 0 rfl; have l1 := HL.out.c 1 rfl; have l2 := HL.out.c 2 rfl; have lf0 := HL.out.f 0; have lf1 := HL.out.f 1; have lf2 := HL.out.f 2; have e0 := HS7.out.c0; have e1 := HS7.out.c1; have e2 := HS7.out.c2; have EN := hid (any_end HE0.out HB.out ez HS7.out HL.out))))
      all_goals go_wp2
      all_goals (refine bodyPost_ret (results_row rfl _ _ w.heap.size [Value.slice p1 D.sec.length c1, .slice (some ⟨g, 0, none⟩) D.ep.length (cg + 1), .slice p3 D.pe.length c3] _ rfl EN.out.1 Try.underlying28 rfl (by kernel_rfl)) rfl ?_)
      all_goals exact ⟨_, _, rfl, any_set HRt.out.any x z HZ.out, EN.out.2⟩
    by_cases q2 : q = 2
    · subst q2
      have HSd := hid HS4.out.drew
      have hplen : D.pe.length + 1 ≤ 1048576 := by omega
      clear HS4
      have b2 := HSd.out.c2
      go_wp2_with fail
      go_region_law (first
        | (refine step_below (by rfl) (.tmp 58) (.const (.int .i64 7)) #[40, 3] (by rfl) cb a len cap zs 7 (by rfl) (by rfl) (by decide) (by decide) HSe.out.env ?_; intro y hy w6 E6 g6; have HSf := hid (HSe.out.draw E6 g6); have z2 := HSf.out.c2; have z2a := (HSf.out.alloc (.cells #[.int .i64 ((x : Int) - 1), .int .i64 1, .int .i64 ((y : Int) - 1), .string ⟨#[]⟩] 36)).c2; have hwy : IntKind.i64.wrap ((y : Int) - 1) = (y : Int) - 1 := (by rw [IntKind.wrap_i64]; omega); clear HSe E6 g6)
        | (refine step_below (by rfl) (.tmp 55) (.const (.int .i64 5)) #[40, 3] (by rfl) cb a len cap zs 5 (by rfl) (by rfl) (by decide) (by decide) HSd.out.env ?_; intro x hx w5 E5 g5; have HSe := hid (HSd.out.draw E5 g5); have y2 := HSe.out.c2; have hwx : IntKind.i64.wrap ((x : Int) - 1) = (x : Int) - 1 := (by rw [IntKind.wrap_i64]; omega); clear HSd E5 g5)
        | (refine step_app3 26 36 Wt.none.val 4 40 Try.underlying26 infoW rfl (by decide) (by decide) (by rfl) (.tmp 54) (.tmp 62) (by rfl) wb.heap.size (.slice p3 D.pe.length c3) D.pe.length (wCells D.pe) (by rfl) (HSf.out.alloc _).r3 ⟨w6.heap.size, 0, none⟩ 1 1 (Wt.mk ((x : Int) - 1) 1 ((y : Int) - 1) ⟨#[]⟩).cells (by rfl) rfl (sl_lit w6 (Wt.mk ((x : Int) - 1) 1 ((y : Int) - 1) ⟨#[]⟩).cells 36 4 rfl) (by intro u hu; exact wCells_one [Wt.mk ((x : Int) - 1) 1 ((y : Int) - 1) ⟨#[]⟩] u (by simpa [wCells] using hu)) hplen (HSf.out.alloc _).size ?_; intro v3' w7 r7 kk hi; have HM := hid (HSf.out.morePe (x := Wt.mk ((x : Int) - 1) 1 ((y : Int) - 1) ⟨#[]⟩) kk r7 hi); obtain ⟨p3', d3', e3', _⟩ := r7.wr; subst e3'; clear r7 kk hi HSf; have HS7 := hid HM.out.1; have m2 := HM.out.2.c 2 rfl; have mf := HM.out.2.f 2; have HL := hid (any_res HS7.out HR.out hcb); have l0 := HL.out.c 0 rfl; have l1 := HL.out.c 1 rfl; have l2 := HL.out.c 2 rfl; have lf0 := HL.out.f 0; have lf1 := HL.out.f 1; have lf2 := HL.out.f 2; have e0 := HS7.out.c0; have e1 := HS7.out.c1; have e2 := HS7.out.c2; have EN := hid (any_end HE0.out HB.out ez HS7.out HL.out)))
      all_goals go_wp2
      all_goals (refine bodyPost_ret (results_row rfl _ _ w.heap.size [Value.slice p1 D.sec.length c1, .slice p2 D.ep.length c2, .slice p3' (D.pe.length + 1) d3'] _ rfl EN.out.1 Try.underlying28 rfl (by kernel_rfl)) rfl ?_)
      all_goals exact ⟨_, _, rfl, any_pe HRt.out.any _ hp40 (by show (0 : Nat) ≤ 700; omega), EN.out.2⟩
    by_cases q3 : q = 3
    · subst q3
      obtain ⟨wx, hwx⟩ : ∃ wx, w4.alloc (.cells #[] 9) = wx := ⟨_, rfl⟩
      have Bx : Below w4.heap.size w4 wx := by rw [← hwx]; exact (Below.refl _ _).alloc (Nat.le_refl _) _
      have HSx := hid (HS4.out.below Bx)
      have HS5 : Hid (AnySt wb cb a len cap zs nb (.slice (some ⟨w4.heap.size, 0, none⟩) 0 0) (.slice p2 D.ep.length c2) (.slice p3 D.pe.length c3) ⟨[], D.ep, D.pe⟩ (wx.setCell ⟨nb, 0, none⟩ (.slice (some ⟨w4.heap.size, 0, none⟩) 0 0))) :=
        HSx.out.put (Kept.refl (fun _ => False) _) (fun b x => x.elim) 0 _ _ _ _ rfl (HSx.out.dk.noSec _)
      have x0 := HSx.out.c0
      have xf := HSx.out.f 0
      clear Bx
      have HL := hid (any_res HS5.out HR.out hcb)
      have l0 := HL.out.c 0 rfl
      have l1 := HL.out.c 1 rfl
      have l2 := HL.out.c 2 rfl
      have lf0 := HL.out.f 0
      have lf1 := HL.out.f 1
      have lf2 := HL.out.f 2
      have e0 := HS5.out.c0
      have e1 := HS5.out.c1
      have e2 := HS5.out.c2
      have EN := hid (any_end HE0.out HB.out ez HS5.out HL.out)
      go_wp2
      refine bodyPost_ret (results_row rfl _ _ w.heap.size [Value.slice (some ⟨w4.heap.size, 0, none⟩) 0 0, .slice p2 D.ep.length c2, .slice p3 D.pe.length c3] _ rfl EN.out.1 Try.underlying28 rfl (by kernel_rfl)) rfl ?_
      exact ⟨_, _, rfl, any_sec HRt.out.any, EN.out.2⟩
    obtain rfl : q = 4 := by omega
    go_wp2_with fail
    refine (belowX w4 cb a len cap zs 2 (by decide) (by decide) HS4.out.env).mono ?_
    rintro e w5 ⟨y, hy, rfl, E5, g5⟩
    have HS5 := hid (HS4.out.draw E5 g5)
    have hwy : IntKind.i64.wrap (40 + (y : Int)) = 40 + (y : Int) := by rw [IntKind.wrap_i64]; omega
    obtain ⟨g, cg, eg⟩ := HS5.out.r2.form (by have := HE3.out; omega)
    cases eg
    clear E5 g5 HS4
    go_wp2
    go_loopw [] (fun wr => ∃ (P : List Wt) (p3' : Option Addr) (c3' : Nat), P.length ≤ 41 ∧ Hid (∀ x ∈ P, x.text.size ≤ 700) ∧ Hid (AnySt wb cb a len cap zs nb (.slice p1 D.sec.length c1) (.slice (some ⟨g, 0, none⟩) D.ep.length (cg + 1)) (.slice p3' P.length c3') ⟨D.sec, D.ep, P⟩ wr)) (fun wr => match wr.cell? ⟨nb, 2, none⟩ with | some (.slice _ n _) => 41 - n | _ => 0)
    case atStart => exact ⟨D.pe, p3, c3, by omega, HRt.out.any.pt, HS5⟩
    case round =>
      obtain ⟨P, p3', c3', hP, HPt, HSr⟩ := hrel
      have e2 := HSr.out.c2
      by_cases hlt : (P.length : Int) < 40 + (y : Int)
      · obtain ⟨d3, _⟩ := HSr.out.drew.epc 0 (by have := HE3.out; show 0 < D.ep.length; omega)
        have hep : 0 < D.ep.length := by have := HE3.out; omega
        have hplen : P.length + 1 ≤ 1048576 := by omega
        have d1 := HSr.out.drew.c1
        have d2 := HSr.out.drew.c2
        generalize (Dk.mk D.sec D.ep P).ep.getD 0 0 = ee at d3
        have HSa := hid (HSr.out.alloc (.cells #[.int .i64 0, .int .i64 ee, .int .i64 0, .string ⟨#[]⟩] 36)).drew
        have d2a := HSa.out.c2
        go_wp2
        go_region_law (refine step_app3 26 36 Wt.none.val 4 40 Try.underlying26 infoW rfl (by decide) (by decide) (by rfl) (.tmp 25) (.tmp 31) (by rfl) wb.heap.size (.slice p3' P.length c3') P.length (wCells P) (by rfl) HSa.out.r3 ⟨wr.heap.size, 0, none⟩ 1 1 (Wt.mk 0 ee 0 ⟨#[]⟩).cells (by rfl) rfl (sl_lit wr.drew (Wt.mk 0 ee 0 ⟨#[]⟩).cells 36 4 rfl) (by intro u hu; exact wCells_one [(Wt.mk 0 ee 0 ⟨#[]⟩)] u (by simpa [wCells] using hu)) hplen HSa.out.size ?_; intro v3' w7 r7 kk hi; have HM := hid (HSr.out.drew.morePe (x := (Wt.mk 0 ee 0 ⟨#[]⟩)) (o := .cells #[.int .i64 0, .int .i64 ee, .int .i64 0, .string ⟨#[]⟩] 36) kk r7 hi); obtain ⟨p3'', d3'', e3', _⟩ := r7.wr; subst e3'; clear r7 kk hi; have HS7 := hid HM.out.1; have m2 := HM.out.2.c 2 rfl; have mf := HM.out.2.f 2)
        all_goals (have k2 := HS7.out.c2)
        all_goals go_wp2
        all_goals exact ⟨⟨P ++ [(Wt.mk 0 ee 0 ⟨#[]⟩)], p3'', d3'', by simp; omega, fun x hx => by rcases List.mem_append.1 hx with hx | hx; exact HPt.out x hx; simp at hx; subst hx; show (0 : Nat) ≤ 700; omega, by rw [List.length_append]; exact HS7⟩, by rw [k2, e2]; show 41 - (P.length + 1) < 41 - P.length; omega⟩
      · have hP40 : P.length ≤ 41 := hP
        have HL := hid (any_res HSr.out HR.out hcb)
        have l0 := HL.out.c 0 rfl
        have l1 := HL.out.c 1 rfl
        have l2 := HL.out.c 2 rfl
        have lf0 := HL.out.f 0
        have lf1 := HL.out.f 1
        have lf2 := HL.out.f 2
        have e0 := HSr.out.c0
        have e1 := HSr.out.c1
        have EN := hid (any_end HE0.out HB.out ez HSr.out HL.out)
        go_wp2
        refine bodyPost_ret (results_row rfl _ _ w.heap.size [Value.slice p1 D.sec.length c1, .slice (some ⟨g, 0, none⟩) D.ep.length (cg + 1), .slice p3' P.length c3'] _ rfl EN.out.1 Try.underlying28 rfl (by kernel_rfl)) rfl ?_
        have HA : Dk.Any ⟨D.sec, D.ep, P⟩ := ⟨HRt.out.any.s, HRt.out.any.st, HRt.out.any.e, HRt.out.any.ev, hP40, HPt.out⟩
        exact ⟨_, rfl, ⟨D.sec, D.ep, P⟩, HA, EN.out.2⟩

end Go.Proofs.Ytbnmcbbpbiofgaa.Mem
