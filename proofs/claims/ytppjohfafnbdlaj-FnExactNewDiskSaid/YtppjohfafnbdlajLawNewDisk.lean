/-
  The walk of laws.FnExactNewDisk: at every number the law answers true, and nothing that was there is changed. No condition.
-/
import Derived.Test.YtppjohfafnbdlajImplNew2
import Derived.Test.YtppjohfafnbdlajLawParts
import Derived.Test.YtppjohfafnbdlajRightHeld
namespace Go.Proofs.Ytppjohfafnbdlaj.Mem
open Go.RowKit Classical
set_option linter.unusedVariables false

theorem fresh_right {n : Nat} (h1 : 1 ≤ n) (h2 : n ≤ 40) : (Dk.fresh n).Right := by
  refine right_of (by simp [Dk.fresh]; omega) (by simp [Dk.fresh]; omega) rfl (by simp [Dk.fresh]) (fun x hx => ?_) (fun x hx => ?_) (fun x hx => by simp [Dk.fresh] at hx)
  · have := List.eq_of_mem_replicate hx
    subst this
    decide
  · simp [Dk.fresh] at hx
    subst hx
    decide

theorem newA_held (n : Int) : (Dk.newA n).1.Held ∧ (Dk.newA n).1.sec.length + (Dk.newA n).1.ep.length + (Dk.newA n).1.pe.length * 4 ≤ 16777216 := by
  unfold Dk.newA
  split
  · exact (fresh_right (by omega) (by omega)).held
  · exact nil_held

structure NSt (w : World) (nu : Nat) (u0 u1 u2 : Value) (E : Dk) (ng : Nat) (g0 g1 g2 : Value) (wk : World) : Prop where
  bel : Below w.heap.size w wk
  ru : Row wk nu [u0, u1, u2]
  du : DkR wk (.agg #[u0, u1, u2]) E
  fu : ∀ b, DkFoot (.agg #[u0, u1, u2]) b → b < nu
  rg : Row wk ng [g0, g1, g2]
  lu : w.heap.size ≤ nu

theorem NSt.below {w : World} {nu : Nat} {u0 u1 u2 : Value} {E : Dk} {ng : Nat} {g0 g1 g2 : Value} {wk w' : World} (h : NSt w nu u0 u1 u2 E ng g0 g1 g2 wk) (b : Below wk.heap.size wk w') : NSt w nu u0 u1 u2 E ng g0 g1 g2 w' :=
  ⟨h.bel.trans (b.mono h.bel.size), h.ru.below b h.ru.lt, h.du.below b, h.fu, h.rg.below b h.rg.lt, h.lu⟩

theorem NSt.kept {S : Nat → Prop} {w : World} {nu : Nat} {u0 u1 u2 : Value} {E : Dk} {ng : Nat} {g0 g1 g2 : Value} {wk w' : World} (h : NSt w nu u0 u1 u2 E ng g0 g1 g2 wk) (k : Kept S wk w') (hS : ∀ b, S b → nu < b ∧ b < ng) : NSt w nu u0 u1 u2 E ng g0 g1 g2 w' :=
  ⟨h.bel.trans (k.below h.bel.size (fun b hb x => by have := hS b x; have := h.lu; omega)), h.ru.kept k (fun x => by have := hS _ x; omega), h.du.kept k (fun b hb x => by have := hS _ x; have := h.fu b hb; omega), h.fu, h.rg.kept k (fun x => by have := hS _ x; omega), h.lu⟩

theorem NSt.cells {w : World} {nu : Nat} {u0 u1 u2 : Value} {E : Dk} {ng : Nat} {g0 g1 g2 : Value} {wk : World} (h : NSt w nu u0 u1 u2 E ng g0 g1 g2 wk) :
    wk.cell? ⟨nu, 0, none⟩ = some u0 ∧ wk.cell? ⟨nu, 1, none⟩ = some u1 ∧ wk.cell? ⟨nu, 2, none⟩ = some u2 ∧ wk.cell? ⟨ng, 0, none⟩ = some g0 ∧ wk.cell? ⟨ng, 1, none⟩ = some g1 ∧ wk.cell? ⟨ng, 2, none⟩ = some g2 :=
  ⟨h.ru.c 0 rfl, h.ru.c 1 rfl, h.ru.c 2 rfl, h.rg.c 0 rfl, h.rg.c 1 rfl, h.rg.c 2 rfl⟩

set_option maxRecDepth 100000 in
set_option maxHeartbeats 4000000 in
theorem lawNewDisk (w : World) (n : Int) : Calls Try.prog 4 #[.int .i64 n] w fun e w' => e = .returned (.bool true) ∧ Below w.heap.size w w' := by
  have SP := fun w => specNew w n
  have IM := fun w => implNew w n
  have he := newA_held n
  generalize Dk.newA n = P at *
  obtain ⟨E, c⟩ := P
  simp only [] at SP IM he
  have HS := hid SP
  have HI := hid IM
  have HE := hid he
  clear SP IM he
  go_enter Try.func4, Try.ntmps4
  go_wp2_with fail
  refine (HS.out w).mono ?_
  rintro e w1 ⟨u, rfl, O1, b1⟩
  have HU := hid O1.read
  obtain ⟨p1, q1, p2, q2, p3, q3, rfl, _, _, _, _, _⟩ := O1.w
  clear O1
  obtain ⟨wd, hwd, ed, W0, B0⟩ := one_new w1 [.slice p1 E.sec.length q1, .slice p2 E.ep.length q2, .slice p3 E.pe.length q3] 31
  have HW := hid W0
  have HB0 := hid B0
  have HB1 := hid b1
  clear W0 B0 ed b1
  go_wp2_with fail
  clear hwd
  refine (HI.out wd).mono ?_
  rintro e w2 ⟨g, rfl, E2, b2⟩
  have HG2 := hid E2
  obtain ⟨r1, s1, r2, s2, r3, s3, rfl, _, _, _, _, _⟩ := E2
  obtain ⟨we, hwe, ee, G0, Be⟩ := one_new w2 [.slice r1 E.sec.length s1, .slice r2 E.ep.length s2, .slice r3 E.pe.length s3] 31
  have HGe := hid (HG2.out.below Be)
  have HF := hid (show ∀ b, DkFoot (.agg #[.slice r1 E.sec.length s1, .slice r2 E.ep.length s2, .slice r3 E.pe.length s3]) b → w1.heap.size < b ∧ b < w2.heap.size from fun b hb => ⟨by have := HG2.out.foot_ge hb; have := HW.out.lt; omega, HG2.out.read.foot_lt hb⟩)
  have L := hid (NSt.mk (E := E) (((HB1.out.trans (HB0.out.mono HB1.out.size)).trans (b2.mono (Nat.le_trans HB1.out.size HB0.out.size))).trans (Be.mono (Nat.le_trans (Nat.le_trans HB1.out.size HB0.out.size) b2.size))) ((HW.out.below b2 HW.out.lt).below Be (HW.out.below b2 HW.out.lt).lt) (((HU.out.below HB0.out).below b2).below Be) (fun b hb => HU.out.foot_lt hb) G0 HB1.out.size)
  clear HG2 G0 Be ee b2 HU HW HB0 HB1
  obtain ⟨u0, u1, u2, g0, g1, g2⟩ := L.out.cells
  have hee : decide (E = E) = true := decide_eq_true rfl
  go_wp2_with fail
  clear hwe u0 u1 u2 g0 g1 g2
  refine (eqDisk we _ _ E E HGe.out.read L.out.du HE.out.1 HE.out.1).mono ?_
  rintro e w3 ⟨rfl, b3⟩
  have L3 := hid (L.out.below b3)
  have HG3 := hid (HGe.out.below b3)
  clear L HGe b3
  obtain ⟨u0, u1, u2, g0, g1, g2⟩ := L3.out.cells
  have hl1 := HE.out.2
  obtain ⟨N, hN⟩ : ∃ N : Nat, 1 + E.sec.length + E.ep.length + E.pe.length * 4 = N := ⟨_, rfl⟩
  have hN0 : ¬ ((N : Nat) : Int) < 0 := by omega
  have HN := hid hN
  clear hN
  go_wp2_with fail
  refine (markDisk _ wd.heap.size _ E 1 HG3.out (by decide) (by omega)).mono ?_
  rintro e w4 ⟨e4, M4, k4⟩
  rw [HN.out] at e4
  subst e4
  have L4 := hid (L3.out.kept k4 HF.out)
  have HM4 := hid M4
  clear L3 HG3 M4 k4 u0 u1 u2 g0 g1 g2
  obtain ⟨u0, u1, u2, g0, g1, g2⟩ := L4.out.cells
  go_wp2_with fail
  refine (heldDisk _ _ E.sec.length E.ep.length E.pe.length 1 HM4.out (by decide) (by omega)).mono ?_
  rintro e w5 ⟨e5, b5⟩
  rw [HN.out] at e5
  subst e5
  have L5 := hid (L4.out.below b5)
  have HM5 := hid (HM4.out.below b5)
  clear L4 HM4 b5 u0 u1 u2 g0 g1 g2
  obtain ⟨u0, u1, u2, g0, g1, g2⟩ := L5.out.cells
  go_wp2_with fail
  refine (HI.out w5).mono ?_
  rintro e w6 ⟨y, rfl, E6, b6⟩
  have L6 := hid (L5.out.below b6)
  have HM6 := hid (HM5.out.below b6)
  have HR6 := hid E6.read
  obtain ⟨t1, o1, t2, o2, t3, o3, rfl, _, _, _, _, _⟩ := E6
  clear L5 HM5 b6 u0 u1 u2 g0 g1 g2
  obtain ⟨wh, hwh, eh, H0, Bh⟩ := one_new w6 [.slice t1 E.sec.length o1, .slice t2 E.ep.length o2, .slice t3 E.pe.length o3] 31
  obtain ⟨u0, u1, u2, g0, g1, g2⟩ := (L6.out.below Bh).cells
  obtain ⟨h0, h1, h2⟩ := H0.cells3
  go_wp2_with fail
  clear hwh h0 h1 h2
  refine (eqDisk wh _ _ E E (HR6.out.below Bh) (L6.out.below Bh).du HE.out.1 HE.out.1).mono ?_
  rintro e w7 ⟨rfl, b7⟩
  have L7 := hid ((L6.out.below Bh).below b7)
  have HM7 := hid ((HM6.out.below Bh).below b7)
  clear L6 HM6 HR6 Bh b7 H0 eh u0 u1 u2 g0 g1 g2
  obtain ⟨u0, u1, u2, g0, g1, g2⟩ := L7.out.cells
  go_wp2_with fail
  refine (heldDisk _ _ E.sec.length E.ep.length E.pe.length 1 HM7.out (by decide) (by omega)).mono ?_
  rintro e w8 ⟨e8, b8⟩
  rw [HN.out] at e8
  subst e8
  have L8 := hid (L7.out.bel.trans (b8.mono L7.out.bel.size))
  clear L7 b8 u0 u1 u2 g0 g1 g2
  go_wp2
  go_ret
  exact ⟨rfl, L8.out⟩

end Go.Proofs.Ytppjohfafnbdlaj.Mem
