/-
  The walk of laws.FnDisk: the law answers true, and nothing that was there is changed. No condition but what the walk of spec.l3Any gives, and a code of at most 2^20 bytes.
-/
import Derived.Deep.DeepCutAuto
import Derived.Deep.RegionHeldLaw
import Derived.Test.YtnkipjlkhnmilaaJoin1
import Derived.Test.YtnkipjlkhnmilaaJoin2
namespace Go.Proofs.Ytnkipjlkhnmilaa.Mem
open Go.RowKit Classical
set_option linter.unusedVariables false

/-- Two disks in their boxes. -/
structure TwoD (w0 : World) (g1 g2 : Nat) (xs ys : List Value) (D X : Dk) (w : World) : Prop where
  b1 : Row w g1 xs
  b2 : Row w g2 ys
  d1 : DkR w (.agg xs.toArray) D
  d2 : DkR w (.agg ys.toArray) X
  bel : Below w0.heap.size w0 w

theorem TwoD.below {w0 w w' : World} {g1 g2 : Nat} {xs ys : List Value} {D X : Dk} (h : TwoD w0 g1 g2 xs ys D X w) (b : Below w.heap.size w w') : TwoD w0 g1 g2 xs ys D X w' :=
  ⟨h.b1.below b h.b1.lt, h.b2.below b h.b2.lt, h.d1.below b, h.d2.below b, h.bel.trans (b.mono h.bel.size)⟩
theorem TwoD.alloc {w0 w : World} {g1 g2 : Nat} {xs ys : List Value} {D X : Dk} (h : TwoD w0 g1 g2 xs ys D X w) (o : Obj) : TwoD w0 g1 g2 xs ys D X (w.alloc o) := h.below ((Below.refl _ _).alloc (Nat.le_refl _) o)

theorem sixD {w0 w : World} {g1 g2 : Nat} {x1 x2 x3 y1 y2 y3 : Value} {D X : Dk} (h : TwoD w0 g1 g2 [x1, x2, x3] [y1, y2, y3] D X w) : w.cell? ⟨g1, 0, none⟩ = some x1 ∧ w.cell? ⟨g1, 1, none⟩ = some x2 ∧ w.cell? ⟨g1, 2, none⟩ = some x3 ∧ w.cell? ⟨g2, 0, none⟩ = some y1 ∧ w.cell? ⟨g2, 1, none⟩ = some y2 ∧ w.cell? ⟨g2, 2, none⟩ = some y3 :=
  ⟨h.b1.c 0 rfl, h.b1.c 1 rfl, h.b1.c 2 rfl, h.b2.c 0 rfl, h.b2.c 1 rfl, h.b2.c 2 rfl⟩

theorem dk_partsD {w : World} {a1 a2 a3 : Option Addr} {c1 c2 c3 : Nat} {D : Dk} (h : DkR w (.agg #[.slice a1 D.sec.length c1, .slice a2 D.ep.length c2, .slice a3 D.pe.length c3]) D) : Strs w a1 D.sec ∧ Ints w a2 D.ep ∧ Wts w a3 D.pe := by
  obtain ⟨_, _, _, _, _, _, e, s1, s2, s3⟩ := h
  cases e
  exact ⟨s1, s2, s3⟩

theorem right_smallD {D : Dk} (h : D.Right) : D.Small 1048576 := by
  have h1 := h.n2
  have h2 := h.e3
  have h3 := h.p40
  exact ⟨by omega, by omega, by omega, fun s hs => by have := h.sm s hs; omega, fun x hx => by have := (h.pm x hx).2.2.2.2; omega⟩

theorem nil_smallD : Dk.nil.Small 1048576 := ⟨by simp [Dk.nil], by simp [Dk.nil], by simp [Dk.nil], by simp [Dk.nil], by simp [Dk.nil]⟩

theorem xs_alloc {w w' : World} {gb : Nat} {x0 x1 x2 : Value} (h : w'.cell? ⟨gb, 0, none⟩ = some x0 ∧ w'.cell? ⟨gb, 1, none⟩ = some x1 ∧ w'.cell? ⟨gb, 2, none⟩ = some x2 ∧ Below w.heap.size w w') (o : Obj) :
    (w'.alloc o).cell? ⟨gb, 0, none⟩ = some x0 ∧ (w'.alloc o).cell? ⟨gb, 1, none⟩ = some x1 ∧ (w'.alloc o).cell? ⟨gb, 2, none⟩ = some x2 ∧ Below w.heap.size w (w'.alloc o) := by
  obtain ⟨h0, h1, h2, h3⟩ := h
  have b : Below w'.heap.size w' (w'.alloc o) := (Below.refl _ _).alloc (Nat.le_refl _) o
  have go : ∀ {p : Addr} {u : Value}, w'.cell? p = some u → (w'.alloc o).cell? p = some u := fun {p} {u} hu => (b.cell (World.block_lt_of_cell? w' _ hu)).trans hu
  exact ⟨go h0, go h1, go h2, h3.alloc h3.size _⟩

theorem xs_below {w w' w'' : World} {gb : Nat} {x0 x1 x2 : Value} (h : w'.cell? ⟨gb, 0, none⟩ = some x0 ∧ w'.cell? ⟨gb, 1, none⟩ = some x1 ∧ w'.cell? ⟨gb, 2, none⟩ = some x2 ∧ Below w.heap.size w w') (b : Below w'.heap.size w' w'') :
    w''.cell? ⟨gb, 0, none⟩ = some x0 ∧ w''.cell? ⟨gb, 1, none⟩ = some x1 ∧ w''.cell? ⟨gb, 2, none⟩ = some x2 ∧ Below w.heap.size w w'' := by
  obtain ⟨h0, h1, h2, h3⟩ := h
  have go : ∀ {p : Addr} {u : Value}, w'.cell? p = some u → w''.cell? p = some u := fun {p} {u} hu => (b.cell (World.block_lt_of_cell? w' _ hu)).trans hu
  exact ⟨go h0, go h1, go h2, h3.trans (b.mono h3.size)⟩
theorem xs_allocd {w w' : World} {gb : Nat} {x0 x1 x2 : Value} (h : w'.drew.cell? ⟨gb, 0, none⟩ = some x0 ∧ w'.drew.cell? ⟨gb, 1, none⟩ = some x1 ∧ w'.drew.cell? ⟨gb, 2, none⟩ = some x2 ∧ Below w.heap.size w w'.drew) (o : Obj) :
    (w'.alloc o).drew.cell? ⟨gb, 0, none⟩ = some x0 ∧ (w'.alloc o).drew.cell? ⟨gb, 1, none⟩ = some x1 ∧ (w'.alloc o).drew.cell? ⟨gb, 2, none⟩ = some x2 ∧ Below w.heap.size w (w'.alloc o).drew := xs_alloc (w' := w'.drew) h o
theorem xs_set3 {w w' : World} {gb gz : Nat} {x0 x1 x2 : Value} (h : w'.cell? ⟨gb, 0, none⟩ = some x0 ∧ w'.cell? ⟨gb, 1, none⟩ = some x1 ∧ w'.cell? ⟨gb, 2, none⟩ = some x2 ∧ Below w.heap.size w w') (hne : gb ≠ gz) (hge : w.heap.size ≤ gz) (v0 v1 v2 : Value) :
    (((w'.setCell ⟨gz, 0, none⟩ v0).setCell ⟨gz, 1, none⟩ v1).setCell ⟨gz, 2, none⟩ v2).cell? ⟨gb, 0, none⟩ = some x0 ∧ (((w'.setCell ⟨gz, 0, none⟩ v0).setCell ⟨gz, 1, none⟩ v1).setCell ⟨gz, 2, none⟩ v2).cell? ⟨gb, 1, none⟩ = some x1 ∧ (((w'.setCell ⟨gz, 0, none⟩ v0).setCell ⟨gz, 1, none⟩ v1).setCell ⟨gz, 2, none⟩ v2).cell? ⟨gb, 2, none⟩ = some x2 ∧ Below w.heap.size w (((w'.setCell ⟨gz, 0, none⟩ v0).setCell ⟨gz, 1, none⟩ v1).setCell ⟨gz, 2, none⟩ v2) := by
  obtain ⟨h0, h1, h2, h3⟩ := h
  have go : ∀ {j : Nat} {u : Value}, w'.cell? ⟨gb, j, none⟩ = some u → (((w'.setCell ⟨gz, 0, none⟩ v0).setCell ⟨gz, 1, none⟩ v1).setCell ⟨gz, 2, none⟩ v2).cell? ⟨gb, j, none⟩ = some u := fun {j} {u} hu => by
    have ne : ∀ i, (⟨gz, i, none⟩ : Addr) ≠ ⟨gb, j, none⟩ := fun i e => hne (by injection e with e1; exact e1.symm)
    rw [World.cell?_setCell_other _ _ _ _ (ne 2), World.cell?_setCell_other _ _ _ _ (ne 1), World.cell?_setCell_other _ _ _ _ (ne 0)]
    exact hu
  exact ⟨go h0, go h1, go h2, below_set (below_set (below_set h3 _ _ _ hge) _ _ _ hge) _ _ _ hge⟩

theorem dkw_sets {w : World} {B g : Nat} {v : Value} {Z : Dk} (h : DkW w B v Z) (hg : g < B) (x0 x1 x2 : Value) : DkR (((w.setCell ⟨g, 0, none⟩ x0).setCell ⟨g, 1, none⟩ x1).setCell ⟨g, 2, none⟩ x2) v Z := by
  have k : Kept (fun b => b = g) w (((w.setCell ⟨g, 0, none⟩ x0).setCell ⟨g, 1, none⟩ x1).setCell ⟨g, 2, none⟩ x2) :=
    (((kept_set _ _ _ _).trans (kept_set _ _ _ _)).trans (kept_set _ _ _ _)).mono (fun b _ h => by rcases h with (h | h) | h <;> exact h)
  obtain ⟨a1, c1, a2, c2, a3, c3, e, s1, s2, s3, _⟩ := h
  exact ⟨a1, c1, a2, c2, a3, c3, e, (Wr.move s1 k (fun b hb e => by have := Wr.foot_ge s1 hb; omega)).sl, (Wr.move s2 k (fun b hb e => by have := Wr.foot_ge s2 hb; omega)).sl, (Wr.move s3 k (fun b hb e => by have := Wr.foot_ge s3 hb; omega)).sl⟩

/-- The disk behind a landing, in its box. -/
structure Zd (wt : World) (Z : Dk) (gz : Nat) (wr : World) : Prop where
  bel : Below wt.heap.size wt wr
  row : ∃ p1 q1 p2 q2 p3 q3, Row wr gz [.slice p1 Z.sec.length q1, .slice p2 Z.ep.length q2, .slice p3 Z.pe.length q3] ∧ DkR wr (.agg #[.slice p1 Z.sec.length q1, .slice p2 Z.ep.length q2, .slice p3 Z.pe.length q3]) Z

set_option maxRecDepth 100000 in
set_option maxHeartbeats 4000000 in
theorem lawFnDisk (hA : AnyDoes) (w : World) (a : Option Addr) (len cap : Nat) (zs : List Int) (C : Draw.Code w a len cap zs) :
    Calls Try.prog 3 #[.slice a len cap] w fun e w' => e = .returned (.bool true) ∧ Below w.heap.size w w' := by
  have hlen := C.hb
  have HC := hid C
  clear C
  go_enter Try.func3, Try.ntmps3
  go_wp2_with fail
  refine (bigL w a len cap (by unfold maxLen; omega)).mono ?_
  rintro e w0' ⟨rfl, hw⟩
  obtain rfl := hw.symm
  rw [decide_eq_false (show ¬ (1048576 : Int) < (len : Int) by omega)]
  go_wp2_with fail
  refine (drawPut hA w a len cap zs HC.out).mono ?_
  rintro e w1 ⟨v, D, x, z, s, t, rfl, hD, hR, hx, htl, b1⟩
  have HD := hid hD
  have HR := hid hR
  have HB1 := hid b1
  obtain ⟨a1, c1, a2, c2, a3, c3, rfl, _, hEp, _⟩ := hR
  obtain ⟨w2, hw2, ez2, A2, B2⟩ := one_new w1 [.slice a1 D.sec.length c1, .slice a2 D.ep.length c2, .slice a3 D.pe.length c3] 28
  have HR2 := hid (HR.out.below B2)
  have HB2 := hid (HB1.out.trans (B2.mono HB1.out.size))
  have k0 := A2.c 0 rfl
  have k1 := A2.c 1 rfl
  have k2 := A2.c 2 rfl
  have HA2 := hid A2
  clear A2 B2 hEp b1 HB1 hD ez2 hx
  go_wp2_with fail
  refine (implPut w2 _ D x z s t HR2.out HD.out.held HD.out.small (by unfold maxLen; omega)).mono ?_
  rintro e w3 ⟨v3, rfl, W3, b3⟩
  obtain ⟨X, hX⟩ : ∃ X, (D.putA x z s t).1 = X := ⟨_, rfl⟩
  obtain ⟨cc, hcc⟩ : ∃ cc, (D.putA x z s t).2 = cc := ⟨_, rfl⟩
  rw [hX] at W3
  rw [hcc]
  obtain ⟨e1, g1, e2, g2, e3, g3, rfl⟩ := W3.three
  obtain ⟨w4, hw4, ez4, A4, B4⟩ := one_new w3 [.slice e1 X.sec.length g1, .slice e2 X.ep.length g2, .slice e3 X.pe.length g3] 28
  have HT4 : Hid (TwoD w w1.heap.size w3.heap.size [.slice a1 D.sec.length c1, .slice a2 D.ep.length c2, .slice a3 D.pe.length c3] [.slice e1 X.sec.length g1, .slice e2 X.ep.length g2, .slice e3 X.pe.length g3] D X w4) :=
    ⟨(HA2.out.below b3 HA2.out.lt).below B4 (HA2.out.below b3 HA2.out.lt).lt, A4, (HR2.out.below b3).below B4, W3.read.below B4, (HB2.out.trans (b3.mono HB2.out.size)).trans (B4.mono (HB2.out.trans (b3.mono HB2.out.size)).size)⟩
  obtain ⟨m0, m1, m2, n0, n1, n2⟩ := sixD HT4.out
  have HX := hid hX
  have HCc := hid hcc
  clear A4 B4 W3 b3 HA2 HB2 HR2 k0 k1 k2 hX hcc ez4
  go_wp2_with fail
  generalize w1.heap.size = ga at *
  generalize w3.heap.size = gb at *
  refine (diskOk w4 _ D HT4.out.d1 HD.out.held).mono ?_
  rintro e w5 ⟨rfl, b5⟩
  have HT5 := hid (HT4.out.below b5)
  clear b5 HT4 m0 m1 m2 n0 n1 n2
  obtain ⟨m0, m1, m2, n0, n1, n2⟩ := sixD HT5.out
  cases hr : D.right with
  | false =>
    have hX0 : X = Dk.nil ∧ cc = 1 := by rw [← HX.out, ← HCc.out, putA_no hr]; exact ⟨rfl, rfl⟩
    have hs0 : (X.sec.length : Int) = 0 := by rw [hX0.1]; rfl
    have hc1 := hX0.2
    subst hc1
    clear hr hX0
    go_wp2
    go_ret
    exact ⟨rfl, HT5.out.bel⟩
  | true =>
    have HXr : Hid X.Right := by rw [Hid, ← HX.out, putA_yes hr]; exact (Dk.of_right hr).put _ _ _ _
    have HXk : Hid (X.right = true) := Dk.right_yes HXr.out
    have HXh := hid HXr.out.held.1
    have HXs := hid (right_smallD HXr.out)
    have HRr := hid hr
    clear hr
    go_wp2_with fail
    refine (diskOk w5 _ X HT5.out.d2 HXh.out).mono ?_
    rintro e w6 ⟨rfl, b6⟩
    rw [HXk.out]
    have HT6 := hid (HT5.out.below b6)
    clear b6 HT5 m0 m1 m2 n0 n1 n2
    obtain ⟨m0, m1, m2, n0, n1, n2⟩ := sixD HT6.out
    by_cases hq : cc = 0
    rotate_left
    · have HXD : Hid (X = D) := by rw [Hid, ← HX.out]; exact put_refused (by rw [HCc.out]; exact hq) HRr.out
      go_wp2_with fail
      refine (sameDisk w6 _ _ X D HT6.out.d2 HT6.out.d1 HXh.out HD.out.held).mono ?_
      rintro e w7 ⟨rfl, b7⟩
      rw [decide_eq_true HXD.out]
      have HT7 := hid (HT6.out.below b7)
      clear b7 HT6 m0 m1 m2 n0 n1 n2
      obtain ⟨m0, m1, m2, n0, n1, n2⟩ := sixD HT7.out
      go_wp2_with fail
      refine (specPut w7 _ D x z s t HT7.out.d1 HD.out.held HD.out.small (by unfold maxLen; omega)).mono ?_
      rintro e w8 ⟨v8, rfl, W8, b8⟩
      rw [HX.out] at W8
      rw [HCc.out]
      obtain ⟨r1, s1, r2, s2, r3, s3, rfl⟩ := W8.three
      obtain ⟨w9, hw9, ez9, _, B9⟩ := one_new w8 [.slice r1 X.sec.length s1, .slice r2 X.ep.length s2, .slice r3 X.pe.length s3] 28
      have HT9 := hid ((HT7.out.below b8).below B9)
      clear W8 b8 B9 ez9
      go_wp2
      go_ret
      exact ⟨rfl, HT9.out.bel⟩
    · subst hq
      obtain ⟨_, n, y, rfl, hn, rfl, hy, hep, hXe⟩ := put_done HCc.out
      rw [HX.out] at hXe
      have HXp : Hid (X.pe = D.pe ++ [⟨(n : Int), z, (y : Int), t⟩]) := by rw [Hid, hXe]
      have hyX : y < X.sec.length := by rw [hXe]; exact hy
      have HXe2 : Hid (X.ep.getD n 0 = z) := by rw [Hid, hXe]; exact hep
      clear hXe hep hy
      have hpk := implPeek w6 _ X (n : Int) (y : Int) HT6.out.d2 HXh.out HXs.out
      rw [peek_put HXr.out hn hyX HXp.out] at hpk
      have HPk := hid hpk
      clear hpk
      go_wp2_with fail
      refine HPk.out.mono ?_
      rintro e w7 ⟨rfl, b7⟩
      have HT7 := hid (HT6.out.below b7)
      clear b7 HT6 m0 m1 m2 n0 n1 n2 HPk
      obtain ⟨m0, m1, m2, n0, n1, n2⟩ := sixD HT7.out
      obtain ⟨f1, f2, f3, f4, f5⟩ := peek_flush HXr.out hn hyX HXp.out HXe2.out
      go_wp2_with fail
      refine (implFlush w7 _ X (n : Int) z HT7.out.d2 HXh.out HXs.out).mono ?_
      rintro e w8 ⟨v8, rfl, W8, b8⟩
      rw [f1]
      obtain ⟨Y, hY⟩ : ∃ Y, (X.flushA (n : Int) z).1 = Y := ⟨_, rfl⟩
      rw [hY] at W8 f2 f3 f4 f5
      have HYr := hid f2
      have HYh := hid HYr.out.held.1
      have HYs := hid (right_smallD HYr.out)
      have HYl := hid f3
      have HYt := hid f4
      have HYp := hid f5
      obtain ⟨q1, r1, q2, r2, q3, r3, rfl⟩ := W8.three
      obtain ⟨w9, hw9, ez9, A9, B9⟩ := one_new w8 [.slice q1 Y.sec.length r1, .slice q2 Y.ep.length r2, .slice q3 Y.pe.length r3] 28
      have HT9 := hid ((HT7.out.below b8).below B9)
      have HA9 := hid A9
      have HR9 := hid (W8.read.below B9)
      have y0 := A9.c 0 rfl
      have y1 := A9.c 1 rfl
      have y2 := A9.c 2 rfl
      clear W8 b8 B9 A9 f1 f2 f3 f4 f5 HT7 m0 m1 m2 n0 n1 n2 hY ez9
      have hpk := implPeek w9 _ Y (n : Int) (y : Int) HR9.out HYh.out HYs.out
      rw [HYp.out] at hpk
      have HPk := hid hpk
      clear hpk
      go_wp2_with fail
      refine HPk.out.mono ?_
      rintro e wt ⟨rfl, bt⟩
      have HTt := hid (HT9.out.below bt)
      have HAt := hid (HA9.out.below bt HA9.out.lt)
      have HRt := hid (HR9.out.below bt)
      clear bt HT9 HA9 HR9 y0 y1 y2 HPk hw9
      generalize w8.heap.size = gc at *
      obtain ⟨m0, m1, m2, n0, n1, n2⟩ := sixD HTt.out
      have hpl : 0 < X.pe.length := by rw [HXp.out]; simp
      have hpl40 : X.pe.length ≤ 40 := HXr.out.p40
      have hpz : ¬ (X.pe.length : Int) = 0 := by omega
      have hpe : ¬ X.pe = [] := by rw [HXp.out]; simp
      have hpn : ¬ X.pe.length = 0 := by omega
      have hpz2 : ((X.pe.length : Int) == 0) = false := by simpa using hpz
      have Q0 := hid (show wt.drew.cell? ⟨gb, 0, none⟩ = some (.slice e1 X.sec.length g1) ∧ wt.drew.cell? ⟨gb, 1, none⟩ = some (.slice e2 X.ep.length g2) ∧ wt.drew.cell? ⟨gb, 2, none⟩ = some (.slice e3 X.pe.length g3) ∧ Below wt.heap.size wt wt.drew from ⟨n0, n1, n2, (Below.refl _ wt).drew⟩)
      clear m0 m1 m2 n0 n1 n2
      go_upto_region 15 with fail
      go_cut [18, 19] (fun pz qz wr => ∃ (gz rr : Nat), pz = .pointer (some ⟨gz, 0, none⟩) ∧ Hid (Zd wt (X.landA (rr : Int)).1 gz wr))
      case first =>
        go_region_held_law (fun w' => w'.cell? ⟨gb, 0, none⟩ = some (.slice e1 X.sec.length g1) ∧ w'.cell? ⟨gb, 1, none⟩ = some (.slice e2 X.ep.length g2) ∧ w'.cell? ⟨gb, 2, none⟩ = some (.slice e3 X.pe.length g3) ∧ Below wt.heap.size wt w')
          (first | with_reducible exact Q2.out | with_reducible exact Q0.out | (with_reducible refine xs_alloc ?_ _; with_reducible assumption) | (with_reducible refine xs_allocd ?_ _; with_reducible assumption) | with_reducible assumption | (with_reducible refine xs_alloc ?_ _; with_reducible exact Q2.out) | (refine xs_set3 ?_ (by first | omega | exact Nat.ne_of_lt (World.block_lt_of_cell? _ _ Q2.out.1)) (by first | omega | exact Q2.out.2.2.2.size) _ _ _; with_reducible exact Q2.out))
          (first
            | (go_at_call 17; refine (lawAt _ a len cap zs (HC.out.below (HTt.out.bel.trans (Below.mono (by first | with_reducible exact Q0.out.2.2.2 | exact (by assumption : _ ∧ _ ∧ _ ∧ _).2.2.2) HTt.out.bel.size))) 1 (by decide)).mono ?_; rintro e wu ⟨i, hi, rfl, hwu⟩; subst hwu; obtain ⟨rr, hrr, hrl⟩ : ∃ rr : Nat, Int.tmod (i : Int) (X.pe.length : Int) = (rr : Int) ∧ rr < 40 := ⟨i % X.pe.length, by rw [Int.tmod_eq_emod_of_nonneg (by omega)]; rfl, by have := Nat.mod_lt i hpl; omega⟩; have hrw : IntKind.i64.wrap (rr : Int) = (rr : Int) := by rw [IntKind.wrap_i64]; omega)
            | (go_at_call 16; refine (implLand (wt.alloc (.cells #[.slice none 0 0, .slice none 0 0, .slice none 0 0] 28)).drew _ X _ (HTt.out.d2.below ((by assumption : _ ∧ _ ∧ _ ∧ _).2.2.2)) HXh.out HXs.out).mono ?_; rintro e wv ⟨vz, rfl, Wz, bv⟩; obtain ⟨p1, s1, p2, s2, p3, s3, rfl⟩ := Wz.three; have Zr : Row wv wt.heap.size [.slice none 0 0, .slice none 0 0, .slice none 0 0] := Row.below (show Row (wt.alloc (.cells #[.slice none 0 0, .slice none 0 0, .slice none 0 0] 28)).drew wt.heap.size [.slice none 0 0, .slice none 0 0, .slice none 0 0] from Row.new wt [.slice none 0 0, .slice none 0 0, .slice none 0 0] 28) bv (lt_alloc wt _); have HZr := hid Zr; have zc0 := Zr.c 0 rfl; have zc1 := Zr.c 1 rfl; have zc2 := Zr.c 2 rfl; have zf0 := Zr.f 0; have zf1 := Zr.f 1; have zf2 := Zr.f 2; have hgz : gb < wt.heap.size := World.block_lt_of_cell? wt _ Q0.out.1; clear Zr; have Q2 := hid (xs_below (by assumption) bv); have HWz := hid Wz.read; have HWw := hid Wz; have HBv := hid bv; clear Wz bv)
            | (go_at_call 16; refine (implLand _ _ X _ (HTt.out.d2.below ((by assumption : _ ∧ _ ∧ _ ∧ _).2.2.2)) HXh.out HXs.out).mono ?_; rintro e wv ⟨vz, rfl, Wz, bv⟩; obtain ⟨p1, s1, p2, s2, p3, s3, rfl⟩ := Wz.three; have Q2 := hid (xs_below (by assumption) bv); have HWz := hid Wz.read; have HWw := hid Wz; have HBv := hid bv; clear Wz bv))
        all_goals (go_wp2_with fail; go_meet; first
          | exact ⟨wt.heap.size, rr, rfl, ⟨below_set (below_set (below_set Q2.out.2.2.2 _ _ _ (Nat.le_refl _)) _ _ _ (Nat.le_refl _)) _ _ _ (Nat.le_refl _), p1, s1, p2, s2, p3, s3, ((HZr.out.set 0 _).set 1 _).set 2 _, dkw_sets HWw.out (lt_alloc wt _) _ _ _⟩⟩
          | exact ⟨wv.heap.size, rr, rfl, ⟨Q2.out.2.2.2.alloc Q2.out.2.2.2.size _, p1, s1, p2, s2, p3, s3, Row.new wv _ 28, HWz.out.below ((Below.refl _ _).alloc (Nat.le_refl _) _)⟩⟩)
      case rest =>
        obtain ⟨gz, rr, rfl, HZ⟩ := hcut
        obtain ⟨hZr, hZp⟩ := peek_land HXr.out hn hyX HXp.out rr
        have HZb := hid HZ.out.bel
        obtain ⟨p1, s1, p2, s2, p3, s3, hRz, hDz⟩ := HZ.out.row
        generalize (X.landA (rr : Int)).1 = Z at *
        have HZr := hid hZr
        have HZh := hid HZr.out.held.1
        have HZs := hid (right_smallD HZr.out)
        have HZk : Hid (Z.right = true) := Dk.right_yes HZr.out
        have HYk : Hid (Y.right = true) := Dk.right_yes HYr.out
        have HRz := hid hRz
        have HDz := hid hDz
        have HTc := hid (HTt.out.below HZb.out)
        have HAc := hid (HAt.out.below HZb.out HAt.out.lt)
        have HRc := hid (HRt.out.below HZb.out)
        clear hZr hRz hDz HZ HTt HAt HRt Q0
        have z0 := HRz.out.c 0 rfl
        have z1 := HRz.out.c 1 rfl
        have z2 := HRz.out.c 2 rfl
        have hpk := implPeek wc _ Z (n : Int) (y : Int) HDz.out HZh.out HZs.out
        rw [hZp] at hpk
        have HPk := hid hpk
        clear hpk hZp
        go_wp2_with fail
        refine HPk.out.mono ?_
        rintro e wd ⟨rfl, bd⟩
        have HTd := hid (HTc.out.below bd)
        have HAd := hid (HAc.out.below bd HAc.out.lt)
        have HRd := hid (HRc.out.below bd)
        have HRzd := hid (HRz.out.below bd HRz.out.lt)
        have HDzd := hid (HDz.out.below bd)
        clear bd z0 z1 z2 HTc HAc HRc HRz HDz HPk
        have y0 := HAd.out.c 0 rfl
        have y1 := HAd.out.c 1 rfl
        have y2 := HAd.out.c 2 rfl
        obtain ⟨bs, os, es, cs⟩ := (dk_partsD HRd.out).1 y HYl.out
        subst es
        simp only [HYt.out] at cs
        have hyY := HYl.out
        have htt := Own.eqS_yes (rfl : t = t)
        go_wp2_with fail
        refine (diskOk wd _ Y HRd.out HYh.out).mono ?_
        rintro e we ⟨rfl, be⟩
        rw [HYk.out]
        have HTe := hid (HTd.out.below be)
        have HRze := hid (HRzd.out.below be HRzd.out.lt)
        have HDze := hid (HDzd.out.below be)
        clear be y0 y1 y2 cs
        have z0 := HRze.out.c 0 rfl
        have z1 := HRze.out.c 1 rfl
        have z2 := HRze.out.c 2 rfl
        go_wp2_with fail
        refine (diskOk we _ Z HDze.out HZh.out).mono ?_
        rintro e wf ⟨rfl, bf⟩
        rw [HZk.out]
        have HTf := hid (HTe.out.below bf)
        clear bf z0 z1 z2
        go_wp2
        go_ret
        exact ⟨rfl, HTf.out.bel⟩

end Go.Proofs.Ytnkipjlkhnmilaa.Mem
