/-
  The walk of laws.FnSwap: the law answers true, and nothing that was there is changed. No condition but what the walk of spec.l3Any gives, and a code of at most 2^20 bytes.
-/
import Derived.Deep.DeepCutAuto
import Derived.Deep.RegionHeldLaw
import Derived.Test.YtnkipjlkhnmilaaJoin1
import Derived.Test.YtnkipjlkhnmilaaDrSwap
namespace Go.Proofs.Ytnkipjlkhnmilaa.Mem
open Go.RowKit Classical
set_option linter.unusedVariables false

/-- TwoS disks in their boxes. -/
structure TwoS (w0 : World) (g1 g2 : Nat) (xs ys : List Value) (D X : Dk) (w : World) : Prop where
  b1 : Row w g1 xs
  b2 : Row w g2 ys
  d1 : DkR w (.agg xs.toArray) D
  d2 : DkR w (.agg ys.toArray) X
  bel : Below w0.heap.size w0 w

theorem TwoS.below {w0 w w' : World} {g1 g2 : Nat} {xs ys : List Value} {D X : Dk} (h : TwoS w0 g1 g2 xs ys D X w) (b : Below w.heap.size w w') : TwoS w0 g1 g2 xs ys D X w' :=
  ⟨h.b1.below b h.b1.lt, h.b2.below b h.b2.lt, h.d1.below b, h.d2.below b, h.bel.trans (b.mono h.bel.size)⟩
theorem TwoS.alloc {w0 w : World} {g1 g2 : Nat} {xs ys : List Value} {D X : Dk} (h : TwoS w0 g1 g2 xs ys D X w) (o : Obj) : TwoS w0 g1 g2 xs ys D X (w.alloc o) := h.below ((Below.refl _ _).alloc (Nat.le_refl _) o)

theorem sixS {w0 w : World} {g1 g2 : Nat} {x1 x2 x3 y1 y2 y3 : Value} {D X : Dk} (h : TwoS w0 g1 g2 [x1, x2, x3] [y1, y2, y3] D X w) : w.cell? ⟨g1, 0, none⟩ = some x1 ∧ w.cell? ⟨g1, 1, none⟩ = some x2 ∧ w.cell? ⟨g1, 2, none⟩ = some x3 ∧ w.cell? ⟨g2, 0, none⟩ = some y1 ∧ w.cell? ⟨g2, 1, none⟩ = some y2 ∧ w.cell? ⟨g2, 2, none⟩ = some y3 :=
  ⟨h.b1.c 0 rfl, h.b1.c 1 rfl, h.b1.c 2 rfl, h.b2.c 0 rfl, h.b2.c 1 rfl, h.b2.c 2 rfl⟩

theorem dk_partsS {w : World} {a1 a2 a3 : Option Addr} {c1 c2 c3 : Nat} {D : Dk} (h : DkR w (.agg #[.slice a1 D.sec.length c1, .slice a2 D.ep.length c2, .slice a3 D.pe.length c3]) D) : Strs w a1 D.sec ∧ Ints w a2 D.ep ∧ Wts w a3 D.pe := by
  obtain ⟨_, _, _, _, _, _, e, s1, s2, s3⟩ := h
  cases e
  exact ⟨s1, s2, s3⟩

theorem right_smallS {D : Dk} (h : D.Right) : D.Small 1048576 := by
  have h1 := h.n2
  have h2 := h.e3
  have h3 := h.p40
  exact ⟨by omega, by omega, by omega, fun s hs => by have := h.sm s hs; omega, fun x hx => by have := (h.pm x hx).2.2.2.2; omega⟩

theorem nil_smallS : Dk.nil.Small 1048576 := ⟨by simp [Dk.nil], by simp [Dk.nil], by simp [Dk.nil], by simp [Dk.nil], by simp [Dk.nil]⟩

theorem xs4_below {w w' w'' : World} {gb be ob : Nat} {x0 x1 x2 x3 : Value} (h : w'.cell? ⟨gb, 0, none⟩ = some x0 ∧ w'.cell? ⟨gb, 1, none⟩ = some x1 ∧ w'.cell? ⟨gb, 2, none⟩ = some x2 ∧ w'.cell? ⟨be, ob, none⟩ = some x3 ∧ Below w.heap.size w w') (b : Below w'.heap.size w' w'') : w''.cell? ⟨gb, 0, none⟩ = some x0 ∧ w''.cell? ⟨gb, 1, none⟩ = some x1 ∧ w''.cell? ⟨gb, 2, none⟩ = some x2 ∧ w''.cell? ⟨be, ob, none⟩ = some x3 ∧ Below w.heap.size w w'' := by
  obtain ⟨h0, h1, h2, h4, h3⟩ := h
  have go : ∀ {p : Addr} {u : Value}, w'.cell? p = some u → w''.cell? p = some u := fun {p} {u} hu => (b.cell (World.block_lt_of_cell? w' _ hu)).trans hu
  exact ⟨go h0, go h1, go h2, go h4, h3.trans (b.mono h3.size)⟩
theorem xs4_alloc {w w' : World} {gb be ob : Nat} {x0 x1 x2 x3 : Value} (h : w'.cell? ⟨gb, 0, none⟩ = some x0 ∧ w'.cell? ⟨gb, 1, none⟩ = some x1 ∧ w'.cell? ⟨gb, 2, none⟩ = some x2 ∧ w'.cell? ⟨be, ob, none⟩ = some x3 ∧ Below w.heap.size w w') (o : Obj) : (w'.alloc o).cell? ⟨gb, 0, none⟩ = some x0 ∧ (w'.alloc o).cell? ⟨gb, 1, none⟩ = some x1 ∧ (w'.alloc o).cell? ⟨gb, 2, none⟩ = some x2 ∧ (w'.alloc o).cell? ⟨be, ob, none⟩ = some x3 ∧ Below w.heap.size w (w'.alloc o) := xs4_below h ((Below.refl _ _).alloc (Nat.le_refl _) o)
theorem xs4_allocd {w w' : World} {gb be ob : Nat} {x0 x1 x2 x3 : Value} (h : w'.drew.cell? ⟨gb, 0, none⟩ = some x0 ∧ w'.drew.cell? ⟨gb, 1, none⟩ = some x1 ∧ w'.drew.cell? ⟨gb, 2, none⟩ = some x2 ∧ w'.drew.cell? ⟨be, ob, none⟩ = some x3 ∧ Below w.heap.size w w'.drew) (o : Obj) : (w'.alloc o).drew.cell? ⟨gb, 0, none⟩ = some x0 ∧ (w'.alloc o).drew.cell? ⟨gb, 1, none⟩ = some x1 ∧ (w'.alloc o).drew.cell? ⟨gb, 2, none⟩ = some x2 ∧ (w'.alloc o).drew.cell? ⟨be, ob, none⟩ = some x3 ∧ Below w.heap.size w (w'.alloc o).drew := xs4_alloc (w' := w'.drew) h o
theorem xs4_set3 {w w' : World} {gb be ob gz : Nat} {x0 x1 x2 x3 : Value} (h : w'.cell? ⟨gb, 0, none⟩ = some x0 ∧ w'.cell? ⟨gb, 1, none⟩ = some x1 ∧ w'.cell? ⟨gb, 2, none⟩ = some x2 ∧ w'.cell? ⟨be, ob, none⟩ = some x3 ∧ Below w.heap.size w w') (hne : gb ≠ gz) (hne2 : be ≠ gz) (hge : w.heap.size ≤ gz) (v0 v1 v2 : Value) : (((w'.setCell ⟨gz, 0, none⟩ v0).setCell ⟨gz, 1, none⟩ v1).setCell ⟨gz, 2, none⟩ v2).cell? ⟨gb, 0, none⟩ = some x0 ∧ (((w'.setCell ⟨gz, 0, none⟩ v0).setCell ⟨gz, 1, none⟩ v1).setCell ⟨gz, 2, none⟩ v2).cell? ⟨gb, 1, none⟩ = some x1 ∧ (((w'.setCell ⟨gz, 0, none⟩ v0).setCell ⟨gz, 1, none⟩ v1).setCell ⟨gz, 2, none⟩ v2).cell? ⟨gb, 2, none⟩ = some x2 ∧ (((w'.setCell ⟨gz, 0, none⟩ v0).setCell ⟨gz, 1, none⟩ v1).setCell ⟨gz, 2, none⟩ v2).cell? ⟨be, ob, none⟩ = some x3 ∧ Below w.heap.size w (((w'.setCell ⟨gz, 0, none⟩ v0).setCell ⟨gz, 1, none⟩ v1).setCell ⟨gz, 2, none⟩ v2) := by
  obtain ⟨h0, h1, h2, h4, h3⟩ := h
  have go : ∀ {g j : Nat} {u : Value}, g ≠ gz → w'.cell? ⟨g, j, none⟩ = some u → (((w'.setCell ⟨gz, 0, none⟩ v0).setCell ⟨gz, 1, none⟩ v1).setCell ⟨gz, 2, none⟩ v2).cell? ⟨g, j, none⟩ = some u := fun {g j} {u} hg hu => by
    have ne : ∀ i, (⟨gz, i, none⟩ : Addr) ≠ ⟨g, j, none⟩ := fun i e => hg (by injection e with e1; exact e1.symm)
    rw [World.cell?_setCell_other _ _ _ _ (ne 2), World.cell?_setCell_other _ _ _ _ (ne 1), World.cell?_setCell_other _ _ _ _ (ne 0)]
    exact hu
  exact ⟨go hne h0, go hne h1, go hne h2, go hne2 h4, below_set (below_set (below_set h3 _ _ _ hge) _ _ _ hge) _ _ _ hge⟩

set_option maxRecDepth 100000 in
set_option maxHeartbeats 20000000 in
theorem lawFnSwap (hA : AnyDoes) (w : World) (a : Option Addr) (len cap : Nat) (zs : List Int) (C : Draw.Code w a len cap zs) :
    Calls Try.prog 6 #[.slice a len cap] w fun e w' => e = .returned (.bool true) ∧ Below w.heap.size w w' := by
  have hlen := C.hb
  have HC := hid C
  clear C
  go_enter Try.func6, Try.ntmps6
  go_wp2_with fail
  refine (bigL w a len cap (by unfold maxLen; omega)).mono ?_
  rintro e w0' ⟨rfl, hw⟩
  obtain rfl := hw.symm
  rw [decide_eq_false (show ¬ (1048576 : Int) < (len : Int) by omega)]
  go_wp2_with fail
  refine (drawSwap hA w a len cap zs HC.out).mono ?_
  rintro e w1 ⟨v, D, x, z, s, old, t, rfl, hD, hR, hx, hot, b1⟩
  have HD := hid hD
  have HR := hid hR
  have HB1 := hid b1
  have hol := hot.1
  have htl := hot.2
  obtain ⟨a1, c1, a2, c2, a3, c3, rfl, _, hEp, _⟩ := hR
  obtain ⟨w2, hw2, ez2, A2, B2⟩ := one_new w1 [.slice a1 D.sec.length c1, .slice a2 D.ep.length c2, .slice a3 D.pe.length c3] 28
  have HR2 := hid (HR.out.below B2)
  have HB2 := hid (HB1.out.trans (B2.mono HB1.out.size))
  have k0 := A2.c 0 rfl
  have k1 := A2.c 1 rfl
  have k2 := A2.c 2 rfl
  have HA2 := hid A2
  clear A2 B2 hEp b1 HB1 hD ez2 hot hx
  go_wp2_with fail
  refine (implSwap w2 _ D x z s old t HR2.out HD.out.held HD.out.small (by unfold maxLen; omega) (by unfold maxLen; omega)).mono ?_
  rintro e w3 ⟨v3, rfl, W3, b3⟩
  obtain ⟨X, hX⟩ : ∃ X, (D.swapA x z s old t).1 = X := ⟨_, rfl⟩
  obtain ⟨cc, hcc⟩ : ∃ cc, (D.swapA x z s old t).2 = cc := ⟨_, rfl⟩
  rw [hX] at W3
  rw [hcc]
  obtain ⟨e1, g1, e2, g2, e3, g3, rfl⟩ := W3.three
  obtain ⟨w4, hw4, ez4, A4, B4⟩ := one_new w3 [.slice e1 X.sec.length g1, .slice e2 X.ep.length g2, .slice e3 X.pe.length g3] 28
  have HT4 : Hid (TwoS w w1.heap.size w3.heap.size [.slice a1 D.sec.length c1, .slice a2 D.ep.length c2, .slice a3 D.pe.length c3] [.slice e1 X.sec.length g1, .slice e2 X.ep.length g2, .slice e3 X.pe.length g3] D X w4) :=
    ⟨(HA2.out.below b3 HA2.out.lt).below B4 (HA2.out.below b3 HA2.out.lt).lt, A4, (HR2.out.below b3).below B4, W3.read.below B4, (HB2.out.trans (b3.mono HB2.out.size)).trans (B4.mono (HB2.out.trans (b3.mono HB2.out.size)).size)⟩
  obtain ⟨m0, m1, m2, n0, n1, n2⟩ := sixS HT4.out
  have HX := hid hX
  have HCc := hid hcc
  clear A4 B4 W3 b3 HA2 HB2 HR2 k0 k1 k2 hX hcc ez4
  go_wp2_with fail
  refine (specSwap w4 _ D x z s old t HT4.out.d1 HD.out.held HD.out.small (by unfold maxLen; omega) (by unfold maxLen; omega)).mono ?_
  rintro e w5 ⟨v5, rfl, W5, b5⟩
  rw [HX.out] at W5
  rw [HCc.out]
  obtain ⟨r1, s1, r2, s2, r3, s3, rfl⟩ := W5.three
  obtain ⟨wn, hwn, ezn, _, B6⟩ := one_new w5 [.slice r1 X.sec.length s1, .slice r2 X.ep.length s2, .slice r3 X.pe.length s3] 28
  have HT6 := hid ((HT4.out.below b5).below B6)
  clear W5 b5 B6 HT4 m0 m1 m2 n0 n1 n2 ezn
  obtain ⟨m0, m1, m2, n0, n1, n2⟩ := sixS HT6.out
  generalize w1.heap.size = ga at *
  generalize w3.heap.size = gb at *
  by_cases hq : cc = 0
  rotate_left
  · go_wp2_with fail
    refine (diskOk wn _ D HT6.out.d1 HD.out.held).mono ?_
    rintro e w7 ⟨rfl, b7⟩
    have HT7 := hid (HT6.out.below b7)
    clear b7 HT6 m0 m1 m2 n0 n1 n2
    obtain ⟨m0, m1, m2, n0, n1, n2⟩ := sixS HT7.out
    cases hr : D.right with
    | false =>
      go_wp2
      go_ret
      exact ⟨rfl, HT7.out.bel⟩
    | true =>
      have HXD : Hid (X = D) := by rw [Hid, ← HX.out]; exact swap_refused (by rw [HCc.out]; exact hq) hr
      have HXh : Hid X.Held := by rw [Hid, HXD.out]; exact HD.out.held
      clear hr
      go_wp2_with fail
      refine (sameDisk w7 _ _ X D HT7.out.d2 HT7.out.d1 HXh.out HD.out.held).mono ?_
      rintro e w8 ⟨rfl, b8⟩
      have HB8 := hid (HT7.out.bel.trans (b8.mono HT7.out.bel.size))
      rw [decide_eq_true HXD.out]
      clear b8
      go_wp2
      go_ret
      exact ⟨rfl, HB8.out⟩
  · subst hq
    obtain ⟨hr, n, y, rfl, hn, rfl, hy, _, _, hXe⟩ := swap_done HCc.out
    rw [HX.out] at hXe
    have HXr : Hid X.Right := by rw [Hid, ← HX.out, swapA_yes (Dk.right_yes hr)]; exact hr.swap _ _ _ _ _
    have HSx : Hid (X.sec.getD y ByteArray.empty = t) := by rw [Hid, hXe]; simp [List.getD, hy]
    have HPl : Hid (X.pe.length = D.pe.length) := by rw [Hid, hXe]
    have hyX : y < X.sec.length := by rw [hXe]; simpa using hy
    have hE3 : ((X.ep.length : Int) != 3) = false := by rw [HXr.out.e3]; decide
    have HXh := hid HXr.out.held.1
    have HXs := hid (right_smallS HXr.out)
    obtain ⟨m, hm⟩ : ∃ m : Nat, m = (n + 1) % 3 := ⟨_, rfl⟩
    have hm3 : m < 3 := by omega
    have hrem : Int.tmod ((n : Int) + 1) 3 = (m : Int) := by rw [Int.tmod_eq_emod_of_nonneg (by omega)]; omega
    have hwn1 : IntKind.i64.wrap ((n : Int) + 1) = (n : Int) + 1 := by rw [IntKind.wrap_i64]; omega
    have hwm : IntKind.i64.wrap (m : Int) = (m : Int) := by rw [IntKind.wrap_i64]; omega
    have hmX : (m : Int) < (X.ep.length : Int) := by rw [HXr.out.e3]; omega
    have hyX' : (y : Int) < (X.sec.length : Int) := by omega
    have HHr := hid hr
    clear hr hXe hm hy
    have hts : (t ++ (⟨#[119]⟩ : ByteArray)).size ≤ 41 := by rw [ByteArray.size_append]; show t.size + 1 ≤ 41; omega
    obtain ⟨be, oe, qe, hce⟩ := (dk_partsS HT6.out.d2).2.1 m (by omega)
    subst qe
    obtain ⟨bs, os, qs, hcs⟩ := (dk_partsS HT6.out.d2).1 y hyX
    subst qs
    obtain ⟨o2, ho2⟩ : ∃ o2, X.ep.getD m 0 = o2 := ⟨_, rfl⟩
    replace hce : wn.cell? ⟨be, oe + m, none⟩ = some (.int .i64 o2) := hce.trans (by show some (Value.int .i64 (X.ep.getD m 0)) = _; rw [ho2])
    have HCs : Hid (wn.cell? ⟨bs, os + y, none⟩ = some (.string t)) := hcs.trans (by show some (Value.string (X.sec.getD y ByteArray.empty)) = _; rw [HSx.out])
    have HAg : Hid (¬ old = t → (X.swapA (m : Int) o2 (y : Int) old (t ++ ⟨#[119]⟩)).2 = 4) := fun h => by
      rw [← ho2]
      exact swap_again HXr.out hm3 hyX HSx.out h hol (by omega)
    obtain ⟨ee, hee⟩ : ∃ ee, (X.swapA (m : Int) o2 (y : Int) old (t ++ ⟨#[119]⟩)).2 = ee := ⟨_, rfl⟩
    rw [hee] at HAg
    have HEe := hid hee
    clear ho2 hcs hee
    go_upto_region 13 with fail
    go_cut [15] (fun cd wr => cd = .int .i64 ee ∧ Hid (Below wn.heap.size wn wr))
    case first =>
      have hol' : old.size ≤ maxLen := by unfold maxLen; omega
      have hts' : (t ++ (⟨#[119]⟩ : ByteArray)).size ≤ maxLen := by unfold maxLen; omega
      have Q0 := hid (show wn.drew.cell? ⟨gb, 0, none⟩ = some (.slice (some ⟨bs, os, none⟩) X.sec.length g1) ∧ wn.drew.cell? ⟨gb, 1, none⟩ = some (.slice (some ⟨be, oe, none⟩) X.ep.length g2) ∧ wn.drew.cell? ⟨gb, 2, none⟩ = some (.slice e3 X.pe.length g3) ∧ wn.drew.cell? ⟨be, oe + m, none⟩ = some (.int .i64 o2) ∧ Below wn.heap.size wn wn.drew from ⟨n0, n1, n2, hce, (Below.refl _ wn).drew⟩)
      clear hw2 hw4 hwn HC HR m0 m1 m2 n0 n1 n2 hce
      have HW1 : Hid (Calls Try.prog 22 #[.agg #[.slice (some ⟨bs, os, none⟩) X.sec.length g1, .slice (some ⟨be, oe, none⟩) X.ep.length g2, .slice e3 X.pe.length g3], .int .i64 (m : Int), .int .i64 o2, .int .i64 (y : Int), .string old, .string (t ++ ⟨#[119]⟩)] wn.drew fun e w' => ∃ v', e = .returned (.tuple #[v', .int .i64 (X.swapA (m : Int) o2 (y : Int) old (t ++ ⟨#[119]⟩)).2]) ∧ DkW w' wn.drew.heap.size v' (X.swapA (m : Int) o2 (y : Int) old (t ++ ⟨#[119]⟩)).1 ∧ Below wn.drew.heap.size wn.drew w') := implSwap wn.drew _ X (m : Int) o2 (y : Int) old _ (HT6.out.d2.below (Below.refl _ wn).drew) HXh.out HXs.out hol' hts'
      have HW2 : Hid (Calls Try.prog 22 #[.agg #[.slice (some ⟨bs, os, none⟩) X.sec.length g1, .slice (some ⟨be, oe, none⟩) X.ep.length g2, .slice e3 X.pe.length g3], .int .i64 (m : Int), .int .i64 o2, .int .i64 (y : Int), .string old, .string (t ++ ⟨#[119]⟩)] (wn.alloc (.cells #[.slice none 0 0, .slice none 0 0, .slice none 0 0] 28)).drew fun e w' => ∃ v', e = .returned (.tuple #[v', .int .i64 (X.swapA (m : Int) o2 (y : Int) old (t ++ ⟨#[119]⟩)).2]) ∧ DkW w' (wn.alloc (.cells #[.slice none 0 0, .slice none 0 0, .slice none 0 0] 28)).drew.heap.size v' (X.swapA (m : Int) o2 (y : Int) old (t ++ ⟨#[119]⟩)).1 ∧ Below (wn.alloc (.cells #[.slice none 0 0, .slice none 0 0, .slice none 0 0] 28)).drew.heap.size (wn.alloc (.cells #[.slice none 0 0, .slice none 0 0, .slice none 0 0] 28)).drew w') := implSwap (wn.alloc (.cells #[.slice none 0 0, .slice none 0 0, .slice none 0 0] 28)).drew _ X (m : Int) o2 (y : Int) old _ (HT6.out.d2.below ((Below.refl _ wn).alloc (Nat.le_refl _) (.cells #[.slice none 0 0, .slice none 0 0, .slice none 0 0] 28)).drew) HXh.out HXs.out hol' hts'
      clear hol' hts'
      go_region_held_law (fun w' => w'.cell? ⟨gb, 0, none⟩ = some (.slice (some ⟨bs, os, none⟩) X.sec.length g1) ∧ w'.cell? ⟨gb, 1, none⟩ = some (.slice (some ⟨be, oe, none⟩) X.ep.length g2) ∧ w'.cell? ⟨gb, 2, none⟩ = some (.slice e3 X.pe.length g3) ∧ w'.cell? ⟨be, oe + m, none⟩ = some (.int .i64 o2) ∧ Below wn.heap.size wn w')
        (first | with_reducible exact Q2.out | with_reducible exact Q0.out | (with_reducible refine xs4_alloc ?_ _; with_reducible assumption) | (with_reducible refine xs4_allocd ?_ _; with_reducible assumption) | with_reducible assumption | (with_reducible refine xs4_alloc ?_ _; with_reducible exact Q2.out) | (refine xs4_set3 ?_ (by omega) (by omega) (by omega) _ _ _; with_reducible exact Q2.out))
        (first
          | (go_at_call 22; refine HW2.out.mono ?_; rintro e wd ⟨vd, rfl, Wd, bd⟩; obtain ⟨y7, z7, y8, z8, y9, z9, rfl⟩ := Wd.three; rw [HEe.out]; have Zr : Row wd wn.heap.size [.slice none 0 0, .slice none 0 0, .slice none 0 0] := Row.below (show Row (wn.alloc (.cells #[.slice none 0 0, .slice none 0 0, .slice none 0 0] 28)).drew wn.heap.size [.slice none 0 0, .slice none 0 0, .slice none 0 0] from Row.new wn [.slice none 0 0, .slice none 0 0, .slice none 0 0] 28) bd (lt_alloc wn _); have zc0 := Zr.c 0 rfl; have zc1 := Zr.c 1 rfl; have zc2 := Zr.c 2 rfl; have zf0 := Zr.f 0; have zf1 := Zr.f 1; have zf2 := Zr.f 2; have hgz : gb < wn.heap.size := World.block_lt_of_cell? wn _ Q0.out.1; have hge : be < wn.heap.size := World.block_lt_of_cell? wn _ Q0.out.2.2.2.1; clear Zr; have Q2 := hid (xs4_below (w' := (wn.alloc (.cells #[.slice none 0 0, .slice none 0 0, .slice none 0 0] 28)).drew) (xs4_allocd (w' := wn) Q0.out (.cells #[.slice none 0 0, .slice none 0 0, .slice none 0 0] 28)) bd); clear Wd bd)
          | (go_at_call 22; refine HW1.out.mono ?_; rintro e wd ⟨vd, rfl, Wd, bd⟩; obtain ⟨y7, z7, y8, z8, y9, z9, rfl⟩ := Wd.three; rw [HEe.out]; have Q2 := hid (xs4_below Q0.out bd); clear Wd bd))
      all_goals
        (go_wp2_with fail
         go_meet
         refine ⟨rfl, ?_⟩
         first
           | exact below_set (below_set (below_set Q2.out.2.2.2.2 _ _ _ (Nat.le_refl _)) _ _ _ (Nat.le_refl _)) _ _ _ (Nat.le_refl _)
           | exact Q2.out.2.2.2.2.alloc Q2.out.2.2.2.2.size _)
    case rest =>
    obtain ⟨rfl, HBx⟩ := hcut
    clear m0 m1 m2 n0 n1 n2 hce
    have HTx := hid (HT6.out.below HBx.out)
    obtain ⟨m0, m1, m2, n0, n1, n2⟩ := sixS HTx.out
    have hcx : wc.cell? ⟨bs, os + y, none⟩ = some (.string t) := (HBx.out.cell (p := ⟨bs, os + y, none⟩) (World.block_lt_of_cell? _ _ HCs.out)).trans HCs.out
    have htt : (t.toList == t.toList) = true := Own.eqS_yes rfl
    have hpl : ((X.pe.length : Int) == (D.pe.length : Int)) = true := by rw [HPl.out]; simp
    by_cases hoe : old = t
    · have hob : (old.toList == t.toList) = true := Own.eqS_yes hoe
      clear hoe
      go_wp2
      go_ret
      exact ⟨rfl, HTx.out.bel⟩
    · have hob : (old.toList == t.toList) = false := Own.eqS_no hoe
      have h4 := HAg.out hoe
      subst h4
      clear hoe
      go_wp2
      go_ret
      exact ⟨rfl, HTx.out.bel⟩

end Go.Proofs.Ytnkipjlkhnmilaa.Mem
