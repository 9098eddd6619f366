/-
  The walk of laws.FnLanded: the law answers true, and nothing that was there is changed. No condition but what the walk of spec.l3Any gives, and a code of at most 2^20 bytes.
-/
import Derived.Deep.DeepCutAuto
import Derived.Test.YtbnmcbbpbiofgaaJoin1
import Derived.Test.YtbnmcbbpbiofgaaJoin2
import Derived.Test.YtbnmcbbpbiofgaaJoin4
namespace Go.Proofs.Ytbnmcbbpbiofgaa.Mem
open Go.RowKit Go.Proofs.Ytbnmcbbpbiofgaa.Rg Go.Proofs.Ytbnmcbbpbiofgaa.Pl Classical
set_option linter.unusedVariables false

theorem call_iFlush (vs : Array Value) (w : World) : (callFunc 7 vs).run Try.prog w = .ok (.enter 7 vs) w := by simp [go_sem]
theorem call_lat (vs : Array Value) (w : World) : (callFunc 8 vs).run Try.prog w = .ok (.enter 8 vs) w := by simp [go_sem]
theorem zDisk : (Try.prog.info? 28).map (·.size) = some 3 := by kernel_rfl

theorem right_smallL {D : Dk} (h : D.Right) : D.Small 1048576 := by
  have h1 := h.n2
  have h2 := h.e3
  have h3 := h.p40
  exact ⟨by omega, by omega, by omega, fun s hs => by have := h.sm s hs; omega, fun x hx => by have := (h.pm x hx).2.2.2.2; omega⟩

/-- What is in memory while the law goes on: the drawn disk, the flushed one, the one whose writes land. -/
structure Fl (w0 : World) (gd gx gy : Nat) (ds xs ys : List Value) (D X E : Dk) (w : World) : Prop where
  bd : Row w gd ds
  bx : Row w gx xs
  b : Row w gy ys
  d : DkR w (.agg ds.toArray) D
  x : DkR w (.agg xs.toArray) X
  y : DkR w (.agg ys.toArray) E
  bel : Below w0.heap.size w0 w
  ld : gd < gy
  lx : gx < gy
  g0 : w0.heap.size ≤ gy
  fx : ∀ b, DkFoot (.agg xs.toArray) b → b ≠ gy
  fd : ∀ b, DkFoot (.agg ds.toArray) b → b ≠ gy

theorem Fl.below {w0 w w' : World} {gd gx gy : Nat} {ds xs ys : List Value} {D X E : Dk} (h : Fl w0 gd gx gy ds xs ys D X E w) (b : Below w.heap.size w w') : Fl w0 gd gx gy ds xs ys D X E w' :=
  ⟨h.bd.below b h.bd.lt, h.bx.below b h.bx.lt, h.b.below b h.b.lt, h.d.below b, h.x.below b, h.y.below b, h.bel.trans (b.mono h.bel.size), h.ld, h.lx, h.g0, h.fx, h.fd⟩

/-- Another disk goes into the box of the one whose writes land. -/
theorem Fl.set {w0 w : World} {gd gx gy : Nat} {ds xs : List Value} {y0 y1 y2 z0 z1 z2 : Value} {D X E Z : Dk} (h : Fl w0 gd gx gy ds xs [y0, y1, y2] D X E w) (hz : DkR w (.agg #[z0, z1, z2]) Z) (hf : ∀ b, DkFoot (.agg #[z0, z1, z2]) b → b ≠ gy) :
    Fl w0 gd gx gy ds xs [z0, z1, z2] D X Z (((w.setCell ⟨gy, 0, none⟩ z0).setCell ⟨gy, 1, none⟩ z1).setCell ⟨gy, 2, none⟩ z2) := by
  have k : Kept (fun b => b = gy) w (((w.setCell ⟨gy, 0, none⟩ z0).setCell ⟨gy, 1, none⟩ z1).setCell ⟨gy, 2, none⟩ z2) :=
    (((kept_set _ _ _ _).trans (kept_set _ _ _ _)).trans (kept_set _ _ _ _)).mono (fun b _ h => by rcases h with (h | h) | h <;> exact h)
  exact ⟨h.bd.kept k (by have := h.ld; omega), h.bx.kept k (by have := h.lx; omega), ((h.b.set 0 z0).set 1 z1).set 2 z2, h.d.kept k h.fd, h.x.kept k h.fx, hz.kept k hf, below_set (below_set (below_set h.bel _ _ _ h.g0) _ _ _ h.g0) _ _ _ h.g0, h.ld, h.lx, h.g0, h.fx, h.fd⟩

theorem dk_partsL {w : World} {a1 a2 a3 : Option Addr} {c1 c2 c3 : Nat} {D : Dk} (h : DkR w (.agg [.slice a1 D.sec.length c1, .slice a2 D.ep.length c2, .slice a3 D.pe.length c3].toArray) D) : Strs w a1 D.sec ∧ Ints w a2 D.ep ∧ Wts w a3 D.pe := by
  obtain ⟨_, _, _, _, _, _, e, s1, s2, s3⟩ := h
  cases e
  exact ⟨s1, s2, s3⟩

set_option maxRecDepth 100000 in
set_option maxHeartbeats 20000000 in
theorem lawFnLanded (hA : AnyDoes) (w : World) (a : Option Addr) (len cap : Nat) (zs : List Int) (C : Draw.Code w a len cap zs) :
    Calls Try.prog 3 #[.slice a len cap] w fun e w' => e = .returned (.bool true) ∧ Below w.heap.size w w' := by
  have hlen := C.hb
  have HC := hid C
  clear C
  go_enter Try.func3, Try.ntmps3
  go_wp2_with fail
  refine (bigL w a len cap (by unfold maxLen; omega)).mono ?_
  rintro e w0' ⟨rfl, hw⟩
  obtain rfl := hw.symm
  rw [decide_eq_false (show ¬ (1048576 : Int) < (len : Int) by omega)]
  go_wp2_with fail
  refine (drawFlush hA w a len cap zs HC.out).mono ?_
  rintro e w1 ⟨v, D, hh, zz, rfl, hD, hR, hrng, b1⟩
  have HD := hid hD
  have HR := hid hR
  obtain ⟨a1, c1, a2, c2, a3, c3, rfl, _, hEp, _⟩ := hR
  obtain ⟨w2, hw2, ez2, A2, B2⟩ := one_new w1 [.slice a1 D.sec.length c1, .slice a2 D.ep.length c2, .slice a3 D.pe.length c3] 28
  have HR2 := hid (HR.out.below B2)
  have HB2 := hid (b1.trans (B2.mono b1.size))
  have HA2 := hid A2
  have k0 := A2.c 0 rfl
  have k1 := A2.c 1 rfl
  have k2 := A2.c 2 rfl
  have hg1 : w.heap.size ≤ w1.heap.size := b1.size
  clear A2 B2 hEp b1 hD ez2 HR
  go_wp2_with fail
  refine (diskOk w2 _ D HR2.out HD.out.held).mono ?_
  rintro e w3 ⟨rfl, b3⟩
  have HR3 := hid (HR2.out.below b3)
  have HB3 := hid (HB2.out.trans (b3.mono HB2.out.size))
  have HA3 := hid (HA2.out.below b3 HA2.out.lt)
  clear b3 HR2 HB2 HA2 k0 k1 k2 hw2
  cases hr : D.right with
  | false =>
    go_wp2
    go_ret
    exact ⟨rfl, HB3.out⟩
  | true =>
    have HT := hid (Dk.of_right hr)
    clear hr
    by_cases h1 : hh < 0
    · go_wp2
      go_ret
      exact ⟨rfl, HB3.out⟩
    by_cases h2 : 3 ≤ hh
    · go_wp2
      go_ret
      exact ⟨rfl, HB3.out⟩
    obtain ⟨n, rfl⟩ : ∃ n : Nat, hh = (n : Int) := Int.eq_ofNat_of_zero_le (by omega)
    have hn3 : n < 3 := by omega
    have hnl : n < D.ep.length := by have := HT.out.e3; omega
    obtain ⟨fc, hXr, hXp⟩ := flushA_code (n := n) HT.out hn3
    have hEp : Ints w3 a2 D.ep := by
      obtain ⟨_, _, _, _, _, _, e, _, s2, _⟩ := HR3.out
      cases e
      exact s2
    obtain ⟨be, oe, rfl, hce⟩ := hEp n hnl
    replace hce : w3.cell? ⟨be, oe + n, none⟩ = some (.int .i64 (D.ep.getD n 0)) := hce
    obtain ⟨ep, hep⟩ : ∃ ep, D.ep.getD n 0 = ep := ⟨_, rfl⟩
    rw [hep] at hce
    obtain ⟨P, hP⟩ : ∃ P, D.flushA n ep = P := ⟨_, rfl⟩
    rw [hep, hP] at fc hXr hXp
    obtain ⟨X, cc⟩ := P
    simp only [] at fc hXr hXp
    subst fc
    have HP := hid hP
    have HEp := hid hep
    have HX := hid hXr
    have HXp := hid hXp
    have HCe : Hid (∀ wv, Below w3.heap.size w3 wv → wv.cell? ⟨be, oe + n, none⟩ = some (.int .i64 ep)) := fun wv b => by rw [cell_block (p := ⟨be, oe + n, none⟩) (b.block be (World.block_lt_of_cell? _ _ hce))]; exact hce
    have HNl : Hid ((n : Int) < (D.ep.length : Int)) := by have := hnl; exact (by omega : (n : Int) < (D.ep.length : Int))
    clear hP hep hXr hXp hce h1 h2 hrng
    go_upto_region 6 with fail
    refine region_ans (rs := [⟨0, 0, 0, [.slice a1 D.sec.length c1, .slice (some ⟨be, oe, none⟩) D.ep.length c2, .slice a3 D.pe.length c3]⟩, ⟨8, 0, 0, [.int .i64 (n : Int)]⟩, ⟨8, 0, 0, [.pointer (some ⟨w1.heap.size, 1, none⟩)]⟩, ⟨8, 0, 0, [.slice (some ⟨be, oe, none⟩) D.ep.length c2]⟩, ⟨8, 0, 0, [.int .i64 (n : Int)]⟩, ⟨8, 0, 0, [.pointer (some ⟨be, oe + n, none⟩)]⟩, ⟨8, 0, 0, [.int .i64 ep]⟩, ⟨2, 0, 0, []⟩, ⟨3, 0, 0, []⟩, ⟨4, 8, 0, []⟩, ⟨4, 8, 1, []⟩, ⟨5, 0, 12, [.slice none 0 0, .slice none 0 0, .slice none 0 0]⟩, ⟨6, 11, 9, []⟩, ⟨7, 10, 0, []⟩]) (f := 7)
      (S := fun _ _ _ => True) (FS := fun _ _ _ => False)
      (RF := fun V wx => ∃ l, V = .tuple #[.agg (List.toArray l), .int .i64 0] ∧ KDk.W wx w3.heap.size l X)
      (Ft := fun V b => ∃ l, V = .tuple #[.agg (List.toArray l), .int .i64 0] ∧ KDk.F l b)
      true (by kernel_rfl) (by kernel_rfl) rfl [0, 1, 6] (fun v => #[v 0, v 1, v 6]) ?_ [some 38, some 39, some 40, some 41, some 42, some 43, some 44, some 45, some 37, some 46, some 47, some 6, none, some 7] (by kernel_rfl) ?_
    · refine aCons (aLoad rfl rfl 28 _ rfl (b := w1.heap.size) (by kernel_rfl) (by kernel_rfl) _ HA3.out Try.underlying28 rfl zDisk) ?_
      refine aCons (aFix rfl rfl (fun L v a wv hA hb hL hf => by have e1 : a.eval (.tmp 4) = .int .i64 (n : Int) := (hA.eval_off (x := .tmp 4) (by kernel_rfl)); generalize a.eval = ρ at e1 ⊢; unfold execOp; go_simp; first | done | rfl)) ?_
      refine aCons (aFix rfl rfl (fun L v a wv hA hb hL hf => by have e1 : a.eval (.tmp 3) = .pointer (some ⟨w1.heap.size, 0, none⟩) := (hA.eval_off (x := .tmp 3) (by kernel_rfl)); generalize a.eval = ρ at e1 ⊢; unfold execOp; go_simp; first | done | rfl)) ?_
      refine aCons (aFix rfl rfl (fun L v a wv hA hb hL hf => by have e1 : a.eval (.tmp 40) = .pointer (some ⟨w1.heap.size, 1, none⟩) := (hA.eval_got 2 (hL 2 (by kernel_rfl)) (by kernel_rfl)).trans (hf 2 _ (by kernel_rfl) rfl rfl); have hrow := HA3.out.below hb HA3.out.lt; have c1 := hrow.c 1 rfl; generalize a.eval = ρ at e1 ⊢; unfold execOp; go_simp; first | done | rfl)) ?_
      refine aCons (aFix rfl rfl (fun L v a wv hA hb hL hf => by have e1 : a.eval (.tmp 4) = .int .i64 (n : Int) := (hA.eval_off (x := .tmp 4) (by kernel_rfl)); generalize a.eval = ρ at e1 ⊢; unfold execOp; go_simp; first | done | rfl)) ?_
      refine aCons (aFix rfl rfl (fun L v a wv hA hb hL hf => by have e1 : a.eval (.tmp 41) = .slice (some ⟨be, oe, none⟩) D.ep.length c2 := (hA.eval_got 3 (hL 3 (by kernel_rfl)) (by kernel_rfl)).trans (hf 3 _ (by kernel_rfl) rfl rfl); have e2 : a.eval (.tmp 42) = .int .i64 (n : Int) := (hA.eval_got 4 (hL 4 (by kernel_rfl)) (by kernel_rfl)).trans (hf 4 _ (by kernel_rfl) rfl rfl); have n1 := HNl.out; generalize a.eval = ρ at e1 e2 ⊢; unfold execOp; go_simp; first | done | rfl)) ?_
      refine aCons (aFix rfl rfl (fun L v a wv hA hb hL hf => by have e1 : a.eval (.tmp 43) = .pointer (some ⟨be, oe + n, none⟩) := (hA.eval_got 5 (hL 5 (by kernel_rfl)) (by kernel_rfl)).trans (hf 5 _ (by kernel_rfl) rfl rfl); have c1 := HCe.out _ hb; generalize a.eval = ρ at e1 ⊢; unfold execOp; go_simp; first | done | rfl)) ?_
      refine aCons (aFn rfl rfl 7 _ _ rfl call_iFlush ?_ (by kernel_rfl) ?_ ?_) ?_
      · intro L v a hA hL
        simp only [List.map_toArray, List.map_cons, List.map_nil]
        rw [hA.eval_got 0 (hL 0 (by simp)) (by kernel_rfl), hA.eval_got 1 (hL 1 (by simp)) (by kernel_rfl), hA.eval_got 6 (hL 6 (by simp)) (by kernel_rfl)]
      · rintro V w' w'' T ⟨l, e1, Z⟩ kk hn
        exact ⟨l, e1, Z.kept kk (fun b hb => hn b ⟨l, e1, hb⟩)⟩
      · intro v w' hb hv
        have e0 := (hv 0 _ (by simp) rfl).1.1 rfl
        have e1 := (hv 1 _ (by simp) rfl).1.2 rfl
        have e6 := (hv 6 _ (by simp) rfl).1.2 rfl
        rw [e0, e1, e6]
        refine (implFlush w' _ D n ep (HR3.out.below hb) HD.out.held HD.out.small).mono ?_
        rw [HP.out]
        rintro e w'' ⟨v', rfl, Z, b1⟩
        obtain ⟨x1, y1, x2, y2, x3, y3, rfl⟩ := Z.three
        have Z' : KDk.W w'' w'.heap.size [.slice x1 X.sec.length y1, .slice x2 X.ep.length y2, .slice x3 X.pe.length y3] X := Z
        exact ⟨_, rfl, ⟨_, rfl, Z'.mono hb.size⟩, (fun b ⟨l, e, h⟩ => .inl (by
          simp only [Value.tuple.injEq, Value.agg.injEq, Array.mk.injEq, List.cons.injEq, and_true] at e
          obtain rfl := e
          exact ⟨Z'.ge h, Z'.read.lt h⟩)), Kept.of_below b1⟩
      refine aCons (aMove rfl rfl _ rfl (by kernel_rfl) (by kernel_rfl) rfl rfl) ?_
      refine aCons (aExt rfl rfl _ rfl (by kernel_rfl) (by kernel_rfl) (by kernel_rfl) rfl rfl rfl rfl (fun V w h => by obtain ⟨l, rfl, _⟩ := h; exact ⟨_, _, rfl, rfl⟩)) ?_
      refine aCons (aExt rfl rfl _ rfl (by kernel_rfl) (by kernel_rfl) (by kernel_rfl) rfl rfl rfl rfl (fun V w h => by obtain ⟨l, rfl, _⟩ := h; exact ⟨_, _, rfl, rfl⟩)) ?_
      refine aCons (aBox rfl rfl 28 (fun ρ w => by unfold execOp; simp [go_sem]) rfl rfl rfl) ?_
      refine aCons (aSto rfl rfl 28 _ _ rfl (by kernel_rfl) (by kernel_rfl) (by kernel_rfl) (by kernel_rfl) (by kernel_rfl) rfl rfl rfl rfl rfl (by kernel_rfl) rfl rfl ?_) ?_
      · rintro V w' a x ⟨l, rfl, Z⟩ ea ex
        cases ea
        cases ex
        exact ⟨l, rfl, Z.read.len.1, Z.read.len.2⟩
      exact aCons (aAsg rfl rfl _ rfl (by kernel_rfl) (by kernel_rfl)) (aNil _)
    intro L vv w4 hL hb4 G
    obtain ⟨gx, ks, eg, ev, X1, hgx, hfx⟩ := boxed hL G 12 11 9 rfl rfl rfl rfl rfl rfl rfl rfl
    obtain ⟨⟨l, eV, Z⟩, _, _⟩ := (G 7 _ rfl).2.2.1 rfl
    obtain ⟨_, y0, z0⟩ := (G 9 _ rfl).2.2.2.2.1 rfl
    obtain ⟨_, y1, z1⟩ := (G 10 _ rfl).2.2.2.2.1 rfl
    have e13 := (G 13 _ rfl).2.2.2.2.2.2.2 rfl
    rw [eV] at y0 y1
    cases y0
    cases y1
    replace z0 : Value.agg (List.toArray l) = vv 9 := Option.some.inj z0
    obtain rfl : ks = l := agg_inj (ev.symm.trans z0.symm)
    replace z1 : Value.int .i64 0 = vv 10 := Option.some.inj z1
    replace e13 : vv 13 = .int .i64 0 := Eq.trans e13 z1.symm
    have hff : ∀ b, KDk.F ks b → b ≠ gx := fun b hb => hfx b ⟨ks, eV, hb⟩
    simp only [putsAll, Act.put, List.setIfInBounds_toArray, List.set_cons_zero, List.set_cons_succ, eg, e13]
    have HXr := hid X1
    have HZ := hid Z
    have HR4 := hid (HR3.out.below hb4)
    have HA4 := hid (HA3.out.below hb4 HA3.out.lt)
    have HB4 := hid (HB3.out.trans (hb4.mono HB3.out.size))
    have hs34 : w3.heap.size ≤ w4.heap.size := hb4.size
    have hgd : w1.heap.size < w3.heap.size := HA3.out.lt
    have hgx4 : gx < w4.heap.size := X1.lt
    clear G hb4 X1 Z eg ev eV z0 z1 e13 hfx HCe HNl HA3 HR3 HB3
    have k0 := HA4.out.c 0 rfl
    have k1 := HA4.out.c 1 rfl
    have k2 := HA4.out.c 2 rfl
    obtain ⟨w5, hw5, ez5, A5, B5⟩ := one_new w4 [.slice a1 D.sec.length c1, .slice (some ⟨be, oe, none⟩) D.ep.length c2, .slice a3 D.pe.length c3] 28
    have HF5 : Hid (Fl w w1.heap.size gx w4.heap.size [.slice a1 D.sec.length c1, .slice (some ⟨be, oe, none⟩) D.ep.length c2, .slice a3 D.pe.length c3] ks [.slice a1 D.sec.length c1, .slice (some ⟨be, oe, none⟩) D.ep.length c2, .slice a3 D.pe.length c3] D X D w5) := ⟨HA4.out.below B5 HA4.out.lt, HXr.out.below B5 HXr.out.lt, A5, HR4.out.below B5, HZ.out.read.below B5, HR4.out.below B5, HB4.out.trans (B5.mono HB4.out.size), by omega, hgx4, HB4.out.size, fun b hb => by have := HZ.out.read.lt hb; omega, fun b hb => by have := HR4.out.foot_lt hb; omega⟩
    clear A5 B5 HXr HZ HR4 HA4 HB4 ez5
    have hgyx : gx < w4.heap.size := hgx4
    go_upto_region 9 with fail
    try simp only [hw5]
    clear hw5 k0 k1 k2
    generalize hgy : w4.heap.size = gy at *
    generalize hgdd : w1.heap.size = gd at *
    go_loopw [9] (fun k wr => ∃ (kk : Nat) (E : Dk) (y0 y1 y2 : Value), kk ≤ 200 ∧ k = .int .i64 (kk : Int) ∧ Hid (D.From n E) ∧ Hid (Fl w gd gx gy [.slice a1 D.sec.length c1, .slice (some ⟨be, oe, none⟩) D.ep.length c2, .slice a3 D.pe.length c3] ks [y0, y1, y2] D X E wr)) (fun k _ => 200 - (intOf k).toNat)
    case atStart => exact ⟨0, D, _, _, _, by omega, rfl, Dk.From.start HT.out n, HF5⟩
    case round =>
      obtain ⟨kk, E, y0, y1, y2, hk, rfl, HG, HF⟩ := hrel
      by_cases hlt : kk < 200
      · obtain ⟨p1, q1, p2, q2, p3, q3, ey, _⟩ := HF.out.y
        cases ey
        have hE40 : E.pe.length ≤ 40 := HG.out.r.p40
        have HE40 := hid hE40
        have hadd : IntKind.i64.wrap ((E.pe.length : Int) + 1) = (E.pe.length : Int) + 1 := by rw [IntKind.wrap_i64]; omega
        go_upto_region 11 with fail
        refine region_ret (rs := [⟨0, 0, 0, [.slice a len cap]⟩, ⟨0, 0, 0, [.int .i64 (kk : Int)]⟩, ⟨1, 0, 0, []⟩, ⟨0, 0, 0, [.pointer (some ⟨gy, 2, none⟩)]⟩, ⟨0, 0, 0, [.slice p3 E.pe.length q3]⟩, ⟨0, 0, 0, [.int .i64 (E.pe.length : Int)]⟩, ⟨0, 0, 0, [.int .i64 ((E.pe.length : Int) + 1)]⟩, ⟨1, 0, 0, []⟩, ⟨1, 0, 0, []⟩])
          (S := fun i v _ => match i with
            | 2 => ∃ x : Nat, x ≤ 255 ∧ v 2 = .int .i64 (x : Int)
            | 7 => ∃ r : Nat, r ≤ E.pe.length ∧ v 7 = .int .i64 (r : Int)
            | _ => ∃ r : Nat, r ≤ E.pe.length ∧ v 8 = .int .i64 (r : Int))
          true (by kernel_rfl) (by kernel_rfl) rfl ?_ [some 53, some 54, some 55, some 56, some 57, some 58, some 59, some 60, some 10] (by kernel_rfl) ?_
        · refine rCons (rFix rfl rfl (fun L v a' w' K => by have e1 : a'.eval (.tmp 0) = .slice a len cap := K.off (x := .tmp 0) (by kernel_rfl); generalize a'.eval = ρ at e1 ⊢; unfold execOp; go_simp; first | done | rfl)) ?_
          refine rCons (rFix rfl rfl (fun L v a' w' K => by have e1 : a'.eval (.tmp 9) = .int .i64 (kk : Int) := K.off (x := .tmp 9) (by kernel_rfl); generalize a'.eval = ρ at e1 ⊢; unfold execOp; go_simp; first | done | rfl)) ?_
          refine rCons (rCall rfl rfl 8 _ _ (fun _ => #[.slice a len cap, .int .i64 (kk : Int)]) rfl call_lat (fun L v a' w' K => by simp only [List.map_toArray, List.map_cons, List.map_nil]; rw [K.got 0 (by kernel_rfl) (by kernel_rfl) rfl rfl, K.got 1 (by kernel_rfl) (by kernel_rfl) rfl rfl]; rfl) (fun v w' w'' h _ => h) (fun v v' hv w' ⟨x, hx, e⟩ => ⟨x, hx, (hv 2 (.inl rfl)) ▸ e⟩) ?_) ?_
          · intro v w' kp _
            have kb : Below wr.heap.size wr w' := kp.below (Nat.le_refl _) (fun b _ h => by have := into_of h (rfl : _ = []); cases this)
            refine (lawAt w' a len cap zs (HC.out.below (HF.out.bel.trans (kb.mono HF.out.bel.size))) kk (by omega)).mono ?_
            rintro e w'' ⟨x, hx, rfl, rfl⟩
            exact ⟨_, rfl, ⟨x, hx, updv_same v 2 _⟩, Below.refl _ _⟩
          refine rCons (rFix rfl rfl (fun L v a' w' K => by have e1 : a'.eval (.tmp 8) = .pointer (some ⟨gy, 0, none⟩) := K.off (x := .tmp 8) (by kernel_rfl); generalize a'.eval = ρ at e1 ⊢; unfold execOp; go_simp; first | done | rfl)) ?_
          refine rCons (rFix rfl rfl (fun L v a' w' K => by have e1 : a'.eval (.tmp 56) = .pointer (some ⟨gy, 2, none⟩) := K.got 3 (by kernel_rfl) (by kernel_rfl) rfl rfl; have c1 := (HF.out.b.kept K.kept (fun h => by have := into_of h (rfl : _ = []); cases this)).c 2 rfl; generalize a'.eval = ρ at e1 ⊢; unfold execOp; go_simp; first | done | rfl)) ?_
          refine rCons (rFix rfl rfl (fun L v a' w' K => by have e1 : a'.eval (.tmp 57) = .slice p3 E.pe.length q3 := K.got 4 (by kernel_rfl) (by kernel_rfl) rfl rfl; generalize a'.eval = ρ at e1 ⊢; unfold execOp; go_simp; first | done | rfl)) ?_
          refine rCons (rFix rfl rfl (fun L v a' w' K => by have e1 : a'.eval (.tmp 58) = .int .i64 (E.pe.length : Int) := K.got 5 (by kernel_rfl) (by kernel_rfl) rfl rfl; have ec : ∀ v, a'.eval (.const v) = v := fun _ => rfl; generalize a'.eval = ρ at e1 ec ⊢; unfold execOp; go_simp; first | done | rfl)) ?_
          refine rCons (rVal rfl rfl (fun v w' w'' h _ => h) (fun v v' hv w' ⟨x, hx, e⟩ => ⟨x, hx, (hv 7 (.inl rfl)) ▸ e⟩) ?_) ?_
          · intro L v a' w' K
            obtain ⟨x, hx, e2⟩ := K.said 2 _ (by kernel_rfl) rfl rfl
            have e1 : a'.eval (.tmp 55) = .int .i64 (x : Int) := (K.slots.eval_got 2 (K.up 2 (by kernel_rfl)) (by kernel_rfl)).trans e2
            have e3 : a'.eval (.tmp 59) = .int .i64 ((E.pe.length : Int) + 1) := K.got 6 (by kernel_rfl) (by kernel_rfl) rfl rfl
            have hm : Int.tmod (x : Int) ((E.pe.length : Int) + 1) = ((x % (E.pe.length + 1) : Nat) : Int) := by rw [Int.tmod_eq_emod_of_nonneg (by omega)]; rfl
            have hr : x % (E.pe.length + 1) ≤ E.pe.length := by have := Nat.mod_lt x (show 0 < E.pe.length + 1 by omega); omega
            have hw : IntKind.i64.wrap ((x % (E.pe.length + 1) : Nat) : Int) = ((x % (E.pe.length + 1) : Nat) : Int) := by rw [IntKind.wrap_i64]; omega
            have hz : ¬ ((E.pe.length : Int) + 1 = 0) := by omega
            refine ⟨.int .i64 ((x % (E.pe.length + 1) : Nat) : Int), ?_, ⟨_, hr, updv_same v 7 _⟩⟩
            generalize hmm : x % (E.pe.length + 1) = m at *
            generalize a'.eval = ρ at e1 e3 ⊢
            unfold execOp
            go_simp
          refine rCons (rVal rfl rfl (fun v w' w'' h _ => h) (fun v v' hv w' ⟨x, hx, e⟩ => ⟨x, hx, (hv 8 (.inl rfl)) ▸ e⟩) ?_) (rNil _)
          · intro L v a' w' K
            obtain ⟨x, hx, e2⟩ := K.said 7 _ (by kernel_rfl) rfl rfl
            have e1 : a'.eval (.tmp 60) = .int .i64 (x : Int) := (K.slots.eval_got 7 (K.up 7 (by kernel_rfl)) (by kernel_rfl)).trans e2
            refine ⟨.int .i64 (x : Int), ?_, ⟨x, hx, updv_same v 8 _⟩⟩
            generalize a'.eval = ρ at e1 ⊢
            unfold execOp
            go_simp
        intro L vv w6 hL kp G
        have bq : Below wr.heap.size wr w6 := kp.below (Nat.le_refl _) (fun b _ h => by have := into_of h (rfl : _ = []); cases this)
        obtain ⟨r0, hr0, e8⟩ := (G 8 _ rfl).2.1 rfl
        replace e8 : vv 8 = .int .i64 (r0 : Int) := e8
        simp only [putsAll, Act.put, List.setIfInBounds_toArray, List.set_cons_zero, List.set_cons_succ, e8]
        replace HF := hid (HF.out.below bq)
        clear G kp bq e8 hadd
        obtain ⟨wo, hwo⟩ : ∃ wo, wo = wr := ⟨_, rfl⟩
        subst hwo
        have h0len : (0 : Nat) ≤ E.pe.length := Nat.zero_le _
        go_upto_region 13 with fail
        simp only [show decide ((kk : Int) < 200) = true from decide_eq_true (by omega), Nat.zero_add, Nat.reduceAdd]
        go_loopw [10, 11] (fun i j wr => ∃ (ii jj : Nat), ii ≤ E.pe.length ∧ jj ≤ E.pe.length ∧ i = .int .i64 (ii : Int) ∧ j = .int .i64 (jj : Int) ∧ Hid (Fl w gd gx gy [.slice a1 D.sec.length c1, .slice (some ⟨be, oe, none⟩) D.ep.length c2, .slice a3 D.pe.length c3] ks [.slice p1 E.sec.length q1, .slice p2 E.ep.length q2, .slice p3 E.pe.length q3] D X E wr)) (fun _ j _ => E.pe.length - (intOf j).toNat)
        case atStart => exact ⟨r0, 0, hr0, h0len, rfl, rfl, HF⟩
        case round =>
          clear HF
          obtain ⟨ii, jj, hii, hjj, rfl, rfl, HF⟩ := hrel
          by_cases hj : jj < E.pe.length
          · by_cases hi : ii < E.pe.length
            · obtain ⟨b3, o3, rfl, x0, x1, x2, x3⟩ := Wts.at_ (dk_partsL HF.out.y).2.2 ii hi
              have c2 := HF.out.b.c 2 rfl
              generalize hu : E.pe.getD ii Wt.none = u at x0 x1 x2 x3
              have HU := hid hu
              clear hu x1 x2 x3
              by_cases hx : u.host = (n : Int)
              · have c0 := HF.out.b.c 0 rfl
                have c1 := HF.out.b.c 1 rfl
                have HLd := hid (HG.out.land ii hi (by rw [HU.out]; exact hx))
                go_wp2_with fail
                refine (implLand wr _ E (ii : Int) HF.out.y HG.out.r.held.1 (right_smallL HG.out.r)).mono ?_
                rintro e w7 ⟨vz, rfl, Wz, b7⟩
                obtain ⟨s1, t1, s2, t2, s3, t3, rfl⟩ := Wz.three
                have hzf : ∀ b, DkFoot (.agg #[.slice s1 (E.landA (ii : Int)).1.sec.length t1, .slice s2 (E.landA (ii : Int)).1.ep.length t2, .slice s3 (E.landA (ii : Int)).1.pe.length t3]) b → b ≠ gy := fun b hb => by have := Wz.foot_ge hb; have := HF.out.b.lt; omega
                have HWz := hid Wz.read
                have HF7 := hid (HF.out.below b7)
                have HZf := hid hzf
                clear Wz b7 hzf
                clear c0 c1 c2 x0
                obtain ⟨w8, hw8, e8, A8, B8⟩ := one_new w7 [.slice s1 (E.landA (ii : Int)).1.sec.length t1, .slice s2 (E.landA (ii : Int)).1.ep.length t2, .slice s3 (E.landA (ii : Int)).1.pe.length t3] 28
                have HF8 := hid (HF7.out.below B8)
                have z0 := A8.c 0 rfl
                have z1 := A8.c 1 rfl
                have z2 := A8.c 2 rfl
                have HWz8 := hid (HWz.out.below B8)
                have HLn := hid (Dk.From.land HG.out ii hi (by rw [HU.out]; exact hx))
                have c0 := HF8.out.b.c 0 rfl
                have c1 := HF8.out.b.c 1 rfl
                have c2 := HF8.out.b.c 2 rfl
                have f0 := HF8.out.b.f 0
                have f1 := HF8.out.b.f 1
                have f2 := HF8.out.b.f 2
                have hne : gy ≠ w7.heap.size := by have := HF7.out.b.lt; omega
                have hne' : w7.heap.size ≠ gy := Ne.symm hne
                clear A8 B8 e8 HLd
                cases hc : (E.landA (ii : Int)).2 with
                | true =>
                  go_wp2
                  exact ⟨⟨kk + 1, (E.landA (ii : Int)).1, _, _, _, by omega, by go_num, HLn, HF8.out.set HWz8.out HZf.out⟩, by simp [intOf]; omega⟩
                | false =>
                  go_wp2
                  exact ⟨⟨kk + 1, E, _, _, _, by omega, by go_num, HG, HF8⟩, by simp [intOf]; omega⟩
              · have hb1 : (u.host != (n : Int)) = true := by simpa using hx
                have hb2 : (u.host == (n : Int)) = false := by simpa using hx
                go_wp2
                go_roundw
                case rel => first | exact ⟨jj, jj + 1, by omega, by omega, rfl, by go_num, HF⟩ | (simp only [Nat.zero_add, Nat.reduceAdd]; (repeat apply Exists.intro); refine ⟨⟨jj, jj + 1, by omega, by omega, rfl, ?hn, HF⟩, rfl⟩; exact rfl)
                case measure => simp [intOf]; omega
            · have c2 := HF.out.b.c 2 rfl
              go_wp2
              go_roundw
              case rel => first | exact ⟨jj, jj + 1, by omega, by omega, rfl, by go_num, HF⟩ | (simp only [Nat.zero_add, Nat.reduceAdd]; (repeat apply Exists.intro); refine ⟨⟨jj, jj + 1, by omega, by omega, rfl, ?hn, HF⟩, rfl⟩; exact rfl)
              case measure => simp [intOf]; omega
          · by_cases hi : ii < E.pe.length
            · obtain ⟨b3, o3, rfl, x0, x1, x2, x3⟩ := Wts.at_ (dk_partsL HF.out.y).2.2 ii hi
              have c2 := HF.out.b.c 2 rfl
              generalize hu : E.pe.getD ii Wt.none = u at x0 x1 x2 x3
              have HU := hid hu
              clear hu x1 x2 x3
              by_cases hx : u.host = (n : Int)
              · have c0 := HF.out.b.c 0 rfl
                have c1 := HF.out.b.c 1 rfl
                have HLd := hid (HG.out.land ii hi (by rw [HU.out]; exact hx))
                go_wp2_with fail
                refine (implLand wr _ E (ii : Int) HF.out.y HG.out.r.held.1 (right_smallL HG.out.r)).mono ?_
                rintro e w7 ⟨vz, rfl, Wz, b7⟩
                obtain ⟨s1, t1, s2, t2, s3, t3, rfl⟩ := Wz.three
                have hzf : ∀ b, DkFoot (.agg #[.slice s1 (E.landA (ii : Int)).1.sec.length t1, .slice s2 (E.landA (ii : Int)).1.ep.length t2, .slice s3 (E.landA (ii : Int)).1.pe.length t3]) b → b ≠ gy := fun b hb => by have := Wz.foot_ge hb; have := HF.out.b.lt; omega
                have HWz := hid Wz.read
                have HF7 := hid (HF.out.below b7)
                have HZf := hid hzf
                clear Wz b7 hzf
                clear c0 c1 c2 x0
                obtain ⟨w8, hw8, e8, A8, B8⟩ := one_new w7 [.slice s1 (E.landA (ii : Int)).1.sec.length t1, .slice s2 (E.landA (ii : Int)).1.ep.length t2, .slice s3 (E.landA (ii : Int)).1.pe.length t3] 28
                have HF8 := hid (HF7.out.below B8)
                have z0 := A8.c 0 rfl
                have z1 := A8.c 1 rfl
                have z2 := A8.c 2 rfl
                have HWz8 := hid (HWz.out.below B8)
                have HLn := hid (Dk.From.land HG.out ii hi (by rw [HU.out]; exact hx))
                have c0 := HF8.out.b.c 0 rfl
                have c1 := HF8.out.b.c 1 rfl
                have c2 := HF8.out.b.c 2 rfl
                have f0 := HF8.out.b.f 0
                have f1 := HF8.out.b.f 1
                have f2 := HF8.out.b.f 2
                have hne : gy ≠ w7.heap.size := by have := HF7.out.b.lt; omega
                have hne' : w7.heap.size ≠ gy := Ne.symm hne
                clear A8 B8 e8 HLd
                cases hc : (E.landA (ii : Int)).2 with
                | true =>
                  go_wp2
                  exact ⟨⟨kk + 1, (E.landA (ii : Int)).1, _, _, _, by omega, by go_num, HLn, HF8.out.set HWz8.out HZf.out⟩, by simp [intOf]; omega⟩
                | false =>
                  go_wp2
                  exact ⟨⟨kk + 1, E, _, _, _, by omega, by go_num, HG, HF8⟩, by simp [intOf]; omega⟩
              · have hb1 : (u.host != (n : Int)) = true := by simpa using hx
                have hb2 : (u.host == (n : Int)) = false := by simpa using hx
                go_wp2
                exact ⟨⟨kk + 1, E, _, _, _, by omega, by go_num, HG, HF⟩, by simp [intOf]; omega⟩
            · have c2 := HF.out.b.c 2 rfl
              go_wp2
              exact ⟨⟨kk + 1, E, _, _, _, by omega, by go_num, HG, HF⟩, by simp [intOf]; omega⟩
      · obtain rfl : kk = 200 := by omega
        obtain ⟨p1, q1, p2, q2, p3, q3, ey, _⟩ := HF.out.y
        cases ey
        have hm0 : mine E.pe n ≤ 40 - 0 := by have := mine_le E.pe n; have := HG.out.r.p40; omega
        have HM0 := hid hm0
        clear hm0
        obtain ⟨wo, hwo⟩ : ∃ wo, wo = wr := ⟨_, rfl⟩
        subst hwo
        go_upto_region 21 with fail
        rw [show ((200 : Nat) : Int) = 200 from rfl]
        go_loopw [14] (fun k wr => ∃ (kk : Nat) (E : Dk) (y0 y1 y2 : Value), kk ≤ 40 ∧ k = .int .i64 (kk : Int) ∧ Hid (D.From n E) ∧ Hid (mine E.pe n ≤ 40 - kk) ∧ Hid (Fl w gd gx gy [.slice a1 D.sec.length c1, .slice (some ⟨be, oe, none⟩) D.ep.length c2, .slice a3 D.pe.length c3] ks [y0, y1, y2] D X E wr)) (fun k _ => 40 - (intOf k).toNat)
        case atStart => exact ⟨0, E, _, _, _, by omega, rfl, HG, HM0, HF⟩
        case round =>
          clear HF HG HM0
          obtain ⟨kk, E, y0, y1, y2, hk, rfl, HG, HM, HF⟩ := hrel
          by_cases hlt : kk < 40
          · obtain ⟨p1, q1, p2, q2, p3, q3, ey, _⟩ := HF.out.y
            cases ey
            have hE40 : E.pe.length ≤ 40 := HG.out.r.p40
            obtain ⟨wo2, hwo2⟩ : ∃ wo, wo = wr := ⟨_, rfl⟩
            subst hwo2
            go_upto_region 24 with fail
            simp only [show decide ((kk : Int) < 40) = true from decide_eq_true (by omega)]
            go_loopw [15] (fun i wr => ∃ (ii : Nat), ii ≤ E.pe.length ∧ i = .int .i64 (ii : Int) ∧ Hid (∀ j, j < ii → (E.pe.getD j Wt.none).host ≠ (n : Int)) ∧ Hid (Fl w gd gx gy [.slice a1 D.sec.length c1, .slice (some ⟨be, oe, none⟩) D.ep.length c2, .slice a3 D.pe.length c3] ks [.slice p1 E.sec.length q1, .slice p2 E.ep.length q2, .slice p3 E.pe.length q3] D X E wr)) (fun i _ => E.pe.length - (intOf i).toNat)
            case atStart => exact ⟨0, Nat.zero_le _, rfl, fun j hj => by omega, HF⟩
            case round =>
              clear HF
              obtain ⟨ii, hii, rfl, HN, HF⟩ := hrel
              by_cases hi : ii < E.pe.length
              · obtain ⟨b3, o3, rfl, x0, x1, x2, x3⟩ := Wts.at_ (dk_partsL HF.out.y).2.2 ii hi
                have c2 := HF.out.b.c 2 rfl
                generalize hu : E.pe.getD ii Wt.none = u at x0 x1 x2 x3
                have HU := hid hu
                clear hu x1 x2 x3
                by_cases hx : u.host = (n : Int)
                · have c0 := HF.out.b.c 0 rfl
                  have c1 := HF.out.b.c 1 rfl
                  have HFst := hid (Dk.From.first HG.out ii hi (by rw [HU.out]; exact hx) HN.out)
                  go_wp2_with fail
                  refine (implLand wr _ E (ii : Int) HF.out.y HG.out.r.held.1 (right_smallL HG.out.r)).mono ?_
                  rintro e w7 ⟨vz, rfl, Wz, b7⟩
                  obtain ⟨s1, t1, s2, t2, s3, t3, rfl⟩ := Wz.three
                  have hzf : ∀ b, DkFoot (.agg #[.slice s1 (E.landA (ii : Int)).1.sec.length t1, .slice s2 (E.landA (ii : Int)).1.ep.length t2, .slice s3 (E.landA (ii : Int)).1.pe.length t3]) b → b ≠ gy := fun b hb => by have := Wz.foot_ge hb; have := HF.out.b.lt; omega
                  have HWz := hid Wz.read
                  have HF7 := hid (HF.out.below b7)
                  have HZf := hid hzf
                  clear Wz b7 hzf
                  clear c0 c1 c2 x0
                  have c0 := HF7.out.b.c 0 rfl
                  have c1 := HF7.out.b.c 1 rfl
                  have c2 := HF7.out.b.c 2 rfl
                  have f0 := HF7.out.b.f 0
                  have f1 := HF7.out.b.f 1
                  have f2 := HF7.out.b.f 2
                  have HMn : Hid (mine (E.landA (ii : Int)).1.pe n ≤ 40 - (kk + 1)) := by have := HFst.out.2; have := HM.out; exact (by omega : mine (E.landA (ii : Int)).1.pe n ≤ 40 - (kk + 1))
                  go_wp2
                  exact ⟨⟨kk + 1, (E.landA (ii : Int)).1, _, _, _, by omega, by go_num, HFst.out.1, HMn, HF7.out.set HWz.out HZf.out⟩, by simp [intOf]; omega⟩
                · have HN' : Hid (∀ j, j < ii + 1 → (E.pe.getD j Wt.none).host ≠ (n : Int)) := fun j hj => by
                    by_cases h : j = ii
                    · subst h; rw [HU.out]; exact hx
                    · exact HN.out j (by omega)
                  have hb1 : (u.host != (n : Int)) = true := by simpa using hx
                  have hb2 : (u.host == (n : Int)) = false := by simpa using hx
                  go_wp2
                  go_roundw
                  case rel => exact ⟨ii + 1, by omega, by go_num, HN', HF⟩
                  case measure => simp [intOf]; omega
              · obtain rfl : ii = E.pe.length := by omega
                have c2 := HF.out.b.c 2 rfl
                have HMn : Hid (mine E.pe n ≤ 40 - (kk + 1)) := by have := mine_no HN.out; exact (by omega : mine E.pe n ≤ 40 - (kk + 1))
                go_wp2
                exact ⟨⟨kk + 1, E, _, _, _, by omega, by go_num, HG, HMn, HF⟩, by simp [intOf]; omega⟩
          · obtain rfl : kk = 40 := by omega
            have hmz : mine E.pe n = 0 := by have := HM.out; omega
            have hXE : X = E := by
              have h := Dk.From.done HG.out HT.out hn3 hmz
              rw [HEp.out, HP.out] at h
              exact (Prod.mk.inj h).1
            have HXE := hid hXE
            have HEh := hid HG.out.r.held.1
            have HXh := hid HX.out.held.1
            clear hXE hmz HM HG
            obtain ⟨p1, q1, p2, q2, p3, q3, ey, _⟩ := HF.out.y
            cases ey
            obtain ⟨l1, m1, l2, m2, l3, m3, ek, _⟩ := HF.out.x
            obtain rfl : ks = [.slice l1 X.sec.length m1, .slice l2 X.ep.length m2, .slice l3 X.pe.length m3] := agg_inj ek
            clear ek
            have hD40 : D.pe.length ≤ 40 := HT.out.p40
            obtain ⟨wo2, hwo2⟩ : ∃ wo, wo = wr := ⟨_, rfl⟩
            subst hwo2
            go_upto_region 30 with fail
            go_loopw [16, 17] (fun m i wr => ∃ (ii : Nat), ii ≤ D.pe.length ∧ i = .int .i64 (ii : Int) ∧ m = .int .i64 ((others (D.pe.take ii) n).length : Int) ∧ Hid (Fl w gd gx gy [.slice a1 D.sec.length c1, .slice (some ⟨be, oe, none⟩) D.ep.length c2, .slice a3 D.pe.length c3] [.slice l1 X.sec.length m1, .slice l2 X.ep.length m2, .slice l3 X.pe.length m3] [.slice p1 E.sec.length q1, .slice p2 E.ep.length q2, .slice p3 E.pe.length q3] D X E wr)) (fun _ i _ => D.pe.length - (intOf i).toNat)
            case atStart => exact ⟨0, Nat.zero_le _, rfl, rfl, HF⟩
            case round =>
              clear HF
              obtain ⟨ii, hii, rfl, rfl, HF⟩ := hrel
              by_cases hi : ii < D.pe.length
              · obtain ⟨b3, o3, ea3, x0, x1, x2, x3⟩ := Wts.at_ (dk_partsL HF.out.d).2.2 ii hi
                have c2 := HF.out.bd.c 2 rfl
                rw [ea3] at c2
                have HY1 := hid (others_yes D.pe n ii hi)
                have HN1 := hid (others_no D.pe n ii hi)
                have hol := others_le D.pe n ii
                generalize hu : D.pe.getD ii Wt.none = u at x0 x1 x2 x3 HY1 HN1
                clear hu x1 x2 x3 ea3
                by_cases hx : u.host = (n : Int)
                · have HE1 := hid (congrArg List.length (HN1.out hx))
                  generalize hol1 : (others (D.pe.take ii) n).length = ol at *
                  clear HY1 HN1
                  go_wp2
                  exact ⟨⟨ii + 1, by omega, by go_num, by rw [HE1.out], HF⟩, by simp [intOf]; omega⟩
                · have HE1 : Hid ((others (D.pe.take (ii + 1)) n).length = (others (D.pe.take ii) n).length + 1) := hid (by have := congrArg List.length (HY1.out hx); simpa using this)
                  generalize hol1 : (others (D.pe.take ii) n).length = ol at *
                  have hb1 : (u.host != (n : Int)) = true := by simpa using hx
                  have hb2 : (u.host == (n : Int)) = false := by simpa using hx
                  clear HY1 HN1
                  go_wp2
                  exact ⟨⟨ii + 1, by omega, by go_num, by rw [HE1.out]; go_num, HF⟩, by simp [intOf]; omega⟩
              · obtain rfl : ii = D.pe.length := by omega
                rw [List.take_length, ← HXp.out]
                have c2 := HF.out.bd.c 2 rfl
                have x0 := HF.out.bx.c 0 rfl
                have x1 := HF.out.bx.c 1 rfl
                have x2 := HF.out.bx.c 2 rfl
                have y0 := HF.out.b.c 0 rfl
                have y1 := HF.out.b.c 1 rfl
                have y2 := HF.out.b.c 2 rfl
                go_wp2_with fail
                refine (sameDisk wr _ _ X E HF.out.x HF.out.y HXh.out HEh.out).mono ?_
                rintro e w9 ⟨rfl, b9⟩
                rw [decide_eq_true HXE.out]
                have HF9 := hid (HF.out.below b9)
                clear b9 c2 x0 x1 x2 y0 y1 y2
                have x2 := HF9.out.bx.c 2 rfl
                go_wp2
                go_ret
                exact ⟨rfl, HF9.out.bel⟩

end Go.Proofs.Ytbnmcbbpbiofgaa.Mem
