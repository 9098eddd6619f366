/-
  The walk of laws.FnFence: the law answers true, and nothing that was there is changed. No condition but what the walk of spec.l3Any gives, and a code of at most 2^20 bytes.
-/
import Derived.Deep.DeepCutAuto
import Derived.Test.YtacdnhohkeifpaaJoin1
import Derived.Test.YtacdnhohkeifpaaJoin2
namespace Go.Proofs.Ytacdnhohkeifpaa.Mem
open Go.RowKit Classical
set_option linter.unusedVariables false

/-- Two disks in their boxes. -/
structure Two (w0 : World) (g1 g2 : Nat) (xs ys : List Value) (D X : Dk) (w : World) : Prop where
  b1 : Row w g1 xs
  b2 : Row w g2 ys
  d1 : DkR w (.agg xs.toArray) D
  d2 : DkR w (.agg ys.toArray) X
  bel : Below w0.heap.size w0 w

theorem Two.below {w0 w w' : World} {g1 g2 : Nat} {xs ys : List Value} {D X : Dk} (h : Two w0 g1 g2 xs ys D X w) (b : Below w.heap.size w w') : Two w0 g1 g2 xs ys D X w' :=
  ⟨h.b1.below b h.b1.lt, h.b2.below b h.b2.lt, h.d1.below b, h.d2.below b, h.bel.trans (b.mono h.bel.size)⟩
theorem Two.alloc {w0 w : World} {g1 g2 : Nat} {xs ys : List Value} {D X : Dk} (h : Two w0 g1 g2 xs ys D X w) (o : Obj) : Two w0 g1 g2 xs ys D X (w.alloc o) := h.below ((Below.refl _ _).alloc (Nat.le_refl _) o)

theorem six_of {w0 w : World} {g1 g2 : Nat} {x1 x2 x3 y1 y2 y3 : Value} {D X : Dk} (h : Two w0 g1 g2 [x1, x2, x3] [y1, y2, y3] D X w) : w.cell? ⟨g1, 0, none⟩ = some x1 ∧ w.cell? ⟨g1, 1, none⟩ = some x2 ∧ w.cell? ⟨g1, 2, none⟩ = some x3 ∧ w.cell? ⟨g2, 0, none⟩ = some y1 ∧ w.cell? ⟨g2, 1, none⟩ = some y2 ∧ w.cell? ⟨g2, 2, none⟩ = some y3 :=
  ⟨h.b1.c 0 rfl, h.b1.c 1 rfl, h.b1.c 2 rfl, h.b2.c 0 rfl, h.b2.c 1 rfl, h.b2.c 2 rfl⟩

theorem dk_parts {w : World} {a1 a2 a3 : Option Addr} {c1 c2 c3 : Nat} {D : Dk} (h : DkR w (.agg #[.slice a1 D.sec.length c1, .slice a2 D.ep.length c2, .slice a3 D.pe.length c3]) D) : Strs w a1 D.sec ∧ Ints w a2 D.ep ∧ Wts w a3 D.pe := by
  obtain ⟨_, _, _, _, _, _, e, s1, s2, s3⟩ := h
  cases e
  exact ⟨s1, s2, s3⟩

theorem right_small {D : Dk} (h : D.Right) : D.Small 1048576 := by
  have h1 := h.n2
  have h2 := h.e3
  have h3 := h.p40
  exact ⟨by omega, by omega, by omega, fun s hs => by have := h.sm s hs; omega, fun x hx => by have := (h.pm x hx).2.2.2.2; omega⟩

theorem nil_small : Dk.nil.Small 1048576 := ⟨by simp [Dk.nil], by simp [Dk.nil], by simp [Dk.nil], by simp [Dk.nil], by simp [Dk.nil]⟩

set_option maxRecDepth 100000 in
set_option maxHeartbeats 4000000 in
theorem lawFnFence (hA : AnyDoes) (w : World) (a : Option Addr) (len cap : Nat) (zs : List Int) (C : Draw.Code w a len cap zs) :
    Calls Try.prog 5 #[.slice a len cap] w fun e w' => e = .returned (.bool true) ∧ Below w.heap.size w w' := by
  have hlen := C.hb
  have HC := hid C
  clear C
  go_enter Try.func5, Try.ntmps5
  go_wp2_with fail
  refine (bigL w a len cap (by unfold maxLen; omega)).mono ?_
  rintro e w0' ⟨rfl, hw⟩
  obtain rfl := hw.symm
  rw [decide_eq_false (show ¬ (1048576 : Int) < (len : Int) by omega)]
  go_wp2_with fail
  refine (drawFence hA w a len cap zs HC.out).mono ?_
  rintro e w1 ⟨v, D, x, rfl, hD, hR, hx, b1⟩
  have HD := hid hD
  have HR := hid hR
  have HB1 := hid b1
  obtain ⟨a1, c1, a2, c2, a3, c3, rfl, _, hEp, _⟩ := hR
  obtain ⟨w2, hw2, _, A2, B2⟩ := one_new w1 [.slice a1 D.sec.length c1, .slice a2 D.ep.length c2, .slice a3 D.pe.length c3] 28
  have HR2 := hid (HR.out.below B2)
  have HB2 := hid (HB1.out.trans (B2.mono HB1.out.size))
  have k0 := A2.c 0 rfl
  have k1 := A2.c 1 rfl
  have k2 := A2.c 2 rfl
  have HA2 := hid A2
  clear A2 B2 hEp b1 HB1 hD
  go_wp2_with fail
  refine (implFence w2 _ D x HR2.out HD.out.held HD.out.small).mono ?_
  rintro e w3 ⟨v3, rfl, W3, b3⟩
  obtain ⟨X, hX⟩ : ∃ X, (D.fenceA x).1 = X := ⟨_, rfl⟩
  rw [hX] at W3
  obtain ⟨e1, g1, e2, g2, e3, g3, rfl⟩ := W3.three
  obtain ⟨w4, hw4, _, A4, B4⟩ := one_new w3 [.slice e1 X.sec.length g1, .slice e2 X.ep.length g2, .slice e3 X.pe.length g3] 28
  have HT4 : Hid (Two w w1.heap.size w3.heap.size [.slice a1 D.sec.length c1, .slice a2 D.ep.length c2, .slice a3 D.pe.length c3] [.slice e1 X.sec.length g1, .slice e2 X.ep.length g2, .slice e3 X.pe.length g3] D X w4) :=
    ⟨(HA2.out.below b3 HA2.out.lt).below B4 (HA2.out.below b3 HA2.out.lt).lt, A4, (HR2.out.below b3).below B4, W3.read.below B4, (HB2.out.trans (b3.mono HB2.out.size)).trans (B4.mono (HB2.out.trans (b3.mono HB2.out.size)).size)⟩
  obtain ⟨m0, m1, m2, n0, n1, n2⟩ := six_of HT4.out
  have HX := hid hX
  clear A4 B4 W3 b3 HA2 HB2 HR2 k0 k1 k2 hX
  go_wp2_with fail
  refine (specFence w4 _ D x HT4.out.d1 HD.out.held HD.out.small).mono ?_
  rintro e w5 ⟨v5, rfl, W5, b5⟩
  rw [HX.out] at W5
  obtain ⟨r1, s1, r2, s2, r3, s3, rfl⟩ := W5.three
  obtain ⟨w6, hw6, _, _, B6⟩ := one_new w5 [.slice r1 X.sec.length s1, .slice r2 X.ep.length s2, .slice r3 X.pe.length s3] 28
  have HT6 := hid ((HT4.out.below b5).below B6)
  clear W5 b5 B6 HT4 m0 m1 m2 n0 n1 n2
  obtain ⟨m0, m1, m2, n0, n1, n2⟩ := six_of HT6.out
  generalize w1.heap.size = ga at *
  generalize w3.heap.size = gb at *
  cases hq : (D.fenceA x).2 with
  | false =>
    have HQ := hid hq
    clear hq
    go_wp2_with fail
    refine (diskOk w6 _ D HT6.out.d1 HD.out.held).mono ?_
    rintro e w7 ⟨rfl, b7⟩
    have HT7 := hid (HT6.out.below b7)
    clear b7 HT6 m0 m1 m2 n0 n1 n2
    obtain ⟨m0, m1, m2, n0, n1, n2⟩ := six_of HT7.out
    cases hr : D.right with
    | false =>
      go_wp2
      go_ret
      exact ⟨rfl, HT7.out.bel⟩
    | true =>
      have HXD : Hid (X = D) := by rw [Hid, ← HX.out]; exact fence_refused HQ.out hr
      have HXh : Hid X.Held := by rw [Hid, HXD.out]; exact HD.out.held
      clear hr
      go_wp2_with fail
      refine (sameDisk w7 _ _ X D HT7.out.d2 HT7.out.d1 HXh.out HD.out.held).mono ?_
      rintro e w8 ⟨rfl, b8⟩
      have HB8 := hid (HT7.out.bel.trans (b8.mono HT7.out.bel.size))
      rw [decide_eq_true HXD.out]
      clear b8
      go_wp2
      go_ret
      exact ⟨rfl, HB8.out⟩
  | true =>
    obtain ⟨hr, n, rfl, hn, hep, hXe⟩ := fence_done hq
    have HRt := hid hr
    have HXr : Hid X.Right := by rw [Hid, ← HX.out, fenceA_yes (Dk.right_yes hr)]; exact hr.fence _
    rw [HX.out] at hXe
    have HXe := hid hXe
    have HXn : Hid (X.ep.getD n 0 = D.ep.getD n 0 + 1) := by
      rw [Hid, hXe]
      have : n < D.ep.length := by rw [hr.e3]; exact hn
      simp [List.getD, this]
    have hnD : (n : Int) < (D.ep.length : Int) := by rw [hr.e3]; omega
    have hnX : (n : Int) < (X.ep.length : Int) := by rw [HXr.out.e3]; omega
    have hs0 : 0 < X.sec.length := HXr.out.n1
    have hep1 := (hr.e n (by rw [hr.e3]; exact hn)).1
    obtain ⟨o, ho⟩ : ∃ o, D.ep.getD n 0 = o := ⟨_, rfl⟩
    rw [ho] at HXn hep hep1
    have HO := hid ho
    clear hq hr hXe ho
    have HXh := hid HXr.out.held.1
    have HXs := hid (right_small HXr.out)
    have HF : Hid (∀ t old : ByteArray, t.size ≤ 700 → old.size ≤ 700 → (X.putA (n : Int) o 0 t).2 = 2 ∧ (X.flushA (n : Int) o).2 = 2 ∧ (X.swapA (n : Int) o 0 old t).2 = 2) := fun t old ht ho => fenced_codes HXr.out hn HXn.out t old ht ho
    have hwo : IntKind.i64.wrap (o + 1) = o + 1 := by rw [IntKind.wrap_i64]; omega
    obtain ⟨ba, oa, ea, hce⟩ := (dk_parts HT6.out.d1).2.1 n (by omega)
    subst ea
    replace hce : w6.cell? ⟨ba, oa + n, none⟩ = some (.int .i64 o) := hce.trans (by show some (Value.int .i64 (D.ep.getD n 0)) = _; rw [HO.out])
    go_wp2_with fail
    refine (implPut w6 _ X (n : Int) o 0 ⟨#[122]⟩ HT6.out.d2 HXh.out HXs.out (by decide)).mono ?_
    rintro e w7 ⟨v7, rfl, W7, b7⟩
    obtain ⟨y1, z1, y2, z2, y3, z3, rfl⟩ := W7.three
    rw [(HF.out ⟨#[122]⟩ ⟨#[]⟩ (by decide) (by decide)).1]
    generalize (X.putA (n : Int) o 0 ⟨#[122]⟩).1 = Y at *
    obtain ⟨w8, hw8, _, _, B8⟩ := one_new w7 [.slice y1 Y.sec.length z1, .slice y2 Y.ep.length z2, .slice y3 Y.pe.length z3] 28
    have HT8 := hid ((HT6.out.below b7).below B8)
    clear W7 b7 B8 HT6 m0 m1 m2 n0 n1 n2 hce
    obtain ⟨m0, m1, m2, n0, n1, n2⟩ := six_of HT8.out
    go_wp2_with fail
    refine (implFlush w8 _ X (n : Int) o HT8.out.d2 HXh.out HXs.out).mono ?_
    rintro e w9 ⟨v9, rfl, W9, b9⟩
    obtain ⟨y4, z4, y5, z5, y6, z6, rfl⟩ := W9.three
    rw [(HF.out ⟨#[122]⟩ ⟨#[]⟩ (by decide) (by decide)).2.1]
    generalize (X.flushA (n : Int) o).1 = Z at *
    obtain ⟨wn, hwn, ezc, _, Bc⟩ := one_new w9 [.slice y4 Z.sec.length z4, .slice y5 Z.ep.length z5, .slice y6 Z.pe.length z6] 28
    have HTc := hid ((HT8.out.below b9).below Bc)
    clear ezc W9 b9 Bc HT8 m0 m1 m2 n0 n1 n2
    have HTd := hid (HTc.out.below (Below.refl _ wn).drew)
    obtain ⟨m0, m1, m2, n0, n1, n2⟩ := six_of HTd.out
    obtain ⟨bs, os, es, hcs⟩ := (dk_parts HTd.out.d2).1 0 hs0
    subst es
    have hsz : (X.sec.getD 0 ByteArray.empty).size ≤ 700 := by have := HXr.out.s 0 hs0; omega
    replace hcs : wn.drew.cell? ⟨bs, os, none⟩ = some (.string (X.sec.getD 0 ByteArray.empty)) := hcs
    generalize X.sec.getD 0 ByteArray.empty = sz at *
    have HTf := hid ((HTc.out.alloc (.cells #[.slice none 0 0, .slice none 0 0, .slice none 0 0] 28)).below (Below.refl _ (wn.alloc (.cells #[.slice none 0 0, .slice none 0 0, .slice none 0 0] 28))).drew)
    obtain ⟨m0f, m1f, m2f, n0f, n1f, n2f⟩ := six_of HTf.out
    have hcsf : (wn.alloc (.cells #[.slice none 0 0, .slice none 0 0, .slice none 0 0] 28)).drew.cell? ⟨bs, os, none⟩ = some (.string sz) := (((Below.refl _ wn.drew).alloc (Nat.le_refl _) (.cells #[.slice none 0 0, .slice none 0 0, .slice none 0 0] 28)).cell (p := ⟨bs, os, none⟩) (World.block_lt_of_cell? _ _ hcs)).trans hcs
    go_upto_region 13 with fail
    go_cut [15] (fun cd wr => cd = .int .i64 2 ∧ Hid (Below wn.heap.size wn wr))
    case first =>
      clear hw2 hw4 hw6 hw8 hwn HC HR
      generalize Value.slice a1 D.sec.length c1 = A1 at *
      generalize Value.slice (some ⟨ba, oa, none⟩) D.ep.length c2 = A2 at *
      generalize Value.slice a3 D.pe.length c3 = A3 at *
      generalize Value.slice e2 X.ep.length g2 = E2 at *
      generalize Value.slice e3 X.pe.length g3 = E3 at *
      generalize Value.slice r1 X.sec.length s1 = R1 at *
      generalize Value.slice r2 X.ep.length s2 = R2 at *
      generalize Value.slice r3 X.pe.length s3 = R3 at *
      generalize Value.slice y1 Y.sec.length z1 = Y1 at *
      generalize Value.slice y2 Y.ep.length z2 = Y2 at *
      generalize Value.slice y3 Y.pe.length z3 = Y3 at *
      generalize Value.slice y4 Z.sec.length z4 = Z1 at *
      generalize Value.slice y5 Z.ep.length z5 = Z2 at *
      generalize Value.slice y6 Z.pe.length z6 = Z3 at *
      generalize Value.agg #[A1, A2, A3] = Ad at *
      generalize Value.agg #[R1, R2, R3] = Rd at *
      generalize Value.agg #[Y1, Y2, Y3] = Yd at *
      generalize Value.agg #[Z1, Z2, Z3] = Zd at *
      go_region_with (go_at_call 21; first
        | (refine (implSwap _ _ X (n : Int) o 0 sz ⟨#[122]⟩ HTd.out.d2 HXh.out HXs.out (by unfold maxLen; omega) (by decide)).mono ?_; rintro e wd ⟨vd, rfl, Wd, bd⟩; obtain ⟨y7, z7, y8, z8, y9, z9, rfl⟩ := Wd.three; rw [(HF.out ⟨#[122]⟩ sz (by decide) hsz).2.2]; have HBw : Hid (Below wn.heap.size wn wd) := (Below.refl _ wn).drew.trans bd; have Zw : Row (wd.alloc (.cells #[.slice none 0 0, .slice none 0 0, .slice none 0 0] 28)) wd.heap.size [.slice none 0 0, .slice none 0 0, .slice none 0 0] := Row.new wd [.slice none 0 0, .slice none 0 0, .slice none 0 0] 28; have zc0 := Zw.c 0 rfl; have zc1 := Zw.c 1 rfl; have zc2 := Zw.c 2 rfl; have zf0 := Zw.f 0; have zf1 := Zw.f 1; have zf2 := Zw.f 2; clear bd Wd Zw)
        | (refine (implSwap _ _ X (n : Int) o 0 sz ⟨#[122]⟩ HTf.out.d2 HXh.out HXs.out (by unfold maxLen; omega) (by decide)).mono ?_; rintro e wd ⟨vd, rfl, Wd, bd⟩; obtain ⟨y7, z7, y8, z8, y9, z9, rfl⟩ := Wd.three; rw [(HF.out ⟨#[122]⟩ sz (by decide) hsz).2.2]; have HBw : Hid (Below wn.heap.size wn wd) := (((Below.refl _ wn).alloc (Nat.le_refl _) (.cells #[.slice none 0 0, .slice none 0 0, .slice none 0 0] 28)).drew).trans (bd.mono (Nat.le_of_lt (lt_alloc wn _))); have Zr := Row.below (show Row (wn.alloc (.cells #[.slice none 0 0, .slice none 0 0, .slice none 0 0] 28)).drew wn.heap.size [.slice none 0 0, .slice none 0 0, .slice none 0 0] from Row.new wn [.slice none 0 0, .slice none 0 0, .slice none 0 0] 28) bd (lt_alloc wn _); have zc0 := Zr.c 0 rfl; have zc1 := Zr.c 1 rfl; have zc2 := Zr.c 2 rfl; have zf0 := Zr.f 0; have zf1 := Zr.f 1; have zf2 := Zr.f 2; clear bd Wd))
      all_goals
        (go_wp2_with fail
         go_meet
         have hsz2 := HBw.out.size
         refine ⟨rfl, ?_⟩
         first
           | exact below_set (below_set (below_set HBw.out _ _ _ (Nat.le_refl _)) _ _ _ (Nat.le_refl _)) _ _ _ (Nat.le_refl _)
           | exact below_set (below_set (below_set (HBw.out.alloc hsz2 _) _ _ _ hsz2) _ _ _ hsz2) _ _ _ hsz2
           | exact HBw.out.alloc hsz2 _)
    case rest =>
    obtain ⟨rfl, HBx⟩ := hcut
    clear m0 m1 m2 n0 n1 n2 hcs m0f m1f m2f n0f n1f n2f hcsf HTd HTf
    have HTx := hid (HTc.out.below HBx.out)
    obtain ⟨m0, m1, m2, n0, n1, n2⟩ := six_of HTx.out
    go_wp2
    go_loopw [16] (fun i wr => ∃ m : Nat, m ≤ X.pe.length ∧ i = .int .i64 (m : Int) ∧ Hid (Below wn.heap.size wn wr)) (fun i _ => X.pe.length - (intOf i).toNat)
    case atStart => exact ⟨0, Nat.zero_le _, rfl, HBx⟩
    case round =>
      obtain ⟨m, hm, rfl, HBr⟩ := hrel
      have hp40 := HXr.out.p40
      have HTr := hid (HTc.out.below HBr.out)
      clear m0 m1 m2 n0 n1 n2
      obtain ⟨f0, f1, f2, h0, h1, h2⟩ := six_of HTr.out
      by_cases hlt : m < X.pe.length
      · obtain ⟨bp, op, ep, i0, i1, i2, i3⟩ := Wts.at_ (dk_parts HTr.out.d2).2.2 m hlt
        subst ep
        have HNe : Hid (∀ j, j < X.pe.length → ¬ (X.pe.getD j Wt.none).host = (n : Int)) := fun j hj => by
          have e := HXe.out
          rw [e] at hj ⊢
          exact others_host hj
        have hne := HNe.out m hlt
        generalize X.pe.getD m Wt.none = y at i0 i1 i2 i3 hne
        clear HNe
        go_wp2
        exact ⟨⟨m + 1, by omega, by go_num, HBr⟩, by simp [intOf]; omega⟩
      · obtain rfl : m = X.pe.length := by omega
        have HXk : Hid (X.right = true) := Dk.right_yes HXr.out
        have HSec : Hid (X.sec = D.sec) := by rw [Hid, HXe.out]
        go_wp2_with fail
        refine (diskOk wr _ X HTr.out.d2 HXh.out).mono ?_
        rintro e wk ⟨rfl, bk⟩
        rw [HXk.out]
        have HTk := hid (HTr.out.below bk)
        clear bk HTr f0 f1 f2 h0 h1 h2
        obtain ⟨f0, f1, f2, h0, h1, h2⟩ := six_of HTk.out
        go_wp2_with fail
        refine (sameTexts wk (some ⟨bs, os, none⟩) a1 g1 c1 X.sec D.sec (dk_parts HTk.out.d2).1 (dk_parts HTk.out.d1).1 HXh.out.h1 HD.out.held.h1).mono ?_
        rintro e wl ⟨rfl, bl⟩
        rw [decide_eq_true HSec.out]
        have HTl := hid (HTk.out.below bl)
        clear bl HTk f0 f1 f2 h0 h1 h2
        obtain ⟨f0, f1, f2, h0, h1, h2⟩ := six_of HTl.out
        obtain ⟨be, oe, ee, hcx⟩ := (dk_parts HTl.out.d2).2.1 n (by omega)
        subst ee
        replace hcx : wl.cell? ⟨be, oe + n, none⟩ = some (.int .i64 (o + 1)) := hcx.trans (by show some (Value.int .i64 (X.ep.getD n 0)) = _; rw [HXn.out])
        go_wp2
        go_ret
        exact ⟨rfl, HTl.out.bel⟩

end Go.Proofs.Ytacdnhohkeifpaa.Mem
