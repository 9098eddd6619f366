/-
  The walk of laws.FnExactHostRise: the law answers true, and nothing that was there is changed. No condition.
  A host that comes in as an argument: what it is in memory. No condition.
  A disk that comes in as an argument: what it is in memory. No condition.
  A disk that is handed in. No condition.
-/
import Derived.Test.YtlhnkdogafnnpaaGreatJoin7
import Derived.Deep.DeepCutAuto
import Derived.Test.YtlhnkdogafnnpaaGreatJoin4
import Derived.ProofKit
import Derived.OpenShut
import Derived.ShutString
import Derived.Lib.SmallJoins
import Derived.Deep.Strs
import Derived.Deep.Slices
import Derived.Carry
import Derived.Test.YtlhnkdogafnnpaaGreatJoin3
namespace Go.Proofs.YtlhnkdogafnnpaaGreat.Pl
open Go.RowKit Go.Proofs.YtlhnkdogafnnpaaGreat.Mem Go.Proofs.YtlhnkdogafnnpaaGreat.Rg Go.Proofs.YtlhnkdogafnnpaaGreat.Sec
set_option linter.unusedVariables false

theorem call_specHostRise (vs : Array Value) (w : World) : (callFunc 6 vs).run Tryz.prog w = .ok (.enter 6 vs) w := by simp [go_sem]
theorem call_implHostRise (vs : Array Value) (w : World) : (callFunc 9 vs).run Tryz.prog w = .ok (.enter 9 vs) w := by simp [go_sem]

set_option maxRecDepth 100000 in
set_option maxHeartbeats 60000000 in
theorem lawHostRise (w : World) (cs0 : List Value) (H : Ho) (cs1 : List Value) (D : Dk) (h0 : KHo.R w cs0 H) (m0 : H.Upto maxLen) (h1 : KDk.R w cs1 D) (m1 : D.Held) :
    Calls Tryz.prog 3 #[.agg cs0.toArray, .agg cs1.toArray] w fun e w' => e = .returned (.bool true) ∧ Below w.heap.size w w' := by
  have H0 := hid h0
  have M0 := hid m0
  have H1 := hid h1
  have M1 := hid m1
  have hl_a0 := h0.len.1
  have hl_a1 := h1.len.1
  clear h0 m0 h1 m1
  go_enter Tryz.func3, Tryz.ntmps3
  go_upto_region 0 with fail
  refine wp_region_list ?_
  refine wpList_boxR rfl 28 _ rfl cs0 (by kernel_rfl) ?_
  intro w1 r0 b0
  simp only [Act.put, List.setIfInBounds_toArray, List.set_cons_zero, List.set_cons_succ]
  refine wpList_boxR rfl 33 _ rfl cs1 (by kernel_rfl) ?_
  intro w2 r1 b1
  simp only [Act.put, List.setIfInBounds_toArray, List.set_cons_zero, List.set_cons_succ]
  have HB : Hid (Below w.heap.size w w2) := b0.trans (b1.mono b0.size)
  have hz : w.heap.size < w2.heap.size := Nat.lt_of_lt_of_le r0.lt b1.size
  have r0' := r0.below b1 r0.lt
  have hn01 : w.heap.size < w1.heap.size := r0.lt
  have HL : Hid (Live w2 [(KHo.rd w.heap.size cs0 H), (KDk.rd w1.heap.size cs1 D)]) := Live.cons r0' (H0.out.kept (Kept.of_below (S := fun _ => False) HB.out) (fun _ _ x => x)) (Live.cons r1 (H1.out.kept (Kept.of_below (S := fun _ => False) HB.out) (fun _ _ x => x)) (Live.nil _))
  clear r0 b0 r1 b1 r0'
  go_upto_region 2 with fail
  refine wp_region_list ?_
  refine wpList_loadR rfl 28 _ rfl _ (by intros; refine (?_ : _ = _); kernel_rfl) _ _ (HL.out.row (KHo.rd w.heap.size cs0 H) (by simp)) Tryz.underlying28 rfl (KHo.zL.trans (congrArg some hl_a0.symm)) ?_
  refine wpList_value rfl (v := .int .i64 1048576) (by unfold execOp; simp [go_sem, Act.put]) ?_
  refine wpList_callR rfl 4 _ _ rfl #[.agg cs0.toArray, .int .i64 1048576] (by simp only [List.map_toArray, List.map_cons, List.map_nil]; refine (?_ : _ = _); kernel_rfl) KHo.cSz ((KHo.sz w2 cs0 H 1048576 (HL.out.q (KHo.rd w.heap.size cs0 H) (by simp)) M0.out (by decide) (by decide)).mono ?_)
  rintro e w3 ⟨lf0, rfl, b, hf⟩
  refine ⟨_, rfl, ?_⟩
  simp only [Act.put, List.setIfInBounds_toArray, List.set_cons_zero, List.set_cons_succ]
  replace HB := hid (HB.out.trans (b.mono HB.out.size))
  replace HL := hid (HL.out.below b)
  clear b
  by_cases hr0 : lf0 < 0
  · clear hf
    go_wp2
    go_ret
    exact ⟨rfl, HB.out⟩
  have hf2 : 0 ≤ lf0 ∧ lf0 ≤ 1048576 ∧ H.Upto 1048576 := by
    rcases hf with h | ⟨h, h', h''⟩
    · omega
    · exact ⟨h, by omega, h''⟩
  have hp0 := hf2.1
  have hq0 := hf2.2.1
  have U0 := hid hf2.2.2
  clear hf hf2
  go_upto_region 5 with fail
  refine wp_region_list ?_
  refine wpList_loadR rfl 33 _ rfl _ (by intros; refine (?_ : _ = _); kernel_rfl) _ _ (HL.out.row (KDk.rd w1.heap.size cs1 D) (by simp)) Tryz.underlying33 rfl (KDk.zL.trans (congrArg some hl_a1.symm)) ?_
  refine wpList_value rfl (v := .int .i64 lf0) (by unfold execOp; simp [go_sem, Act.put]) ?_
  refine wpList_callR rfl 5 _ _ rfl #[.agg cs1.toArray, .int .i64 lf0] (by simp only [List.map_toArray, List.map_cons, List.map_nil]; refine (?_ : _ = _); kernel_rfl) KDk.cSz ((KDk.sz w3 cs1 D lf0 (HL.out.q (KDk.rd w1.heap.size cs1 D) (by simp)) M1.out hp0 hq0).mono ?_)
  rintro e w4 ⟨lf1, rfl, b, hf⟩
  refine ⟨_, rfl, ?_⟩
  simp only [Act.put, List.setIfInBounds_toArray, List.set_cons_zero, List.set_cons_succ]
  replace HB := hid (HB.out.trans (b.mono HB.out.size))
  replace HL := hid (HL.out.below b)
  clear b
  by_cases hr1 : lf1 < 0
  · clear hf
    go_wp2
    go_ret
    exact ⟨rfl, HB.out⟩
  have hf2 : 0 ≤ lf1 ∧ lf1 ≤ 1048576 ∧ KDk.Up D := by
    rcases hf with h | ⟨h, h', h''⟩
    · omega
    · exact ⟨h, by omega, h''⟩
  have hp1 := hf2.1
  have hq1 := hf2.2.1
  have U1 := hid hf2.2.2
  clear hf hf2
  have hup := rise_upto U0.out U1.out
  obtain ⟨RR, hR⟩ : ∃ RR, riseA H D = RR := ⟨_, rfl⟩
  rw [hR] at hup
  obtain ⟨R0, R1, bf⟩ := RR
  have HRr := hid hR
  have V0 : Hid (R0.Upto 1048576) := hup.1
  have V1 : Hid (KDk.Up R1) := hup.2
  clear hup hR
  clear hp0 hq0 hp1 hq1
  have hb_a0 : w.heap.size < w4.heap.size := (HL.out.row (KHo.rd w.heap.size cs0 H) (by simp)).lt
  have hF_a0 : ∀ x, KHo.F cs0 x → x < w4.heap.size := fun x hx => (HL.out.q (KHo.rd w.heap.size cs0 H) (by simp)).lt hx
  have hb_a1 : w1.heap.size < w4.heap.size := (HL.out.row (KDk.rd w1.heap.size cs1 D) (by simp)).lt
  have hF_a1 : ∀ x, KDk.F cs1 x → x < w4.heap.size := fun x hx => (HL.out.q (KDk.rd w1.heap.size cs1 D) (by simp)).lt hx
  go_upto_region 8 with fail
  refine region_ans (rs := [⟨0, 0, 0, cs0⟩, ⟨1, 0, 0, cs0⟩, ⟨0, 0, 0, cs1⟩, ⟨1, 2, 0, cs1⟩, ⟨2, 0, 0, []⟩, ⟨3, 0, 0, []⟩, ⟨4, 5, 0, []⟩, ⟨4, 5, 1, []⟩, ⟨4, 5, 2, []⟩, ⟨5, 0, 11, [.int .i64 0, .int .i64 0, .bool false, .bool false, .bool false, .int .i64 0, .int .i64 0, .int .i64 0, .int .i64 0, .string ⟨#[]⟩, .int .i64 0, .int .i64 0, .int .i64 0, .string ⟨#[]⟩, .slice none 0 0, .int .i64 0]⟩, ⟨5, 0, 12, [.slice none 0 0, .slice none 0 0, .slice none 0 0]⟩, ⟨6, 9, 6, []⟩, ⟨6, 10, 7, []⟩, ⟨7, 8, 0, []⟩]) (f := 4)
    (S := fun i v wx => match i with
      | 1 => ∃ ds, v 1 = .agg (List.toArray ds) ∧ KHo.R wx ds H
      | _ => ∃ ds, v 3 = .agg (List.toArray ds) ∧ KDk.R wx ds D)
    (FS := fun _ _ _ => False)
    (RF := fun V wx => ∃ ds0 ds1, V = .tuple #[.agg (List.toArray ds0), .agg (List.toArray ds1), .bool bf] ∧ KHo.W wx w4.heap.size ds0 R0 ∧ KDk.W wx w4.heap.size ds1 R1 ∧ (∀ x, KHo.F ds0 x → ¬ KDk.F ds1 x))
    (Ft := fun V b => ∃ ds0 ds1, V = .tuple #[.agg (List.toArray ds0), .agg (List.toArray ds1), .bool bf] ∧ (KHo.F ds0 b ∨ KDk.F ds1 b))
    true (by kernel_rfl) (by kernel_rfl) rfl [1, 3] (fun v => #[v 1, v 3]) ?_ [some 31, some 32, some 33, some 34, some 35, some 30, some 36, some 37, some 38, some 6, some 7, none, none, some 8] (by kernel_rfl) ?_
  · refine aCons (aLoad rfl rfl 28 _ rfl (b := w.heap.size) (by kernel_rfl) (by kernel_rfl) _ (HL.out.row (KHo.rd w.heap.size cs0 H) (by simp)) Tryz.underlying28 rfl (KHo.zL.trans (congrArg some hl_a0.symm))) ?_
    refine aCons (aConv rfl rfl 7 _ _ rfl (by kernel_rfl) (by kernel_rfl) rfl rfl rfl KHo.cTo (by kernel_rfl) ?_ ?_ ?_) ?_
    · rintro v w' w'' ⟨ds, e1, Z1⟩ bb
      exact ⟨ds, e1, Z1.below bb⟩
    · intro v v' hv
      have e := hv 1 (.inl rfl)
      exact ⟨fun w' ⟨ds, e1, Z1⟩ => ⟨ds, e ▸ e1, Z1⟩, fun b h => h⟩
    · intro v w' hb _
      refine (KHo.lay w' cs0 H ((HL.out.q (KHo.rd w.heap.size cs0 H) (by simp)).below hb) U0.out).mono ?_
      rintro e w'' ⟨ds, rfl, Z1, b1⟩
      exact ⟨_, rfl, ⟨ds, updv_same v 1 _, Z1.read⟩, fun b h => h.elim, b1⟩
    refine aCons (aLoad rfl rfl 33 _ rfl (b := w1.heap.size) (by kernel_rfl) (by kernel_rfl) _ (HL.out.row (KDk.rd w1.heap.size cs1 D) (by simp)) Tryz.underlying33 rfl (KDk.zL.trans (congrArg some hl_a1.symm))) ?_
    refine aCons (aConv rfl rfl 8 _ _ rfl (by kernel_rfl) (by kernel_rfl) rfl rfl rfl KDk.cTo (by kernel_rfl) ?_ ?_ ?_) ?_
    · rintro v w' w'' ⟨ds, e1, Z1⟩ bb
      exact ⟨ds, e1, Z1.below bb⟩
    · intro v v' hv
      have e := hv 3 (.inl rfl)
      exact ⟨fun w' ⟨ds, e1, Z1⟩ => ⟨ds, e ▸ e1, Z1⟩, fun b h => h⟩
    · intro v w' hb _
      refine (KDk.lay w' cs1 D ((HL.out.q (KDk.rd w1.heap.size cs1 D) (by simp)).below hb) U1.out).mono ?_
      rintro e w'' ⟨ds, rfl, Z1, b1⟩
      exact ⟨_, rfl, ⟨ds, updv_same v 3 _, Z1.read⟩, fun b h => h.elim, b1⟩
    refine aCons (aFn rfl rfl 6 _ _ rfl call_specHostRise ?_ (by kernel_rfl) ?_ ?_) ?_
    · intro L v a hA hL
      simp only [List.map_toArray, List.map_cons, List.map_nil]
      rw [hA.eval_got 1 (hL 1 (by simp)) (by kernel_rfl), hA.eval_got 3 (hL 3 (by simp)) (by kernel_rfl)]
    · rintro V w' w'' T ⟨ds0, ds1, e1, Z0, Z1, hs⟩ kk hn
      exact ⟨ds0, ds1, e1, Z0.kept kk (fun b hb => hn b ⟨ds0, ds1, e1, (.inl hb)⟩), Z1.kept kk (fun b hb => hn b ⟨ds0, ds1, e1, (.inr hb)⟩), hs⟩
    · intro v w' hb hv
      obtain ⟨c0, e0, h0⟩ := (hv 1 _ (by simp) rfl).2 rfl
      obtain ⟨c1, e1, h1⟩ := (hv 3 _ (by simp) rfl).2 rfl
      rw [e0, e1]
      refine (kitSpecRise w' c0 H c1 D h0 U0.out h1 U1.out).mono ?_
      rw [HRr.out]
      rintro e w'' ⟨ds0, ds1, rfl, Z0, Z1, hs, b1⟩
      exact ⟨_, rfl, ⟨ds0, ds1, rfl, Z0.mono hb.size, Z1.mono hb.size, hs⟩, (fun b ⟨es0, es1, e, h⟩ => .inl (by
        simp only [Value.tuple.injEq, Value.agg.injEq, Array.mk.injEq, List.cons.injEq, and_true] at e
        obtain ⟨rfl, rfl⟩ := e
        rcases h with h | h
        · exact ⟨Z0.ge h, Z0.read.lt h⟩
        · exact ⟨Z1.ge h, Z1.read.lt h⟩)), Kept.of_below b1⟩
    refine aCons (aMove rfl rfl _ rfl (by kernel_rfl) (by kernel_rfl) rfl rfl) ?_
    refine aCons (aExt rfl rfl _ rfl (by kernel_rfl) (by kernel_rfl) (by kernel_rfl) rfl rfl rfl rfl (fun V w h => by obtain ⟨ds0, ds1, rfl, _⟩ := h; exact ⟨_, _, rfl, rfl⟩)) ?_
    refine aCons (aExt rfl rfl _ rfl (by kernel_rfl) (by kernel_rfl) (by kernel_rfl) rfl rfl rfl rfl (fun V w h => by obtain ⟨ds0, ds1, rfl, _⟩ := h; exact ⟨_, _, rfl, rfl⟩)) ?_
    refine aCons (aExt rfl rfl _ rfl (by kernel_rfl) (by kernel_rfl) (by kernel_rfl) rfl rfl rfl rfl (fun V w h => by obtain ⟨ds0, ds1, rfl, _⟩ := h; exact ⟨_, _, rfl, rfl⟩)) ?_
    refine aCons (aBox rfl rfl 41 (fun ρ w => by unfold execOp; simp [go_sem]) rfl rfl rfl) ?_
    refine aCons (aBox rfl rfl 44 (fun ρ w => by unfold execOp; simp [go_sem]) rfl rfl rfl) ?_
    refine aCons (aSto rfl rfl 41 _ _ rfl (by kernel_rfl) (by kernel_rfl) (by kernel_rfl) (by kernel_rfl) (by kernel_rfl) rfl rfl rfl rfl rfl (by kernel_rfl) rfl rfl ?_) ?_
    · rintro V w' a x ⟨ds0, ds1, rfl, Z0, Z1, _⟩ ea ex
      cases ea
      cases ex
      exact ⟨ds0, rfl, Z0.read.len.1, Z0.read.len.2⟩
    refine aCons (aSto rfl rfl 44 _ _ rfl (by kernel_rfl) (by kernel_rfl) (by kernel_rfl) (by kernel_rfl) (by kernel_rfl) rfl rfl rfl rfl rfl (by kernel_rfl) rfl rfl ?_) ?_
    · rintro V w' a x ⟨ds0, ds1, rfl, Z0, Z1, _⟩ ea ex
      cases ea
      cases ex
      exact ⟨ds1, rfl, Z1.read.len.1, Z1.read.len.2⟩
    exact aCons (aAsg rfl rfl _ rfl (by kernel_rfl) (by kernel_rfl)) (aNil _)
  intro L vv w5 hL hb3 G
  obtain ⟨sw0, ks0, eg0, ev0, X0, hg0, hf0⟩ := boxed hL G 11 9 6 rfl rfl rfl rfl rfl rfl rfl rfl
  obtain ⟨sw1, ks1, eg1, ev1, X1, hg1, hf1⟩ := boxed hL G 12 10 7 rfl rfl rfl rfl rfl rfl rfl rfl
  have hne01 : sw0 ≠ sw1 := apart2 hL G 9 10 rfl rfl rfl rfl (by decide) eg0 eg1
  obtain ⟨⟨ds0, ds1, eV, Z0, Z1, hs3⟩, _, _⟩ := (G 4 _ rfl).2.2.1 rfl
  obtain ⟨_, y0, z0⟩ := (G 6 _ rfl).2.2.2.2.1 rfl
  obtain ⟨_, y1, z1⟩ := (G 7 _ rfl).2.2.2.2.1 rfl
  obtain ⟨_, y2, z2⟩ := (G 8 _ rfl).2.2.2.2.1 rfl
  have e13 := (G 13 _ rfl).2.2.2.2.2.2.2 rfl
  rw [eV] at y0 y1 y2
  cases y0
  cases y1
  cases y2
  replace z0 : Value.agg (List.toArray ds0) = vv 6 := Option.some.inj z0
  obtain rfl : ks0 = ds0 := agg_inj (ev0.symm.trans z0.symm)
  replace z1 : Value.agg (List.toArray ds1) = vv 7 := Option.some.inj z1
  obtain rfl : ks1 = ds1 := agg_inj (ev1.symm.trans z1.symm)
  replace z2 : Value.bool bf = vv 8 := Option.some.inj z2
  replace e13 : vv 13 = .bool bf := Eq.trans e13 z2.symm
  simp only [putsAll, Act.put, List.setIfInBounds_toArray, List.set_cons_zero, List.set_cons_succ, eg0, eg1, e13]
  have hF0 : ∀ x, KHo.F ks0 x → w4.heap.size ≤ x ∧ x ≠ sw0 ∧ x ≠ sw1 := fun x hx => ⟨Z0.ge hx, hf0 x (by rw [eV]; exact ⟨_, _, rfl, (.inl hx)⟩), hf1 x (by rw [eV]; exact ⟨_, _, rfl, (.inl hx)⟩)⟩
  have hF1 : ∀ x, KDk.F ks1 x → w4.heap.size ≤ x ∧ x ≠ sw0 ∧ x ≠ sw1 := fun x hx => ⟨Z1.ge hx, hf0 x (by rw [eV]; exact ⟨_, _, rfl, (.inr hx)⟩), hf1 x (by rw [eV]; exact ⟨_, _, rfl, (.inr hx)⟩)⟩
  obtain ⟨kssw0, hks0⟩ : ∃ l, l = ks0 := ⟨_, rfl⟩
  subst hks0
  obtain ⟨kssw1, hks1⟩ : ∃ l, l = ks1 := ⟨_, rfl⟩
  subst hks1
  have hssw : w4.heap.size ≤ w5.heap.size := hb3.size
  have hb_sw0 : w4.heap.size ≤ sw0 ∧ sw0 < w5.heap.size := ⟨hg0, X0.lt⟩
  have hF_sw0 : ∀ x, KHo.F kssw0 x → w4.heap.size ≤ x ∧ x < w5.heap.size := fun x hx => ⟨Z0.ge hx, Z0.read.lt hx⟩
  have hl_sw0 := Z0.read.len.1
  have hn_sw0_0 : ∀ x, KHo.F kssw0 x → x ≠ sw0 := fun x hx => (hF0 x hx).2.1
  have hn_sw0_1 : ∀ x, KHo.F kssw0 x → x ≠ sw1 := fun x hx => (hF0 x hx).2.2
  have hb_sw1 : w4.heap.size ≤ sw1 ∧ sw1 < w5.heap.size := ⟨hg1, X1.lt⟩
  have hF_sw1 : ∀ x, KDk.F kssw1 x → w4.heap.size ≤ x ∧ x < w5.heap.size := fun x hx => ⟨Z1.ge hx, Z1.read.lt hx⟩
  have hl_sw1 := Z1.read.len.1
  have hn_sw1_0 : ∀ x, KDk.F kssw1 x → x ≠ sw0 := fun x hx => (hF1 x hx).2.1
  have hn_sw1_1 : ∀ x, KDk.F kssw1 x → x ≠ sw1 := fun x hx => (hF1 x hx).2.2
  have hd_sw0_1 := hs3
  replace HB := hid (HB.out.trans (hb3.mono HB.out.size))
  replace HL : Hid (Live w5 [(KHo.rd sw0 kssw0 R0), (KDk.rd sw1 kssw1 R1), (KHo.rd w.heap.size cs0 H), (KDk.rd w1.heap.size cs1 D)]) := Live.cons X0 Z0.read (Live.cons X1 Z1.read (HL.out.below hb3))
  clear G hb3 hs3 eV X0 Z0 eg0 ev0 hg0 hf0 hF0 X1 Z1 eg1 ev1 hg1 hf1 hF1 z0 z1 z2 e13
  go_upto_region 9 with fail
  refine region_box rfl rfl rfl rfl rfl 28 _ rfl w.heap.size _ _ (by intros; refine (?_ : _ = _); kernel_rfl) (HL.out.row (KHo.rd w.heap.size cs0 H) (by simp)) Tryz.underlying28 rfl (KHo.zL.trans (congrArg some hl_a0.symm)) 7 _ _ rfl KHo.cTo (by intros; refine (?_ : _ = _); kernel_rfl) [.int .i64 0, .int .i64 0, .bool false, .bool false, .bool false, .int .i64 0, .int .i64 0, .int .i64 0, .int .i64 0, .string ⟨#[]⟩, .int .i64 0, .int .i64 0, .int .i64 0, .string ⟨#[]⟩, .slice none 0 0, .int .i64 0] 41 (fun ρ w => by unfold execOp; simp [go_sem]) 41 _ _ rfl (by kernel_rfl) (by intros; refine (?_ : _ = _); kernel_rfl) (by intros; refine (?_ : _ = _); kernel_rfl) (fun cs w' => KHo.W w' w5.heap.size cs H) ?_ ?_
  · refine (KHo.lay w5 cs0 H (HL.out.q (KHo.rd w.heap.size cs0 H) (by simp)) U0.out).mono ?_
    rintro e w' ⟨ds, rfl, Z1, b1⟩
    exact ⟨ds, rfl, Z1.read.len.1, Z1.read.len.2, Z1, b1⟩
  rintro xs0 w6 w7 Z1 b1 X1 B1
  simp only [Act.put, List.setIfInBounds_toArray, List.set_cons_zero, List.set_cons_succ]
  have hs_x0 : w5.heap.size ≤ w6.heap.size := b1.size
  have hb_x0 : w5.heap.size ≤ w6.heap.size ∧ w6.heap.size < w7.heap.size := ⟨b1.size, X1.lt⟩
  have hF_x0 : ∀ x, KHo.F xs0 x → w5.heap.size ≤ x ∧ x < w6.heap.size := fun x hx => ⟨Z1.ge hx, Z1.read.lt hx⟩
  have hl_x0 := Z1.read.len.1
  replace HB := hid ((HB.out.trans (b1.mono HB.out.size)).trans (B1.mono (HB.out.trans (b1.mono HB.out.size)).size))
  replace HL : Hid (Live w7 [(KHo.wr w6.heap.size xs0 H w5.heap.size), (KHo.rd sw0 kssw0 R0), (KDk.rd sw1 kssw1 R1), (KHo.rd w.heap.size cs0 H), (KDk.rd w1.heap.size cs1 D)]) := Live.cons X1 (Z1.below B1) ((HL.out.below b1).below B1)
  clear Z1 b1 X1 B1
  go_upto_region 10 with fail
  refine region_box rfl rfl rfl rfl rfl 33 _ rfl w1.heap.size _ _ (by intros; refine (?_ : _ = _); kernel_rfl) (HL.out.row (KDk.rd w1.heap.size cs1 D) (by simp)) Tryz.underlying33 rfl (KDk.zL.trans (congrArg some hl_a1.symm)) 8 _ _ rfl KDk.cTo (by intros; refine (?_ : _ = _); kernel_rfl) [.slice none 0 0, .slice none 0 0, .slice none 0 0] 44 (fun ρ w => by unfold execOp; simp [go_sem]) 44 _ _ rfl (by kernel_rfl) (by intros; refine (?_ : _ = _); kernel_rfl) (by intros; refine (?_ : _ = _); kernel_rfl) (fun cs w' => KDk.W w' w7.heap.size cs D) ?_ ?_
  · refine (KDk.lay w7 cs1 D (HL.out.q (KDk.rd w1.heap.size cs1 D) (by simp)) U1.out).mono ?_
    rintro e w' ⟨ds, rfl, Z1, b1⟩
    exact ⟨ds, rfl, Z1.read.len.1, Z1.read.len.2, Z1, b1⟩
  rintro xs1 w8 w9 Z1 b1 X1 B1
  simp only [Act.put, List.setIfInBounds_toArray, List.set_cons_zero, List.set_cons_succ]
  have hs_x1 : w7.heap.size ≤ w8.heap.size := b1.size
  have hb_x1 : w7.heap.size ≤ w8.heap.size ∧ w8.heap.size < w9.heap.size := ⟨b1.size, X1.lt⟩
  have hF_x1 : ∀ x, KDk.F xs1 x → w7.heap.size ≤ x ∧ x < w8.heap.size := fun x hx => ⟨Z1.ge hx, Z1.read.lt hx⟩
  have hl_x1 := Z1.read.len.1
  replace HB := hid ((HB.out.trans (b1.mono HB.out.size)).trans (B1.mono (HB.out.trans (b1.mono HB.out.size)).size))
  replace HL : Hid (Live w9 [(KDk.wr w8.heap.size xs1 D w7.heap.size), (KHo.wr w6.heap.size xs0 H w5.heap.size), (KHo.rd sw0 kssw0 R0), (KDk.rd sw1 kssw1 R1), (KHo.rd w.heap.size cs0 H), (KDk.rd w1.heap.size cs1 D)]) := Live.cons X1 (Z1.below B1) ((HL.out.below b1).below B1)
  clear Z1 b1 X1 B1
  go_upto_region 11 with fail
  refine region_ans (rs := [⟨0, 0, 0, xs0⟩, ⟨0, 0, 0, xs1⟩, ⟨2, 0, 0, []⟩, ⟨3, 0, 0, []⟩, ⟨4, 3, 0, []⟩, ⟨4, 3, 1, []⟩, ⟨4, 3, 2, []⟩, ⟨5, 0, 9, [.int .i64 0, .int .i64 0, .bool false, .bool false, .bool false, .int .i64 0, .int .i64 0, .int .i64 0, .int .i64 0, .string ⟨#[]⟩, .int .i64 0, .int .i64 0, .int .i64 0, .string ⟨#[]⟩, .slice none 0 0, .int .i64 0]⟩, ⟨5, 0, 10, [.slice none 0 0, .slice none 0 0, .slice none 0 0]⟩, ⟨6, 7, 4, []⟩, ⟨6, 8, 5, []⟩, ⟨7, 6, 0, []⟩]) (f := 2)
    (S := fun i v wx => True)
    (FS := fun _ _ _ => False)
    (RF := fun V wx => ∃ ds0 ds1, V = .tuple #[.agg (List.toArray ds0), .agg (List.toArray ds1), .bool bf] ∧ KHo.W wx w9.heap.size ds0 R0 ∧ KDk.W wx w9.heap.size ds1 R1 ∧ (∀ x, KHo.F ds0 x → ¬ KDk.F ds1 x))
    (Ft := fun V b => ∃ ds0 ds1, V = .tuple #[.agg (List.toArray ds0), .agg (List.toArray ds1), .bool bf] ∧ (KHo.F ds0 b ∨ KDk.F ds1 b))
    false (by kernel_rfl) (by kernel_rfl) rfl [0, 1] (fun v => #[v 0, v 1]) ?_ [some 44, some 45, some 46, some 43, some 47, some 48, some 49, some 11, some 12, none, none, some 13] (by kernel_rfl) ?_
  · refine aCons (aLoad rfl rfl 41 _ rfl (b := w6.heap.size) (by kernel_rfl) (by kernel_rfl) _ (HL.out.row (KHo.wr w6.heap.size xs0 H w5.heap.size) (by simp)) Tryz.underlying41 rfl (KHo.zI.trans (congrArg some hl_x0.symm))) ?_
    refine aCons (aLoad rfl rfl 44 _ rfl (b := w8.heap.size) (by kernel_rfl) (by kernel_rfl) _ (HL.out.row (KDk.wr w8.heap.size xs1 D w7.heap.size) (by simp)) Tryz.underlying44 rfl (KDk.zI.trans (congrArg some hl_x1.symm))) ?_
    refine aCons (aFn rfl rfl 9 _ _ rfl call_implHostRise ?_ (by kernel_rfl) ?_ ?_) ?_
    · intro L v a hA hL
      simp only [List.map_toArray, List.map_cons, List.map_nil]
      rw [hA.eval_got 0 (hL 0 (by simp)) (by kernel_rfl), hA.eval_got 1 (hL 1 (by simp)) (by kernel_rfl)]
    · rintro V w' w'' T ⟨ds0, ds1, e1, Z0, Z1, hs⟩ kk hn
      exact ⟨ds0, ds1, e1, Z0.kept kk (fun b hb => hn b ⟨ds0, ds1, e1, (.inl hb)⟩), Z1.kept kk (fun b hb => hn b ⟨ds0, ds1, e1, (.inr hb)⟩), hs⟩
    · intro v w' hb hv
      have e0 := (hv 0 _ (by simp) rfl).1 rfl
      have h0 := (HL.out.q (KHo.wr w6.heap.size xs0 H w5.heap.size) (by simp)).read.below hb
      have e1 := (hv 1 _ (by simp) rfl).1 rfl
      have h1 := (HL.out.q (KDk.wr w8.heap.size xs1 D w7.heap.size) (by simp)).read.below hb
      rw [e0, e1]
      refine (kitImplRise w' xs0 H xs1 D h0 U0.out h1 U1.out).mono ?_
      rw [HRr.out]
      rintro e w'' ⟨ds0, ds1, rfl, Z0, Z1, hs, b1⟩
      exact ⟨_, rfl, ⟨ds0, ds1, rfl, Z0.mono hb.size, Z1.mono hb.size, hs⟩, (fun b ⟨es0, es1, e, h⟩ => .inl (by
        simp only [Value.tuple.injEq, Value.agg.injEq, Array.mk.injEq, List.cons.injEq, and_true] at e
        obtain ⟨rfl, rfl⟩ := e
        rcases h with h | h
        · exact ⟨Z0.ge h, Z0.read.lt h⟩
        · exact ⟨Z1.ge h, Z1.read.lt h⟩)), Kept.of_below b1⟩
    refine aCons (aMove rfl rfl _ rfl (by kernel_rfl) (by kernel_rfl) rfl rfl) ?_
    refine aCons (aExt rfl rfl _ rfl (by kernel_rfl) (by kernel_rfl) (by kernel_rfl) rfl rfl rfl rfl (fun V w h => by obtain ⟨ds0, ds1, rfl, _⟩ := h; exact ⟨_, _, rfl, rfl⟩)) ?_
    refine aCons (aExt rfl rfl _ rfl (by kernel_rfl) (by kernel_rfl) (by kernel_rfl) rfl rfl rfl rfl (fun V w h => by obtain ⟨ds0, ds1, rfl, _⟩ := h; exact ⟨_, _, rfl, rfl⟩)) ?_
    refine aCons (aExt rfl rfl _ rfl (by kernel_rfl) (by kernel_rfl) (by kernel_rfl) rfl rfl rfl rfl (fun V w h => by obtain ⟨ds0, ds1, rfl, _⟩ := h; exact ⟨_, _, rfl, rfl⟩)) ?_
    refine aCons (aBox rfl rfl 41 (fun ρ w => by unfold execOp; simp [go_sem]) rfl rfl rfl) ?_
    refine aCons (aBox rfl rfl 44 (fun ρ w => by unfold execOp; simp [go_sem]) rfl rfl rfl) ?_
    refine aCons (aSto rfl rfl 41 _ _ rfl (by kernel_rfl) (by kernel_rfl) (by kernel_rfl) (by kernel_rfl) (by kernel_rfl) rfl rfl rfl rfl rfl (by kernel_rfl) rfl rfl ?_) ?_
    · rintro V w' a x ⟨ds0, ds1, rfl, Z0, Z1, _⟩ ea ex
      cases ea
      cases ex
      exact ⟨ds0, rfl, Z0.read.len.1, Z0.read.len.2⟩
    refine aCons (aSto rfl rfl 44 _ _ rfl (by kernel_rfl) (by kernel_rfl) (by kernel_rfl) (by kernel_rfl) (by kernel_rfl) rfl rfl rfl rfl rfl (by kernel_rfl) rfl rfl ?_) ?_
    · rintro V w' a x ⟨ds0, ds1, rfl, Z0, Z1, _⟩ ea ex
      cases ea
      cases ex
      exact ⟨ds1, rfl, Z1.read.len.1, Z1.read.len.2⟩
    exact aCons (aAsg rfl rfl _ rfl (by kernel_rfl) (by kernel_rfl)) (aNil _)
  intro L vv w10 hL hb3 G
  obtain ⟨g0, ks0, eg0, ev0, X0, hg0, hf0⟩ := boxed hL G 9 7 4 rfl rfl rfl rfl rfl rfl rfl rfl
  obtain ⟨g1, ks1, eg1, ev1, X1, hg1, hf1⟩ := boxed hL G 10 8 5 rfl rfl rfl rfl rfl rfl rfl rfl
  have hne01 : g0 ≠ g1 := apart2 hL G 7 8 rfl rfl rfl rfl (by decide) eg0 eg1
  obtain ⟨⟨ds0, ds1, eV, Z0, Z1, hs3⟩, _, _⟩ := (G 2 _ rfl).2.2.1 rfl
  obtain ⟨_, y0, z0⟩ := (G 4 _ rfl).2.2.2.2.1 rfl
  obtain ⟨_, y1, z1⟩ := (G 5 _ rfl).2.2.2.2.1 rfl
  obtain ⟨_, y2, z2⟩ := (G 6 _ rfl).2.2.2.2.1 rfl
  have e13 := (G 11 _ rfl).2.2.2.2.2.2.2 rfl
  rw [eV] at y0 y1 y2
  cases y0
  cases y1
  cases y2
  replace z0 : Value.agg (List.toArray ds0) = vv 4 := Option.some.inj z0
  obtain rfl : ks0 = ds0 := agg_inj (ev0.symm.trans z0.symm)
  replace z1 : Value.agg (List.toArray ds1) = vv 5 := Option.some.inj z1
  obtain rfl : ks1 = ds1 := agg_inj (ev1.symm.trans z1.symm)
  replace z2 : Value.bool bf = vv 6 := Option.some.inj z2
  replace e13 : vv 11 = .bool bf := Eq.trans e13 z2.symm
  simp only [putsAll, Act.put, List.setIfInBounds_toArray, List.set_cons_zero, List.set_cons_succ, eg0, eg1, e13]
  have hF0 : ∀ x, KHo.F ks0 x → w9.heap.size ≤ x ∧ x ≠ g0 ∧ x ≠ g1 := fun x hx => ⟨Z0.ge hx, hf0 x (by rw [eV]; exact ⟨_, _, rfl, (.inl hx)⟩), hf1 x (by rw [eV]; exact ⟨_, _, rfl, (.inl hx)⟩)⟩
  have hF1 : ∀ x, KDk.F ks1 x → w9.heap.size ≤ x ∧ x ≠ g0 ∧ x ≠ g1 := fun x hx => ⟨Z1.ge hx, hf0 x (by rw [eV]; exact ⟨_, _, rfl, (.inr hx)⟩), hf1 x (by rw [eV]; exact ⟨_, _, rfl, (.inr hx)⟩)⟩
  obtain ⟨ksg0, hks0⟩ : ∃ l, l = ks0 := ⟨_, rfl⟩
  subst hks0
  obtain ⟨ksg1, hks1⟩ : ∃ l, l = ks1 := ⟨_, rfl⟩
  subst hks1
  have hsg : w9.heap.size ≤ w10.heap.size := hb3.size
  have hb_g0 : w9.heap.size ≤ g0 ∧ g0 < w10.heap.size := ⟨hg0, X0.lt⟩
  have hF_g0 : ∀ x, KHo.F ksg0 x → w9.heap.size ≤ x ∧ x < w10.heap.size := fun x hx => ⟨Z0.ge hx, Z0.read.lt hx⟩
  have hl_g0 := Z0.read.len.1
  have hn_g0_0 : ∀ x, KHo.F ksg0 x → x ≠ g0 := fun x hx => (hF0 x hx).2.1
  have hn_g0_1 : ∀ x, KHo.F ksg0 x → x ≠ g1 := fun x hx => (hF0 x hx).2.2
  have hb_g1 : w9.heap.size ≤ g1 ∧ g1 < w10.heap.size := ⟨hg1, X1.lt⟩
  have hF_g1 : ∀ x, KDk.F ksg1 x → w9.heap.size ≤ x ∧ x < w10.heap.size := fun x hx => ⟨Z1.ge hx, Z1.read.lt hx⟩
  have hl_g1 := Z1.read.len.1
  have hn_g1_0 : ∀ x, KDk.F ksg1 x → x ≠ g0 := fun x hx => (hF1 x hx).2.1
  have hn_g1_1 : ∀ x, KDk.F ksg1 x → x ≠ g1 := fun x hx => (hF1 x hx).2.2
  have hd_g0_1 := hs3
  replace HB := hid (HB.out.trans (hb3.mono HB.out.size))
  replace HL : Hid (Live w10 [(KHo.wr g0 ksg0 R0 w9.heap.size), (KDk.wr g1 ksg1 R1 w9.heap.size), (KDk.wr w8.heap.size xs1 D w7.heap.size), (KHo.wr w6.heap.size xs0 H w5.heap.size), (KHo.rd sw0 kssw0 R0), (KDk.rd sw1 kssw1 R1), (KHo.rd w.heap.size cs0 H), (KDk.rd w1.heap.size cs1 D)]) := Live.cons X0 Z0 (Live.cons X1 Z1 (HL.out.below hb3))
  clear G hb3 hs3 eV X0 Z0 eg0 ev0 hg0 hf0 hF0 X1 Z1 eg1 ev1 hg1 hf1 hF1 z0 z1 z2 e13
  go_upto_region 12 with fail
  refine wp_region_list ?_
  refine wpList_loadR rfl 41 _ rfl g0 (by intros; refine (?_ : _ = _); kernel_rfl) _ _ (HL.out.row (KHo.wr g0 ksg0 R0 w9.heap.size) (by simp)) Tryz.underlying41 rfl (KHo.zI.trans (congrArg some hl_g0.symm)) ?_
  refine wpList_loadR rfl 41 _ rfl sw0 (by intros; refine (?_ : _ = _); kernel_rfl) _ _ (HL.out.row (KHo.rd sw0 kssw0 R0) (by simp)) Tryz.underlying41 rfl (KHo.zI.trans (congrArg some hl_sw0.symm)) ?_
  refine wpList_callR rfl 10 _ _ rfl #[.agg ksg0.toArray, .agg kssw0.toArray] (by simp only [List.map_toArray, List.map_cons, List.map_nil]; refine (?_ : _ = _); kernel_rfl) KHo.cEq ((KHo.eq w10 ksg0 kssw0 R0 (HL.out.q (KHo.wr g0 ksg0 R0 w9.heap.size) (by simp)).read (HL.out.q (KHo.rd sw0 kssw0 R0) (by simp)) V0.out).mono ?_)
  rintro e w11 ⟨rfl, bq⟩
  refine ⟨_, rfl, ?_⟩
  simp only [Act.put, List.setIfInBounds_toArray, List.set_cons_zero, List.set_cons_succ]
  have hs_w11 : w10.heap.size ≤ w11.heap.size := bq.size
  replace HB := hid (HB.out.trans (bq.mono HB.out.size))
  replace HL : Hid (Live w11 [(KHo.wr g0 ksg0 R0 w9.heap.size), (KDk.wr g1 ksg1 R1 w9.heap.size), (KDk.wr w8.heap.size xs1 D w7.heap.size), (KHo.wr w6.heap.size xs0 H w5.heap.size), (KHo.rd sw0 kssw0 R0), (KDk.rd sw1 kssw1 R1), (KHo.rd w.heap.size cs0 H), (KDk.rd w1.heap.size cs1 D)]) := HL.out.below bq
  clear bq
  refine wpList_step (fun K' hK => ?_)
  go_simp
  refine hK _ _ ?_
  clear hK K'
  refine wpList_step (fun K' hK => ?_)
  go_simp
  refine hK _ _ ?_
  clear hK K'
  refine wpList_loadR (by kernel_rfl) 44 _ rfl g1 (by intros; refine (?_ : _ = _); kernel_rfl) _ _ (HL.out.row (KDk.wr g1 ksg1 R1 w9.heap.size) (by simp)) Tryz.underlying44 rfl (KDk.zI.trans (congrArg some hl_g1.symm)) ?_
  refine wpList_loadR (by kernel_rfl) 44 _ rfl sw1 (by intros; refine (?_ : _ = _); kernel_rfl) _ _ (HL.out.row (KDk.rd sw1 kssw1 R1) (by simp)) Tryz.underlying44 rfl (KDk.zI.trans (congrArg some hl_sw1.symm)) ?_
  refine wpList_callR (by kernel_rfl) 11 _ _ rfl #[.agg ksg1.toArray, .agg kssw1.toArray] (by simp only [List.map_toArray, List.map_cons, List.map_nil]; refine (?_ : _ = _); kernel_rfl) KDk.cEq ((KDk.eq w11 ksg1 kssw1 R1 (HL.out.q (KDk.wr g1 ksg1 R1 w9.heap.size) (by simp)).read (HL.out.q (KDk.rd sw1 kssw1 R1) (by simp)) V1.out).mono ?_)
  rintro e w12 ⟨rfl, bq⟩
  refine ⟨_, rfl, ?_⟩
  simp only [Act.put, List.setIfInBounds_toArray, List.set_cons_zero, List.set_cons_succ]
  have hs_w12 : w11.heap.size ≤ w12.heap.size := bq.size
  replace HB := hid (HB.out.trans (bq.mono HB.out.size))
  replace HL : Hid (Live w12 [(KHo.wr g0 ksg0 R0 w9.heap.size), (KDk.wr g1 ksg1 R1 w9.heap.size), (KDk.wr w8.heap.size xs1 D w7.heap.size), (KHo.wr w6.heap.size xs0 H w5.heap.size), (KHo.rd sw0 kssw0 R0), (KDk.rd sw1 kssw1 R1), (KHo.rd w.heap.size cs0 H), (KDk.rd w1.heap.size cs1 D)]) := HL.out.below bq
  clear bq
  go_upto_region 14 with fail
  refine region_ret (rs := [⟨0, 0, 0, [.agg xs0.toArray]⟩, ⟨0, 0, 0, [.agg cs0.toArray]⟩, ⟨1, 0, 0, []⟩, ⟨1, 0, 0, []⟩, ⟨0, 0, 0, [.bool false]⟩])
    (S := fun i v wx => match i with
      | 2 => ∃ ds, v 2 = .agg (List.toArray ds) ∧ KHo.W wx w12.heap.size ds H
      | _ => v 3 = .bool true)
    true (by kernel_rfl) (by kernel_rfl) rfl ?_ [some 65, some 66, some 67, some 68, some 69] (by kernel_rfl) ?_
  · refine rCons (rLoad rfl rfl 41 _ rfl (b := w6.heap.size) (by kernel_rfl) (by kernel_rfl) _ (HL.out.row (KHo.wr w6.heap.size xs0 H w5.heap.size) (by simp)) (fun h => by have := into_of h (rfl : _ = []); cases this) Tryz.underlying41 rfl (KHo.zI.trans (congrArg some hl_x0.symm))) ?_
    refine rCons (rLoad rfl rfl 28 _ rfl (b := w.heap.size) (by kernel_rfl) (by kernel_rfl) _ (HL.out.row (KHo.rd w.heap.size cs0 H) (by simp)) (fun h => by have := into_of h (rfl : _ = []); cases this) Tryz.underlying28 rfl (KHo.zL.trans (congrArg some hl_a0.symm))) ?_
    refine rCons (rCall rfl rfl 7 _ _ (fun _ => #[.agg cs0.toArray]) rfl KHo.cTo (fun L v a w' K => by simp only [List.map_toArray, List.map_cons, List.map_nil]; rw [K.got 1 (by kernel_rfl) (by kernel_rfl) rfl rfl]; rfl) ?_ ?_ ?_) ?_
    · rintro v w' w'' ⟨ds, e1, Z1⟩ kk
      exact ⟨ds, e1, Z1.kept kk (fun b hb h => by have := Z1.ge hb; omega)⟩
    · rintro v v' hv w' ⟨ds, e1, Z1⟩
      exact ⟨ds, (hv 2 (.inl rfl)) ▸ e1, Z1⟩
    · intro v w' kk _
      have kb : Below w12.heap.size w12 w' := kk.below (Nat.le_refl _) (fun b _ h => by have := into_of h (rfl : _ = []); cases this)
      refine (KHo.lay w' cs0 H ((HL.out.q (KHo.rd w.heap.size cs0 H) (by simp)).below kb) U0.out).mono ?_
      rintro e w'' ⟨ds, rfl, Z1, b1⟩
      exact ⟨_, rfl, ⟨ds, updv_same v 2 _, Z1.mono kb.size⟩, b1⟩
    refine rCons (rCall rfl rfl 10 _ _ (fun v => #[.agg xs0.toArray, v 2]) rfl KHo.cEq (fun L v a w' K => by simp only [List.map_toArray, List.map_cons, List.map_nil]; rw [K.got 0 (by kernel_rfl) (by kernel_rfl) rfl rfl, K.slots.eval_got 2 (K.up 2 (by kernel_rfl)) (by kernel_rfl)]; rfl) (fun v w' w'' h _ => h) (fun v v' hv w' h => (hv 3 (.inl rfl)) ▸ h) ?_) ?_
    · intro v w' kk hv
      have kb : Below w12.heap.size w12 w' := kk.below (Nat.le_refl _) (fun b _ h => by have := into_of h (rfl : _ = []); cases this)
      obtain ⟨ds, e1, Z1⟩ := (hv 2 _ (by kernel_rfl) rfl).2 rfl
      rw [e1]
      refine (KHo.eq w' xs0 ds H ((HL.out.q (KHo.wr w6.heap.size xs0 H w5.heap.size) (by simp)).read.below kb) Z1.read U0.out).mono ?_
      rintro e w'' ⟨rfl, b1⟩
      exact ⟨_, rfl, updv_same v 3 _, b1⟩
    exact rCons (rFix rfl rfl (fun L v a w' K => by have e1 : a.eval (.tmp 68) = .bool true := (K.slots.eval_got 3 (K.up 3 (by kernel_rfl)) (by kernel_rfl)).trans (K.said 3 _ (by kernel_rfl) rfl rfl); generalize a.eval = ρ at e1 ⊢; unfold execOp; go_simp; first | done | rfl)) (rNil _)
  intro L vq w13 hL kk G
  have bq : Below w12.heap.size w12 w13 := kk.below (Nat.le_refl _) (fun b _ h => by have := into_of h (rfl : _ = []); cases this)
  have e4 : vq 4 = .bool false := (G 4 _ rfl).1 rfl
  simp only [putsAll, Act.put, List.setIfInBounds_toArray, List.set_cons_zero, List.set_cons_succ, e4]
  clear G kk
  have hs_w13 : w12.heap.size ≤ w13.heap.size := bq.size
  replace HB := hid (HB.out.trans (bq.mono HB.out.size))
  replace HL : Hid (Live w13 [(KHo.wr g0 ksg0 R0 w9.heap.size), (KDk.wr g1 ksg1 R1 w9.heap.size), (KDk.wr w8.heap.size xs1 D w7.heap.size), (KHo.wr w6.heap.size xs0 H w5.heap.size), (KHo.rd sw0 kssw0 R0), (KDk.rd sw1 kssw1 R1), (KHo.rd w.heap.size cs0 H), (KDk.rd w1.heap.size cs1 D)]) := HL.out.below bq
  clear bq
  go_upto_region 16 with fail
  refine region_ret (rs := [⟨0, 0, 0, [.agg xs1.toArray]⟩, ⟨0, 0, 0, [.agg cs1.toArray]⟩, ⟨1, 0, 0, []⟩, ⟨1, 0, 0, []⟩, ⟨0, 0, 0, [.bool false]⟩])
    (S := fun i v wx => match i with
      | 2 => ∃ ds, v 2 = .agg (List.toArray ds) ∧ KDk.W wx w13.heap.size ds D
      | _ => v 3 = .bool true)
    true (by kernel_rfl) (by kernel_rfl) rfl ?_ [some 70, some 71, some 72, some 73, some 74] (by kernel_rfl) ?_
  · refine rCons (rLoad rfl rfl 44 _ rfl (b := w8.heap.size) (by kernel_rfl) (by kernel_rfl) _ (HL.out.row (KDk.wr w8.heap.size xs1 D w7.heap.size) (by simp)) (fun h => by have := into_of h (rfl : _ = []); cases this) Tryz.underlying44 rfl (KDk.zI.trans (congrArg some hl_x1.symm))) ?_
    refine rCons (rLoad rfl rfl 33 _ rfl (b := w1.heap.size) (by kernel_rfl) (by kernel_rfl) _ (HL.out.row (KDk.rd w1.heap.size cs1 D) (by simp)) (fun h => by have := into_of h (rfl : _ = []); cases this) Tryz.underlying33 rfl (KDk.zL.trans (congrArg some hl_a1.symm))) ?_
    refine rCons (rCall rfl rfl 8 _ _ (fun _ => #[.agg cs1.toArray]) rfl KDk.cTo (fun L v a w' K => by simp only [List.map_toArray, List.map_cons, List.map_nil]; rw [K.got 1 (by kernel_rfl) (by kernel_rfl) rfl rfl]; rfl) ?_ ?_ ?_) ?_
    · rintro v w' w'' ⟨ds, e1, Z1⟩ kk
      exact ⟨ds, e1, Z1.kept kk (fun b hb h => by have := Z1.ge hb; omega)⟩
    · rintro v v' hv w' ⟨ds, e1, Z1⟩
      exact ⟨ds, (hv 2 (.inl rfl)) ▸ e1, Z1⟩
    · intro v w' kk _
      have kb : Below w13.heap.size w13 w' := kk.below (Nat.le_refl _) (fun b _ h => by have := into_of h (rfl : _ = []); cases this)
      refine (KDk.lay w' cs1 D ((HL.out.q (KDk.rd w1.heap.size cs1 D) (by simp)).below kb) U1.out).mono ?_
      rintro e w'' ⟨ds, rfl, Z1, b1⟩
      exact ⟨_, rfl, ⟨ds, updv_same v 2 _, Z1.mono kb.size⟩, b1⟩
    refine rCons (rCall rfl rfl 11 _ _ (fun v => #[.agg xs1.toArray, v 2]) rfl KDk.cEq (fun L v a w' K => by simp only [List.map_toArray, List.map_cons, List.map_nil]; rw [K.got 0 (by kernel_rfl) (by kernel_rfl) rfl rfl, K.slots.eval_got 2 (K.up 2 (by kernel_rfl)) (by kernel_rfl)]; rfl) (fun v w' w'' h _ => h) (fun v v' hv w' h => (hv 3 (.inl rfl)) ▸ h) ?_) ?_
    · intro v w' kk hv
      have kb : Below w13.heap.size w13 w' := kk.below (Nat.le_refl _) (fun b _ h => by have := into_of h (rfl : _ = []); cases this)
      obtain ⟨ds, e1, Z1⟩ := (hv 2 _ (by kernel_rfl) rfl).2 rfl
      rw [e1]
      refine (KDk.eq w' xs1 ds D ((HL.out.q (KDk.wr w8.heap.size xs1 D w7.heap.size) (by simp)).read.below kb) Z1.read U1.out).mono ?_
      rintro e w'' ⟨rfl, b1⟩
      exact ⟨_, rfl, updv_same v 3 _, b1⟩
    exact rCons (rFix rfl rfl (fun L v a w' K => by have e1 : a.eval (.tmp 73) = .bool true := (K.slots.eval_got 3 (K.up 3 (by kernel_rfl)) (by kernel_rfl)).trans (K.said 3 _ (by kernel_rfl) rfl rfl); generalize a.eval = ρ at e1 ⊢; unfold execOp; go_simp; first | done | rfl)) (rNil _)
  intro L vq w14 hL kk G
  have bq : Below w13.heap.size w13 w14 := kk.below (Nat.le_refl _) (fun b _ h => by have := into_of h (rfl : _ = []); cases this)
  have e4 : vq 4 = .bool false := (G 4 _ rfl).1 rfl
  simp only [putsAll, Act.put, List.setIfInBounds_toArray, List.set_cons_zero, List.set_cons_succ, e4]
  clear G kk
  have hs_w14 : w13.heap.size ≤ w14.heap.size := bq.size
  replace HB := hid (HB.out.trans (bq.mono HB.out.size))
  replace HL : Hid (Live w14 [(KHo.wr g0 ksg0 R0 w9.heap.size), (KDk.wr g1 ksg1 R1 w9.heap.size), (KDk.wr w8.heap.size xs1 D w7.heap.size), (KHo.wr w6.heap.size xs0 H w5.heap.size), (KHo.rd sw0 kssw0 R0), (KDk.rd sw1 kssw1 R1), (KHo.rd w.heap.size cs0 H), (KDk.rd w1.heap.size cs1 D)]) := HL.out.below bq
  clear bq
  go_upto_region 19 with fail
  refine wp_region_list ?_
  refine wpList_loadR rfl 41 _ rfl w6.heap.size (by intros; refine (?_ : _ = _); kernel_rfl) _ _ (HL.out.row (KHo.wr w6.heap.size xs0 H w5.heap.size) (by simp)) Tryz.underlying41 rfl (KHo.zI.trans (congrArg some hl_x0.symm)) ?_
  refine wpList_value rfl (v := .int .i64 ((1 : Nat) : Int)) (by unfold execOp; simp [go_sem, Act.put]) ?_
  refine wpList_callR rfl 12 _ _ rfl #[.agg xs0.toArray, .int .i64 ((1 : Nat) : Int)] (by simp only [List.map_toArray, List.map_cons, List.map_nil]; refine (?_ : _ = _); kernel_rfl) KHo.cMk ((KHo.mark w14 w5.heap.size xs0 H (1) (HL.out.q (KHo.wr w6.heap.size xs0 H w5.heap.size) (by simp)) (by omega) (by omega) (by have := KHo.small U0.out; omega)).mono ?_)
  rintro e w15 ⟨rfl, M1, K1⟩
  have hszw15 := K1.size
  refine ⟨_, rfl, ?_⟩
  simp only [Act.put, List.setIfInBounds_toArray, List.set_cons_zero, List.set_cons_succ]
  replace HB := hid (HB.out.trans (K1.below HB.out.size (fun b hb h => by have := hF_x0 _ h; omega)))
  have HK := hid ((HL.out.sub (m := [(KHo.wr g0 ksg0 R0 w9.heap.size), (KDk.wr g1 ksg1 R1 w9.heap.size), (KDk.wr w8.heap.size xs1 D w7.heap.size), (KHo.rd sw0 kssw0 R0), (KDk.rd sw1 kssw1 R1), (KHo.rd w.heap.size cs0 H), (KDk.rd w1.heap.size cs1 D)]) (fun it h => by simp only [List.mem_cons, List.not_mem_nil, or_false] at h; rcases h with rfl | rfl | rfl | rfl | rfl | rfl | rfl <;> simp)).kept K1 (fun it h => by
      simp only [List.mem_cons, List.not_mem_nil, or_false] at h
      rcases h with rfl | rfl | rfl | rfl | rfl | rfl | rfl
      · exact (show ¬ KHo.F xs0 g0 ∧ ∀ x, KHo.F ksg0 x → ¬ KHo.F xs0 x from ⟨fun h => by have := hF_x0 _ h; have := hb_g0; omega, fun x hx h => by have := hF_x0 _ h; have := hF_g0 x hx; omega⟩)
      · exact (show ¬ KHo.F xs0 g1 ∧ ∀ x, KDk.F ksg1 x → ¬ KHo.F xs0 x from ⟨fun h => by have := hF_x0 _ h; have := hb_g1; omega, fun x hx h => by have := hF_x0 _ h; have := hF_g1 x hx; omega⟩)
      · exact (show ¬ KHo.F xs0 w8.heap.size ∧ ∀ x, KDk.F xs1 x → ¬ KHo.F xs0 x from ⟨fun h => by have := hF_x0 _ h; have := hb_x1; omega, fun x hx h => by have := hF_x0 _ h; have := hF_x1 x hx; omega⟩)
      · exact (show ¬ KHo.F xs0 sw0 ∧ ∀ x, KHo.F kssw0 x → ¬ KHo.F xs0 x from ⟨fun h => by have := hF_x0 _ h; have := hb_sw0; omega, fun x hx h => by have := hF_x0 _ h; have := hF_sw0 x hx; omega⟩)
      · exact (show ¬ KHo.F xs0 sw1 ∧ ∀ x, KDk.F kssw1 x → ¬ KHo.F xs0 x from ⟨fun h => by have := hF_x0 _ h; have := hb_sw1; omega, fun x hx h => by have := hF_x0 _ h; have := hF_sw1 x hx; omega⟩)
      · exact (show ¬ KHo.F xs0 w.heap.size ∧ ∀ x, KHo.F cs0 x → ¬ KHo.F xs0 x from ⟨fun h => by have := hF_x0 _ h; have := hb_a0; omega, fun x hx h => by have := hF_x0 _ h; have := hF_a0 x hx; omega⟩)
      · exact (show ¬ KHo.F xs0 w1.heap.size ∧ ∀ x, KDk.F cs1 x → ¬ KHo.F xs0 x from ⟨fun h => by have := hF_x0 _ h; have := hb_a1; omega, fun x hx h => by have := hF_x0 _ h; have := hF_a1 x hx; omega⟩)))
  replace HL : Hid (Live w15 [(KHo.wr g0 ksg0 R0 w9.heap.size), (KDk.wr g1 ksg1 R1 w9.heap.size), (KDk.wr w8.heap.size xs1 D w7.heap.size), (KHo.rd sw0 kssw0 R0), (KDk.rd sw1 kssw1 R1), (KHo.rd w.heap.size cs0 H), (KDk.rd w1.heap.size cs1 D)]) := HK.out
  clear HK
  clear M1 K1
  go_upto_region 20 with fail
  refine wp_region_list ?_
  refine wpList_loadR rfl 44 _ rfl w8.heap.size (by intros; refine (?_ : _ = _); kernel_rfl) _ _ (HL.out.row (KDk.wr w8.heap.size xs1 D w7.heap.size) (by simp)) Tryz.underlying44 rfl (KDk.zI.trans (congrArg some hl_x1.symm)) ?_
  refine wpList_value rfl (v := .int .i64 ((1 + KHo.n H : Nat) : Int)) (by unfold execOp; simp [go_sem, Act.put]) ?_
  refine wpList_callR rfl 13 _ _ rfl #[.agg xs1.toArray, .int .i64 ((1 + KHo.n H : Nat) : Int)] (by simp only [List.map_toArray, List.map_cons, List.map_nil]; refine (?_ : _ = _); kernel_rfl) KDk.cMk ((KDk.mark w15 w7.heap.size xs1 D (1 + KHo.n H) (HL.out.q (KDk.wr w8.heap.size xs1 D w7.heap.size) (by simp)) (by omega) (by omega) (by have := KHo.small U0.out; have := KDk.small U1.out; omega)).mono ?_)
  rintro e w16 ⟨rfl, M1, K1⟩
  have hszw16 := K1.size
  refine ⟨_, rfl, ?_⟩
  simp only [Act.put, List.setIfInBounds_toArray, List.set_cons_zero, List.set_cons_succ]
  replace HB := hid (HB.out.trans (K1.below HB.out.size (fun b hb h => by have := hF_x1 _ h; omega)))
  have HK := hid ((HL.out.sub (m := [(KHo.wr g0 ksg0 R0 w9.heap.size), (KDk.wr g1 ksg1 R1 w9.heap.size), (KHo.rd sw0 kssw0 R0), (KDk.rd sw1 kssw1 R1), (KHo.rd w.heap.size cs0 H), (KDk.rd w1.heap.size cs1 D)]) (fun it h => by simp only [List.mem_cons, List.not_mem_nil, or_false] at h; rcases h with rfl | rfl | rfl | rfl | rfl | rfl <;> simp)).kept K1 (fun it h => by
      simp only [List.mem_cons, List.not_mem_nil, or_false] at h
      rcases h with rfl | rfl | rfl | rfl | rfl | rfl
      · exact (show ¬ KDk.F xs1 g0 ∧ ∀ x, KHo.F ksg0 x → ¬ KDk.F xs1 x from ⟨fun h => by have := hF_x1 _ h; have := hb_g0; omega, fun x hx h => by have := hF_x1 _ h; have := hF_g0 x hx; omega⟩)
      · exact (show ¬ KDk.F xs1 g1 ∧ ∀ x, KDk.F ksg1 x → ¬ KDk.F xs1 x from ⟨fun h => by have := hF_x1 _ h; have := hb_g1; omega, fun x hx h => by have := hF_x1 _ h; have := hF_g1 x hx; omega⟩)
      · exact (show ¬ KDk.F xs1 sw0 ∧ ∀ x, KHo.F kssw0 x → ¬ KDk.F xs1 x from ⟨fun h => by have := hF_x1 _ h; have := hb_sw0; omega, fun x hx h => by have := hF_x1 _ h; have := hF_sw0 x hx; omega⟩)
      · exact (show ¬ KDk.F xs1 sw1 ∧ ∀ x, KDk.F kssw1 x → ¬ KDk.F xs1 x from ⟨fun h => by have := hF_x1 _ h; have := hb_sw1; omega, fun x hx h => by have := hF_x1 _ h; have := hF_sw1 x hx; omega⟩)
      · exact (show ¬ KDk.F xs1 w.heap.size ∧ ∀ x, KHo.F cs0 x → ¬ KDk.F xs1 x from ⟨fun h => by have := hF_x1 _ h; have := hb_a0; omega, fun x hx h => by have := hF_x1 _ h; have := hF_a0 x hx; omega⟩)
      · exact (show ¬ KDk.F xs1 w1.heap.size ∧ ∀ x, KDk.F cs1 x → ¬ KDk.F xs1 x from ⟨fun h => by have := hF_x1 _ h; have := hb_a1; omega, fun x hx h => by have := hF_x1 _ h; have := hF_a1 x hx; omega⟩)))
  replace HL : Hid (Live w16 [(KHo.wr g0 ksg0 R0 w9.heap.size), (KDk.wr g1 ksg1 R1 w9.heap.size), (KHo.rd sw0 kssw0 R0), (KDk.rd sw1 kssw1 R1), (KHo.rd w.heap.size cs0 H), (KDk.rd w1.heap.size cs1 D)]) := HK.out
  clear HK
  clear M1 K1
  obtain ⟨tx, htx⟩ : ∃ t, 1 + KHo.n H + KDk.n D = t := ⟨_, rfl⟩
  rw [htx]
  have htx0 : ¬ ((tx : Nat) : Int) < 0 := by omega
  clear htx
  go_upto_region 21 with fail
  refine wp_region_list ?_
  refine wpList_step (fun K' hK => ?_)
  go_simp
  refine hK _ _ ?_
  clear hK K'
  refine wpList_step (fun K' hK => ?_)
  go_simp
  refine hK _ _ ?_
  clear hK K'
  refine wpList_step (fun K' hK => ?_)
  go_simp
  refine hK _ _ ?_
  clear hK K'
  refine wpList_loadR (by kernel_rfl) 41 _ rfl g0 (by intros; refine (?_ : _ = _); kernel_rfl) _ _ (HL.out.row (KHo.wr g0 ksg0 R0 w9.heap.size) (by simp)) Tryz.underlying41 rfl (KHo.zI.trans (congrArg some hl_g0.symm)) ?_
  refine wpList_loadR (by kernel_rfl) 41 _ rfl sw0 (by intros; refine (?_ : _ = _); kernel_rfl) _ _ (HL.out.row (KHo.rd sw0 kssw0 R0) (by simp)) Tryz.underlying41 rfl (KHo.zI.trans (congrArg some hl_sw0.symm)) ?_
  refine wpList_callR (by kernel_rfl) 10 _ _ rfl #[.agg ksg0.toArray, .agg kssw0.toArray] (by simp only [List.map_toArray, List.map_cons, List.map_nil]; refine (?_ : _ = _); kernel_rfl) KHo.cEq ((KHo.eq w16 ksg0 kssw0 R0 (HL.out.q (KHo.wr g0 ksg0 R0 w9.heap.size) (by simp)).read (HL.out.q (KHo.rd sw0 kssw0 R0) (by simp)) V0.out).mono ?_)
  rintro e w17 ⟨rfl, bq⟩
  refine ⟨_, rfl, ?_⟩
  simp only [Act.put, List.setIfInBounds_toArray, List.set_cons_zero, List.set_cons_succ]
  have hs_w17 : w16.heap.size ≤ w17.heap.size := bq.size
  replace HB := hid (HB.out.trans (bq.mono HB.out.size))
  replace HL : Hid (Live w17 [(KHo.wr g0 ksg0 R0 w9.heap.size), (KDk.wr g1 ksg1 R1 w9.heap.size), (KHo.rd sw0 kssw0 R0), (KDk.rd sw1 kssw1 R1), (KHo.rd w.heap.size cs0 H), (KDk.rd w1.heap.size cs1 D)]) := HL.out.below bq
  clear bq
  refine wpList_step (fun K' hK => ?_)
  go_simp
  refine hK _ _ ?_
  clear hK K'
  refine wpList_step (fun K' hK => ?_)
  go_simp
  refine hK _ _ ?_
  clear hK K'
  refine wpList_step (fun K' hK => ?_)
  go_simp
  refine hK _ _ ?_
  clear hK K'
  refine wpList_loadR (by kernel_rfl) 44 _ rfl g1 (by intros; refine (?_ : _ = _); kernel_rfl) _ _ (HL.out.row (KDk.wr g1 ksg1 R1 w9.heap.size) (by simp)) Tryz.underlying44 rfl (KDk.zI.trans (congrArg some hl_g1.symm)) ?_
  refine wpList_loadR (by kernel_rfl) 44 _ rfl sw1 (by intros; refine (?_ : _ = _); kernel_rfl) _ _ (HL.out.row (KDk.rd sw1 kssw1 R1) (by simp)) Tryz.underlying44 rfl (KDk.zI.trans (congrArg some hl_sw1.symm)) ?_
  refine wpList_callR (by kernel_rfl) 11 _ _ rfl #[.agg ksg1.toArray, .agg kssw1.toArray] (by simp only [List.map_toArray, List.map_cons, List.map_nil]; refine (?_ : _ = _); kernel_rfl) KDk.cEq ((KDk.eq w17 ksg1 kssw1 R1 (HL.out.q (KDk.wr g1 ksg1 R1 w9.heap.size) (by simp)).read (HL.out.q (KDk.rd sw1 kssw1 R1) (by simp)) V1.out).mono ?_)
  rintro e w18 ⟨rfl, bq⟩
  refine ⟨_, rfl, ?_⟩
  simp only [Act.put, List.setIfInBounds_toArray, List.set_cons_zero, List.set_cons_succ]
  have hs_w18 : w17.heap.size ≤ w18.heap.size := bq.size
  replace HB := hid (HB.out.trans (bq.mono HB.out.size))
  replace HL : Hid (Live w18 [(KHo.wr g0 ksg0 R0 w9.heap.size), (KDk.wr g1 ksg1 R1 w9.heap.size), (KHo.rd sw0 kssw0 R0), (KDk.rd sw1 kssw1 R1), (KHo.rd w.heap.size cs0 H), (KDk.rd w1.heap.size cs1 D)]) := HL.out.below bq
  clear bq
  obtain ⟨tg0, htg0⟩ : ∃ t, 1 + KHo.n R0 = t := ⟨_, rfl⟩
  have HTg0 := hid htg0
  have hsg0 := KHo.small V0.out
  have htg00 : ¬ ((tg0 : Nat) : Int) < 0 := by omega
  obtain ⟨tg1, htg1⟩ : ∃ t, tg0 + KDk.n R1 = t := ⟨_, rfl⟩
  have HTg1 := hid htg1
  have hsg1 := KDk.small V1.out
  have htg01 : ¬ ((tg1 : Nat) : Int) < 0 := by omega
  have htp0 : 0 < tg0 := by omega
  have htp1 : 0 < tg1 := by omega
  have hbg0 : tg0 ≤ 6291457 := by omega
  have hbg1 : tg1 ≤ 12582913 := by omega
  clear htg0 htg1
  go_upto_region 24 with fail
  refine wp_region_list ?_
  refine wpList_loadR rfl 41 _ rfl g0 (by intros; refine (?_ : _ = _); kernel_rfl) _ _ (HL.out.row (KHo.wr g0 ksg0 R0 w9.heap.size) (by simp)) Tryz.underlying41 rfl (KHo.zI.trans (congrArg some hl_g0.symm)) ?_
  refine wpList_value rfl (v := .int .i64 ((1 : Nat) : Int)) (by unfold execOp; simp [go_sem, Act.put]) ?_
  refine wpList_callR rfl 12 _ _ rfl #[.agg ksg0.toArray, .int .i64 ((1 : Nat) : Int)] (by simp only [List.map_toArray, List.map_cons, List.map_nil]; refine (?_ : _ = _); kernel_rfl) KHo.cMk ((KHo.mark w18 w9.heap.size ksg0 R0 (1) (HL.out.q (KHo.wr g0 ksg0 R0 w9.heap.size) (by simp)) (by omega) (by omega) (by omega)).mono ?_)
  rintro e w19 ⟨rfl, M1, K1⟩
  have hszw19 := K1.size
  rw [HTg0.out]
  refine ⟨_, rfl, ?_⟩
  simp only [Act.put, List.setIfInBounds_toArray, List.set_cons_zero, List.set_cons_succ]
  have hrow := (HL.out.row (KHo.wr g0 ksg0 R0 w9.heap.size) (by simp)).kept K1 (fun h => hn_g0_0 _ h rfl)
  replace HB := hid (HB.out.trans (K1.below HB.out.size (fun b hb h => by have := hF_g0 _ h; omega)))
  have HK := hid ((HL.out.sub (m := [(KDk.wr g1 ksg1 R1 w9.heap.size), (KHo.rd sw0 kssw0 R0), (KDk.rd sw1 kssw1 R1), (KHo.rd w.heap.size cs0 H), (KDk.rd w1.heap.size cs1 D)]) (fun it h => by simp only [List.mem_cons, List.not_mem_nil, or_false] at h; rcases h with rfl | rfl | rfl | rfl | rfl <;> simp)).kept K1 (fun it h => by
      simp only [List.mem_cons, List.not_mem_nil, or_false] at h
      rcases h with rfl | rfl | rfl | rfl | rfl
      · exact (show ¬ KHo.F ksg0 g1 ∧ ∀ x, KDk.F ksg1 x → ¬ KHo.F ksg0 x from ⟨fun h => hn_g0_1 _ h rfl, fun x hx h => hd_g0_1 x h hx⟩)
      · exact (show ¬ KHo.F ksg0 sw0 ∧ ∀ x, KHo.F kssw0 x → ¬ KHo.F ksg0 x from ⟨fun h => by have := hF_g0 _ h; have := hb_sw0; omega, fun x hx h => by have := hF_g0 _ h; have := hF_sw0 x hx; omega⟩)
      · exact (show ¬ KHo.F ksg0 sw1 ∧ ∀ x, KDk.F kssw1 x → ¬ KHo.F ksg0 x from ⟨fun h => by have := hF_g0 _ h; have := hb_sw1; omega, fun x hx h => by have := hF_g0 _ h; have := hF_sw1 x hx; omega⟩)
      · exact (show ¬ KHo.F ksg0 w.heap.size ∧ ∀ x, KHo.F cs0 x → ¬ KHo.F ksg0 x from ⟨fun h => by have := hF_g0 _ h; have := hb_a0; omega, fun x hx h => by have := hF_g0 _ h; have := hF_a0 x hx; omega⟩)
      · exact (show ¬ KHo.F ksg0 w1.heap.size ∧ ∀ x, KDk.F cs1 x → ¬ KHo.F ksg0 x from ⟨fun h => by have := hF_g0 _ h; have := hb_a1; omega, fun x hx h => by have := hF_g0 _ h; have := hF_a1 x hx; omega⟩)))
  replace HL : Hid (Live w19 [(KHo.mk g0 ksg0 R0 (1)), (KDk.wr g1 ksg1 R1 w9.heap.size), (KHo.rd sw0 kssw0 R0), (KDk.rd sw1 kssw1 R1), (KHo.rd w.heap.size cs0 H), (KDk.rd w1.heap.size cs1 D)]) := Live.cons hrow M1 HK.out
  clear HK
  clear M1 K1 hrow
  go_upto_region 25 with fail
  refine wp_region_list ?_
  refine wpList_loadR rfl 44 _ rfl g1 (by intros; refine (?_ : _ = _); kernel_rfl) _ _ (HL.out.row (KDk.wr g1 ksg1 R1 w9.heap.size) (by simp)) Tryz.underlying44 rfl (KDk.zI.trans (congrArg some hl_g1.symm)) ?_
  refine wpList_value rfl (v := .int .i64 ((tg0 : Nat) : Int)) (by unfold execOp; simp [go_sem, Act.put]) ?_
  refine wpList_callR rfl 13 _ _ rfl #[.agg ksg1.toArray, .int .i64 ((tg0 : Nat) : Int)] (by simp only [List.map_toArray, List.map_cons, List.map_nil]; refine (?_ : _ = _); kernel_rfl) KDk.cMk ((KDk.mark w19 w9.heap.size ksg1 R1 (tg0) (HL.out.q (KDk.wr g1 ksg1 R1 w9.heap.size) (by simp)) (by omega) (by omega) (by omega)).mono ?_)
  rintro e w20 ⟨rfl, M1, K1⟩
  have hszw20 := K1.size
  rw [HTg1.out]
  refine ⟨_, rfl, ?_⟩
  simp only [Act.put, List.setIfInBounds_toArray, List.set_cons_zero, List.set_cons_succ]
  have hrow := (HL.out.row (KDk.wr g1 ksg1 R1 w9.heap.size) (by simp)).kept K1 (fun h => hn_g1_1 _ h rfl)
  replace HB := hid (HB.out.trans (K1.below HB.out.size (fun b hb h => by have := hF_g1 _ h; omega)))
  have HK := hid ((HL.out.sub (m := [(KHo.mk g0 ksg0 R0 (1)), (KHo.rd sw0 kssw0 R0), (KDk.rd sw1 kssw1 R1), (KHo.rd w.heap.size cs0 H), (KDk.rd w1.heap.size cs1 D)]) (fun it h => by simp only [List.mem_cons, List.not_mem_nil, or_false] at h; rcases h with rfl | rfl | rfl | rfl | rfl <;> simp)).kept K1 (fun it h => by
      simp only [List.mem_cons, List.not_mem_nil, or_false] at h
      rcases h with rfl | rfl | rfl | rfl | rfl
      · exact (show ¬ KDk.F ksg1 g0 ∧ ∀ x, KHo.F ksg0 x → ¬ KDk.F ksg1 x from ⟨fun h => hn_g1_0 _ h rfl, fun x hx h => hd_g0_1 x hx h⟩)
      · exact (show ¬ KDk.F ksg1 sw0 ∧ ∀ x, KHo.F kssw0 x → ¬ KDk.F ksg1 x from ⟨fun h => by have := hF_g1 _ h; have := hb_sw0; omega, fun x hx h => by have := hF_g1 _ h; have := hF_sw0 x hx; omega⟩)
      · exact (show ¬ KDk.F ksg1 sw1 ∧ ∀ x, KDk.F kssw1 x → ¬ KDk.F ksg1 x from ⟨fun h => by have := hF_g1 _ h; have := hb_sw1; omega, fun x hx h => by have := hF_g1 _ h; have := hF_sw1 x hx; omega⟩)
      · exact (show ¬ KDk.F ksg1 w.heap.size ∧ ∀ x, KHo.F cs0 x → ¬ KDk.F ksg1 x from ⟨fun h => by have := hF_g1 _ h; have := hb_a0; omega, fun x hx h => by have := hF_g1 _ h; have := hF_a0 x hx; omega⟩)
      · exact (show ¬ KDk.F ksg1 w1.heap.size ∧ ∀ x, KDk.F cs1 x → ¬ KDk.F ksg1 x from ⟨fun h => by have := hF_g1 _ h; have := hb_a1; omega, fun x hx h => by have := hF_g1 _ h; have := hF_a1 x hx; omega⟩)))
  replace HL : Hid (Live w20 [(KDk.mk g1 ksg1 R1 (tg0)), (KHo.mk g0 ksg0 R0 (1)), (KHo.rd sw0 kssw0 R0), (KDk.rd sw1 kssw1 R1), (KHo.rd w.heap.size cs0 H), (KDk.rd w1.heap.size cs1 D)]) := Live.cons hrow M1 HK.out
  clear HK
  clear M1 K1 hrow
  go_upto_region 27 with fail
  refine wp_region_list ?_
  refine wpList_loadR rfl 41 _ rfl g0 (by intros; refine (?_ : _ = _); kernel_rfl) _ _ (HL.out.row (KHo.mk g0 ksg0 R0 (1)) (by simp)) Tryz.underlying41 rfl (KHo.zI.trans (congrArg some hl_g0.symm)) ?_
  refine wpList_value rfl (v := .int .i64 ((1 : Nat) : Int)) (by unfold execOp; simp [go_sem, Act.put]) ?_
  refine wpList_callR rfl 14 _ _ rfl #[.agg ksg0.toArray, .int .i64 ((1 : Nat) : Int)] (by simp only [List.map_toArray, List.map_cons, List.map_nil]; refine (?_ : _ = _); kernel_rfl) KHo.cHd ((KHo.held w20 ksg0 R0 (1) (HL.out.q (KHo.mk g0 ksg0 R0 (1)) (by simp)) (by omega) (by omega)).mono ?_)
  rintro e w21 ⟨rfl, bq⟩
  rw [HTg0.out]
  refine ⟨_, rfl, ?_⟩
  simp only [Act.put, List.setIfInBounds_toArray, List.set_cons_zero, List.set_cons_succ]
  have hs_w21 : w20.heap.size ≤ w21.heap.size := bq.size
  replace HB := hid (HB.out.trans (bq.mono HB.out.size))
  replace HL : Hid (Live w21 [(KDk.mk g1 ksg1 R1 (tg0)), (KHo.mk g0 ksg0 R0 (1)), (KHo.rd sw0 kssw0 R0), (KDk.rd sw1 kssw1 R1), (KHo.rd w.heap.size cs0 H), (KDk.rd w1.heap.size cs1 D)]) := HL.out.below bq
  clear bq
  go_upto_region 30 with fail
  refine wp_region_list ?_
  refine wpList_loadR rfl 44 _ rfl g1 (by intros; refine (?_ : _ = _); kernel_rfl) _ _ (HL.out.row (KDk.mk g1 ksg1 R1 (tg0)) (by simp)) Tryz.underlying44 rfl (KDk.zI.trans (congrArg some hl_g1.symm)) ?_
  refine wpList_value rfl (v := .int .i64 ((tg0 : Nat) : Int)) (by unfold execOp; simp [go_sem, Act.put]) ?_
  refine wpList_callR rfl 15 _ _ rfl #[.agg ksg1.toArray, .int .i64 ((tg0 : Nat) : Int)] (by simp only [List.map_toArray, List.map_cons, List.map_nil]; refine (?_ : _ = _); kernel_rfl) KDk.cHd ((KDk.held w21 ksg1 R1 (tg0) (HL.out.q (KDk.mk g1 ksg1 R1 (tg0)) (by simp)) (by omega) (by omega)).mono ?_)
  rintro e w22 ⟨rfl, bq⟩
  rw [HTg1.out]
  refine ⟨_, rfl, ?_⟩
  simp only [Act.put, List.setIfInBounds_toArray, List.set_cons_zero, List.set_cons_succ]
  have hs_w22 : w21.heap.size ≤ w22.heap.size := bq.size
  replace HB := hid (HB.out.trans (bq.mono HB.out.size))
  replace HL : Hid (Live w22 [(KDk.mk g1 ksg1 R1 (tg0)), (KHo.mk g0 ksg0 R0 (1)), (KHo.rd sw0 kssw0 R0), (KDk.rd sw1 kssw1 R1), (KHo.rd w.heap.size cs0 H), (KDk.rd w1.heap.size cs1 D)]) := HL.out.below bq
  clear bq
  go_upto_region 35 with fail
  refine region_ans (rs := [⟨0, 0, 0, cs0⟩, ⟨1, 0, 0, cs0⟩, ⟨0, 0, 0, cs1⟩, ⟨1, 2, 0, cs1⟩, ⟨2, 0, 0, []⟩, ⟨3, 0, 0, []⟩, ⟨4, 5, 0, []⟩, ⟨4, 5, 1, []⟩, ⟨4, 5, 2, []⟩, ⟨5, 0, 11, [.int .i64 0, .int .i64 0, .bool false, .bool false, .bool false, .int .i64 0, .int .i64 0, .int .i64 0, .int .i64 0, .string ⟨#[]⟩, .int .i64 0, .int .i64 0, .int .i64 0, .string ⟨#[]⟩, .slice none 0 0, .int .i64 0]⟩, ⟨5, 0, 12, [.slice none 0 0, .slice none 0 0, .slice none 0 0]⟩, ⟨6, 9, 6, []⟩, ⟨6, 10, 7, []⟩, ⟨7, 8, 0, []⟩]) (f := 4)
    (S := fun i v wx => match i with
      | 1 => ∃ ds, v 1 = .agg (List.toArray ds) ∧ KHo.R wx ds H
      | _ => ∃ ds, v 3 = .agg (List.toArray ds) ∧ KDk.R wx ds D)
    (FS := fun _ _ _ => False)
    (RF := fun V wx => ∃ ds0 ds1, V = .tuple #[.agg (List.toArray ds0), .agg (List.toArray ds1), .bool bf] ∧ KHo.W wx w22.heap.size ds0 R0 ∧ KDk.W wx w22.heap.size ds1 R1 ∧ (∀ x, KHo.F ds0 x → ¬ KDk.F ds1 x))
    (Ft := fun V b => ∃ ds0 ds1, V = .tuple #[.agg (List.toArray ds0), .agg (List.toArray ds1), .bool bf] ∧ (KHo.F ds0 b ∨ KDk.F ds1 b))
    true (by kernel_rfl) (by kernel_rfl) rfl [1, 3] (fun v => #[v 1, v 3]) ?_ [some 120, some 121, some 122, some 123, some 124, some 119, some 125, some 126, some 127, some 17, some 18, none, none, some 19] (by kernel_rfl) ?_
  · refine aCons (aLoad rfl rfl 28 _ rfl (b := w.heap.size) (by kernel_rfl) (by kernel_rfl) _ (HL.out.row (KHo.rd w.heap.size cs0 H) (by simp)) Tryz.underlying28 rfl (KHo.zL.trans (congrArg some hl_a0.symm))) ?_
    refine aCons (aConv rfl rfl 7 _ _ rfl (by kernel_rfl) (by kernel_rfl) rfl rfl rfl KHo.cTo (by kernel_rfl) ?_ ?_ ?_) ?_
    · rintro v w' w'' ⟨ds, e1, Z1⟩ bb
      exact ⟨ds, e1, Z1.below bb⟩
    · intro v v' hv
      have e := hv 1 (.inl rfl)
      exact ⟨fun w' ⟨ds, e1, Z1⟩ => ⟨ds, e ▸ e1, Z1⟩, fun b h => h⟩
    · intro v w' hb _
      refine (KHo.lay w' cs0 H ((HL.out.q (KHo.rd w.heap.size cs0 H) (by simp)).below hb) U0.out).mono ?_
      rintro e w'' ⟨ds, rfl, Z1, b1⟩
      exact ⟨_, rfl, ⟨ds, updv_same v 1 _, Z1.read⟩, fun b h => h.elim, b1⟩
    refine aCons (aLoad rfl rfl 33 _ rfl (b := w1.heap.size) (by kernel_rfl) (by kernel_rfl) _ (HL.out.row (KDk.rd w1.heap.size cs1 D) (by simp)) Tryz.underlying33 rfl (KDk.zL.trans (congrArg some hl_a1.symm))) ?_
    refine aCons (aConv rfl rfl 8 _ _ rfl (by kernel_rfl) (by kernel_rfl) rfl rfl rfl KDk.cTo (by kernel_rfl) ?_ ?_ ?_) ?_
    · rintro v w' w'' ⟨ds, e1, Z1⟩ bb
      exact ⟨ds, e1, Z1.below bb⟩
    · intro v v' hv
      have e := hv 3 (.inl rfl)
      exact ⟨fun w' ⟨ds, e1, Z1⟩ => ⟨ds, e ▸ e1, Z1⟩, fun b h => h⟩
    · intro v w' hb _
      refine (KDk.lay w' cs1 D ((HL.out.q (KDk.rd w1.heap.size cs1 D) (by simp)).below hb) U1.out).mono ?_
      rintro e w'' ⟨ds, rfl, Z1, b1⟩
      exact ⟨_, rfl, ⟨ds, updv_same v 3 _, Z1.read⟩, fun b h => h.elim, b1⟩
    refine aCons (aFn rfl rfl 9 _ _ rfl call_implHostRise ?_ (by kernel_rfl) ?_ ?_) ?_
    · intro L v a hA hL
      simp only [List.map_toArray, List.map_cons, List.map_nil]
      rw [hA.eval_got 1 (hL 1 (by simp)) (by kernel_rfl), hA.eval_got 3 (hL 3 (by simp)) (by kernel_rfl)]
    · rintro V w' w'' T ⟨ds0, ds1, e1, Z0, Z1, hs⟩ kk hn
      exact ⟨ds0, ds1, e1, Z0.kept kk (fun b hb => hn b ⟨ds0, ds1, e1, (.inl hb)⟩), Z1.kept kk (fun b hb => hn b ⟨ds0, ds1, e1, (.inr hb)⟩), hs⟩
    · intro v w' hb hv
      obtain ⟨c0, e0, h0⟩ := (hv 1 _ (by simp) rfl).2 rfl
      obtain ⟨c1, e1, h1⟩ := (hv 3 _ (by simp) rfl).2 rfl
      rw [e0, e1]
      refine (kitImplRise w' c0 H c1 D h0 U0.out h1 U1.out).mono ?_
      rw [HRr.out]
      rintro e w'' ⟨ds0, ds1, rfl, Z0, Z1, hs, b1⟩
      exact ⟨_, rfl, ⟨ds0, ds1, rfl, Z0.mono hb.size, Z1.mono hb.size, hs⟩, (fun b ⟨es0, es1, e, h⟩ => .inl (by
        simp only [Value.tuple.injEq, Value.agg.injEq, Array.mk.injEq, List.cons.injEq, and_true] at e
        obtain ⟨rfl, rfl⟩ := e
        rcases h with h | h
        · exact ⟨Z0.ge h, Z0.read.lt h⟩
        · exact ⟨Z1.ge h, Z1.read.lt h⟩)), Kept.of_below b1⟩
    refine aCons (aMove rfl rfl _ rfl (by kernel_rfl) (by kernel_rfl) rfl rfl) ?_
    refine aCons (aExt rfl rfl _ rfl (by kernel_rfl) (by kernel_rfl) (by kernel_rfl) rfl rfl rfl rfl (fun V w h => by obtain ⟨ds0, ds1, rfl, _⟩ := h; exact ⟨_, _, rfl, rfl⟩)) ?_
    refine aCons (aExt rfl rfl _ rfl (by kernel_rfl) (by kernel_rfl) (by kernel_rfl) rfl rfl rfl rfl (fun V w h => by obtain ⟨ds0, ds1, rfl, _⟩ := h; exact ⟨_, _, rfl, rfl⟩)) ?_
    refine aCons (aExt rfl rfl _ rfl (by kernel_rfl) (by kernel_rfl) (by kernel_rfl) rfl rfl rfl rfl (fun V w h => by obtain ⟨ds0, ds1, rfl, _⟩ := h; exact ⟨_, _, rfl, rfl⟩)) ?_
    refine aCons (aBox rfl rfl 41 (fun ρ w => by unfold execOp; simp [go_sem]) rfl rfl rfl) ?_
    refine aCons (aBox rfl rfl 44 (fun ρ w => by unfold execOp; simp [go_sem]) rfl rfl rfl) ?_
    refine aCons (aSto rfl rfl 41 _ _ rfl (by kernel_rfl) (by kernel_rfl) (by kernel_rfl) (by kernel_rfl) (by kernel_rfl) rfl rfl rfl rfl rfl (by kernel_rfl) rfl rfl ?_) ?_
    · rintro V w' a x ⟨ds0, ds1, rfl, Z0, Z1, _⟩ ea ex
      cases ea
      cases ex
      exact ⟨ds0, rfl, Z0.read.len.1, Z0.read.len.2⟩
    refine aCons (aSto rfl rfl 44 _ _ rfl (by kernel_rfl) (by kernel_rfl) (by kernel_rfl) (by kernel_rfl) (by kernel_rfl) rfl rfl rfl rfl rfl (by kernel_rfl) rfl rfl ?_) ?_
    · rintro V w' a x ⟨ds0, ds1, rfl, Z0, Z1, _⟩ ea ex
      cases ea
      cases ex
      exact ⟨ds1, rfl, Z1.read.len.1, Z1.read.len.2⟩
    exact aCons (aAsg rfl rfl _ rfl (by kernel_rfl) (by kernel_rfl)) (aNil _)
  intro L vv w23 hL hb3 G
  obtain ⟨hh0, ks0, eg0, ev0, X0, hg0, hf0⟩ := boxed hL G 11 9 6 rfl rfl rfl rfl rfl rfl rfl rfl
  obtain ⟨hh1, ks1, eg1, ev1, X1, hg1, hf1⟩ := boxed hL G 12 10 7 rfl rfl rfl rfl rfl rfl rfl rfl
  have hne01 : hh0 ≠ hh1 := apart2 hL G 9 10 rfl rfl rfl rfl (by decide) eg0 eg1
  obtain ⟨⟨ds0, ds1, eV, Z0, Z1, hs3⟩, _, _⟩ := (G 4 _ rfl).2.2.1 rfl
  obtain ⟨_, y0, z0⟩ := (G 6 _ rfl).2.2.2.2.1 rfl
  obtain ⟨_, y1, z1⟩ := (G 7 _ rfl).2.2.2.2.1 rfl
  obtain ⟨_, y2, z2⟩ := (G 8 _ rfl).2.2.2.2.1 rfl
  have e13 := (G 13 _ rfl).2.2.2.2.2.2.2 rfl
  rw [eV] at y0 y1 y2
  cases y0
  cases y1
  cases y2
  replace z0 : Value.agg (List.toArray ds0) = vv 6 := Option.some.inj z0
  obtain rfl : ks0 = ds0 := agg_inj (ev0.symm.trans z0.symm)
  replace z1 : Value.agg (List.toArray ds1) = vv 7 := Option.some.inj z1
  obtain rfl : ks1 = ds1 := agg_inj (ev1.symm.trans z1.symm)
  replace z2 : Value.bool bf = vv 8 := Option.some.inj z2
  replace e13 : vv 13 = .bool bf := Eq.trans e13 z2.symm
  simp only [putsAll, Act.put, List.setIfInBounds_toArray, List.set_cons_zero, List.set_cons_succ, eg0, eg1, e13]
  have hF0 : ∀ x, KHo.F ks0 x → w22.heap.size ≤ x ∧ x ≠ hh0 ∧ x ≠ hh1 := fun x hx => ⟨Z0.ge hx, hf0 x (by rw [eV]; exact ⟨_, _, rfl, (.inl hx)⟩), hf1 x (by rw [eV]; exact ⟨_, _, rfl, (.inl hx)⟩)⟩
  have hF1 : ∀ x, KDk.F ks1 x → w22.heap.size ≤ x ∧ x ≠ hh0 ∧ x ≠ hh1 := fun x hx => ⟨Z1.ge hx, hf0 x (by rw [eV]; exact ⟨_, _, rfl, (.inr hx)⟩), hf1 x (by rw [eV]; exact ⟨_, _, rfl, (.inr hx)⟩)⟩
  obtain ⟨kshh0, hks0⟩ : ∃ l, l = ks0 := ⟨_, rfl⟩
  subst hks0
  obtain ⟨kshh1, hks1⟩ : ∃ l, l = ks1 := ⟨_, rfl⟩
  subst hks1
  have hshh : w22.heap.size ≤ w23.heap.size := hb3.size
  have hb_hh0 : w22.heap.size ≤ hh0 ∧ hh0 < w23.heap.size := ⟨hg0, X0.lt⟩
  have hF_hh0 : ∀ x, KHo.F kshh0 x → w22.heap.size ≤ x ∧ x < w23.heap.size := fun x hx => ⟨Z0.ge hx, Z0.read.lt hx⟩
  have hl_hh0 := Z0.read.len.1
  have hn_hh0_0 : ∀ x, KHo.F kshh0 x → x ≠ hh0 := fun x hx => (hF0 x hx).2.1
  have hn_hh0_1 : ∀ x, KHo.F kshh0 x → x ≠ hh1 := fun x hx => (hF0 x hx).2.2
  have hb_hh1 : w22.heap.size ≤ hh1 ∧ hh1 < w23.heap.size := ⟨hg1, X1.lt⟩
  have hF_hh1 : ∀ x, KDk.F kshh1 x → w22.heap.size ≤ x ∧ x < w23.heap.size := fun x hx => ⟨Z1.ge hx, Z1.read.lt hx⟩
  have hl_hh1 := Z1.read.len.1
  have hn_hh1_0 : ∀ x, KDk.F kshh1 x → x ≠ hh0 := fun x hx => (hF1 x hx).2.1
  have hn_hh1_1 : ∀ x, KDk.F kshh1 x → x ≠ hh1 := fun x hx => (hF1 x hx).2.2
  have hd_hh0_1 := hs3
  replace HB := hid (HB.out.trans (hb3.mono HB.out.size))
  replace HL : Hid (Live w23 [(KHo.rd hh0 kshh0 R0), (KDk.rd hh1 kshh1 R1), (KDk.mk g1 ksg1 R1 (tg0)), (KHo.mk g0 ksg0 R0 (1)), (KHo.rd sw0 kssw0 R0), (KDk.rd sw1 kssw1 R1), (KHo.rd w.heap.size cs0 H), (KDk.rd w1.heap.size cs1 D)]) := Live.cons X0 Z0.read (Live.cons X1 Z1.read (HL.out.below hb3))
  clear G hb3 hs3 eV X0 Z0 eg0 ev0 hg0 hf0 hF0 X1 Z1 eg1 ev1 hg1 hf1 hF1 z0 z1 z2 e13
  go_upto_region 36 with fail
  refine wp_region_list ?_
  refine wpList_loadR rfl 41 _ rfl hh0 (by intros; refine (?_ : _ = _); kernel_rfl) _ _ (HL.out.row (KHo.rd hh0 kshh0 R0) (by simp)) Tryz.underlying41 rfl (KHo.zI.trans (congrArg some hl_hh0.symm)) ?_
  refine wpList_loadR rfl 41 _ rfl sw0 (by intros; refine (?_ : _ = _); kernel_rfl) _ _ (HL.out.row (KHo.rd sw0 kssw0 R0) (by simp)) Tryz.underlying41 rfl (KHo.zI.trans (congrArg some hl_sw0.symm)) ?_
  refine wpList_callR rfl 10 _ _ rfl #[.agg kshh0.toArray, .agg kssw0.toArray] (by simp only [List.map_toArray, List.map_cons, List.map_nil]; refine (?_ : _ = _); kernel_rfl) KHo.cEq ((KHo.eq w23 kshh0 kssw0 R0 (HL.out.q (KHo.rd hh0 kshh0 R0) (by simp)) (HL.out.q (KHo.rd sw0 kssw0 R0) (by simp)) V0.out).mono ?_)
  rintro e w24 ⟨rfl, bq⟩
  refine ⟨_, rfl, ?_⟩
  simp only [Act.put, List.setIfInBounds_toArray, List.set_cons_zero, List.set_cons_succ]
  have hs_w24 : w23.heap.size ≤ w24.heap.size := bq.size
  replace HB := hid (HB.out.trans (bq.mono HB.out.size))
  replace HL : Hid (Live w24 [(KHo.rd hh0 kshh0 R0), (KDk.rd hh1 kshh1 R1), (KDk.mk g1 ksg1 R1 (tg0)), (KHo.mk g0 ksg0 R0 (1)), (KHo.rd sw0 kssw0 R0), (KDk.rd sw1 kssw1 R1), (KHo.rd w.heap.size cs0 H), (KDk.rd w1.heap.size cs1 D)]) := HL.out.below bq
  clear bq
  refine wpList_step (fun K' hK => ?_)
  go_simp
  refine hK _ _ ?_
  clear hK K'
  refine wpList_step (fun K' hK => ?_)
  go_simp
  refine hK _ _ ?_
  clear hK K'
  refine wpList_loadR (by kernel_rfl) 44 _ rfl hh1 (by intros; refine (?_ : _ = _); kernel_rfl) _ _ (HL.out.row (KDk.rd hh1 kshh1 R1) (by simp)) Tryz.underlying44 rfl (KDk.zI.trans (congrArg some hl_hh1.symm)) ?_
  refine wpList_loadR (by kernel_rfl) 44 _ rfl sw1 (by intros; refine (?_ : _ = _); kernel_rfl) _ _ (HL.out.row (KDk.rd sw1 kssw1 R1) (by simp)) Tryz.underlying44 rfl (KDk.zI.trans (congrArg some hl_sw1.symm)) ?_
  refine wpList_callR (by kernel_rfl) 11 _ _ rfl #[.agg kshh1.toArray, .agg kssw1.toArray] (by simp only [List.map_toArray, List.map_cons, List.map_nil]; refine (?_ : _ = _); kernel_rfl) KDk.cEq ((KDk.eq w24 kshh1 kssw1 R1 (HL.out.q (KDk.rd hh1 kshh1 R1) (by simp)) (HL.out.q (KDk.rd sw1 kssw1 R1) (by simp)) V1.out).mono ?_)
  rintro e w25 ⟨rfl, bq⟩
  refine ⟨_, rfl, ?_⟩
  simp only [Act.put, List.setIfInBounds_toArray, List.set_cons_zero, List.set_cons_succ]
  have hs_w25 : w24.heap.size ≤ w25.heap.size := bq.size
  replace HB := hid (HB.out.trans (bq.mono HB.out.size))
  replace HL : Hid (Live w25 [(KHo.rd hh0 kshh0 R0), (KDk.rd hh1 kshh1 R1), (KDk.mk g1 ksg1 R1 (tg0)), (KHo.mk g0 ksg0 R0 (1)), (KHo.rd sw0 kssw0 R0), (KDk.rd sw1 kssw1 R1), (KHo.rd w.heap.size cs0 H), (KDk.rd w1.heap.size cs1 D)]) := HL.out.below bq
  clear bq
  go_upto_region 39 with fail
  refine wp_region_list ?_
  refine wpList_loadR rfl 41 _ rfl g0 (by intros; refine (?_ : _ = _); kernel_rfl) _ _ (HL.out.row (KHo.mk g0 ksg0 R0 (1)) (by simp)) Tryz.underlying41 rfl (KHo.zI.trans (congrArg some hl_g0.symm)) ?_
  refine wpList_value rfl (v := .int .i64 ((1 : Nat) : Int)) (by unfold execOp; simp [go_sem, Act.put]) ?_
  refine wpList_callR rfl 14 _ _ rfl #[.agg ksg0.toArray, .int .i64 ((1 : Nat) : Int)] (by simp only [List.map_toArray, List.map_cons, List.map_nil]; refine (?_ : _ = _); kernel_rfl) KHo.cHd ((KHo.held w25 ksg0 R0 (1) (HL.out.q (KHo.mk g0 ksg0 R0 (1)) (by simp)) (by omega) (by omega)).mono ?_)
  rintro e w26 ⟨rfl, bq⟩
  rw [HTg0.out]
  refine ⟨_, rfl, ?_⟩
  simp only [Act.put, List.setIfInBounds_toArray, List.set_cons_zero, List.set_cons_succ]
  have hs_w26 : w25.heap.size ≤ w26.heap.size := bq.size
  replace HB := hid (HB.out.trans (bq.mono HB.out.size))
  replace HL : Hid (Live w26 [(KHo.rd hh0 kshh0 R0), (KDk.rd hh1 kshh1 R1), (KDk.mk g1 ksg1 R1 (tg0)), (KHo.mk g0 ksg0 R0 (1)), (KHo.rd sw0 kssw0 R0), (KDk.rd sw1 kssw1 R1), (KHo.rd w.heap.size cs0 H), (KDk.rd w1.heap.size cs1 D)]) := HL.out.below bq
  clear bq
  go_upto_region 42 with fail
  refine wp_region_list ?_
  refine wpList_loadR rfl 44 _ rfl g1 (by intros; refine (?_ : _ = _); kernel_rfl) _ _ (HL.out.row (KDk.mk g1 ksg1 R1 (tg0)) (by simp)) Tryz.underlying44 rfl (KDk.zI.trans (congrArg some hl_g1.symm)) ?_
  refine wpList_value rfl (v := .int .i64 ((tg0 : Nat) : Int)) (by unfold execOp; simp [go_sem, Act.put]) ?_
  refine wpList_callR rfl 15 _ _ rfl #[.agg ksg1.toArray, .int .i64 ((tg0 : Nat) : Int)] (by simp only [List.map_toArray, List.map_cons, List.map_nil]; refine (?_ : _ = _); kernel_rfl) KDk.cHd ((KDk.held w26 ksg1 R1 (tg0) (HL.out.q (KDk.mk g1 ksg1 R1 (tg0)) (by simp)) (by omega) (by omega)).mono ?_)
  rintro e w27 ⟨rfl, bq⟩
  rw [HTg1.out]
  refine ⟨_, rfl, ?_⟩
  simp only [Act.put, List.setIfInBounds_toArray, List.set_cons_zero, List.set_cons_succ]
  have hs_w27 : w26.heap.size ≤ w27.heap.size := bq.size
  replace HB := hid (HB.out.trans (bq.mono HB.out.size))
  replace HL : Hid (Live w27 [(KHo.rd hh0 kshh0 R0), (KDk.rd hh1 kshh1 R1), (KDk.mk g1 ksg1 R1 (tg0)), (KHo.mk g0 ksg0 R0 (1)), (KHo.rd sw0 kssw0 R0), (KDk.rd sw1 kssw1 R1), (KHo.rd w.heap.size cs0 H), (KDk.rd w1.heap.size cs1 D)]) := HL.out.below bq
  clear bq
  go_wp2
  go_ret
  exact ⟨rfl, HB.out⟩

end Go.Proofs.YtlhnkdogafnnpaaGreat.Pl

namespace Go.Proofs.YtlhnkdogafnnpaaGreat.Pl
open Go.RowKit Go.ChangeShapes Go.WideShapes Go.ChangeAt Go.Joins Go.Deep
open Go.Proofs.YtlhnkdogafnnpaaGreat.Mem Go.Proofs.YtlhnkdogafnnpaaGreat.Sec
set_option linter.unusedVariables false

variable {H : Type} {enc : TypeId × Value → H} {W : World} {base : Nat} {spare : Nat → Bool} {held : Bool}

theorem sl_of_addO {w : World} {a : Addr} {m : Nat} {f : Nat → Value} (h : ∀ i, i < m → w.cell? (a.add i) = some (f i)) : Sl w (some a) m f := by
  intro i hi
  have hc := h i hi
  obtain ⟨b, off, sp⟩ := a
  have hs : sp = none := by simpa [Addr.add] using World.cell?_spot (h 0 (by omega))
  subst hs
  rw [Addr.add_mid] at hc
  exact ⟨b, off, rfl, hc⟩

set_option maxRecDepth 100000 in
theorem out_in {fuel : Nat} {cs : List Value} {x : DataW H × List MemPlace} (h : DataW.trod enc Tryz.prog W base spare held fuel 104 cs = some x) :
    ∃ y : Ou, cs = y.cells ∧ y.text.size ≤ maxLen := by
  have c2 : Tryz.prog.cellsOf 104 = 2 := by kernel_rfl
  have cs9 : Tryz.prog.cellsOf 9 = 1 := by kernel_rfl
  obtain ⟨y0, y1, n, _, hl, f0, f1⟩ := trod_struct2 Tryz.underlying104 h
  rw [c2] at hl
  match cs, hl with
  | [v0, v1], _ =>
    replace f0 : DataW.trod enc Tryz.prog W base spare held n 3 [v0] = some y0 := by simpa [cInt] using f0
    replace f1 : DataW.trod enc Tryz.prog W base spare held n 9 [v1] = some y1 := by simpa [cs9] using f1
    obtain ⟨n0, e0, _, _⟩ := DataW.trod_int Tryz.underlying3 f0
    obtain ⟨s1, e1, _, hs⟩ := DataW.trod_string Tryz.underlying9 f1
    simp only [List.cons.injEq, and_true] at e0 e1
    subst e0; subst e1
    exact ⟨⟨n0, s1⟩, rfl, hs⟩

set_option maxRecDepth 100000 in
theorem outs_in {fuel : Nat} {v : Value} {x : DataW H × List MemPlace} (h : DataW.trod enc Tryz.prog W base spare held fuel 24 [v] = some x) :
    ∃ a cap l, v = .slice a (l : List Ou).length cap ∧ Ous W a l ∧ l.length ≤ maxLen ∧ ∀ y ∈ l, y.text.size ≤ maxLen := by
  have c2 : Tryz.prog.cellsOf 104 = 2 := by kernel_rfl
  rcases open_slice Tryz.underlying24 h with ⟨hcs, _⟩ | ⟨a, len, cap, m, n, D, Pl, hcs, _, hl, hm, hmm, _, hx⟩
  · simp only [List.cons.injEq, and_true] at hcs
    exact ⟨none, 0, [], hcs, fun i hi => by simp at hi, by simp, by simp⟩
  · simp only [List.cons.injEq, and_true] at hcs
    have hlm : len ≤ m := by rw [hmm]; split <;> omega
    have each : ∀ i, ∃ y : Ou, i < len → W.cells? base (a.add (i * 2)) 2 = some y.cells ∧ y.text.size ≤ maxLen := fun i => by
      by_cases hi : i < len
      · obtain ⟨cs', hc, ht⟩ := hx i (by omega)
        rw [c2] at hc
        obtain ⟨y, rfl, hy⟩ := out_in ht
        exact ⟨y, fun _ => ⟨hc, hy⟩⟩
      · exact ⟨Ou.none, fun h => absurd h hi⟩
    obtain ⟨Y, hY⟩ := Classical.axiomOfChoice each
    refine ⟨some a, cap, (List.range len).map Y, by rw [hcs]; simp, ?_, by simp; omega, ?_⟩
    · unfold Ous
      rw [List.length_map, List.length_range]
      refine sl_of_addO (fun i hi => ?_)
      have hq : i / 2 < len := by omega
      have hc := (World.cells?_some (hY (i / 2) hq).1).2.2 (i % 2) (by omega)
      rw [Addr.add_add, show i / 2 * 2 + i % 2 = i by omega] at hc
      rw [hc]
      unfold ocell
      have e : ((List.range len).map Y).getD (i / 2) Ou.none = Y (i / 2) := by simp [List.getD, hq]
      rw [e]
      have : i % 2 = 0 ∨ i % 2 = 1 := by omega
      rcases this with h | h <;> rw [h] <;> rfl
    · intro s hs
      obtain ⟨i, hi, rfl⟩ := List.mem_map.1 hs
      exact (hY i (List.mem_range.1 hi)).2

set_option maxRecDepth 100000 in
theorem plan_in {fuel : Nat} {cs : List Value} {x : DataW H × List MemPlace} (h : DataW.trod enc Tryz.prog W base spare held fuel 26 cs = some x) :
    ∃ (cd bk : Int) (tx : ByteArray) (p : Option Addr) (c : Nat) (l : List Ou), cs = [.int .i64 cd, .int .i64 bk, .string tx, .slice p l.length c] ∧ Ous W p l ∧ tx.size ≤ maxLen ∧ l.length ≤ maxLen ∧ ∀ y ∈ l, y.text.size ≤ maxLen := by
  obtain ⟨xs, n, _, rfl, hl, hlen, hf⟩ := DataW.trod_struct Tryz.underlying26 h
  have c4 : Tryz.prog.cellsOf 26 = 4 := by kernel_rfl
  have cs9 : Tryz.prog.cellsOf 9 = 1 := by kernel_rfl
  have cS : Tryz.prog.cellsOf 24 = 1 := by kernel_rfl
  rw [c4] at hl
  match xs, hlen, cs, hl with
  | [y0, y1, y2, y3], _, [v0, v1, v2, v3], _ =>
    have f0 : DataW.trod enc Tryz.prog W base spare held n 3 [v0] = some y0 := by simpa [cInt] using hf 0 _ rfl
    have f1 : DataW.trod enc Tryz.prog W base spare held n 3 [v1] = some y1 := by simpa [cInt] using hf 1 _ rfl
    have f2 : DataW.trod enc Tryz.prog W base spare held n 9 [v2] = some y2 := by simpa [cInt, cs9] using hf 2 _ rfl
    have f3 : DataW.trod enc Tryz.prog W base spare held n 24 [v3] = some y3 := by simpa [cInt, cs9, cS] using hf 3 _ rfl
    obtain ⟨n0, e0, _, _⟩ := DataW.trod_int Tryz.underlying3 f0
    obtain ⟨n1, e1, _, _⟩ := DataW.trod_int Tryz.underlying3 f1
    obtain ⟨s2, e2, _, hs⟩ := DataW.trod_string Tryz.underlying9 f2
    obtain ⟨a, cap, l, rfl, S, hm, he⟩ := outs_in f3
    simp only [List.cons.injEq, and_true] at e0 e1 e2
    subst e0; subst e1; subst e2
    exact ⟨n0, n1, s2, a, cap, l, rfl, S, hs, hm, he⟩

set_option maxRecDepth 100000 in
/-- A host that came in. -/
theorem host_in {v : Value} {d : DataW H} {p : List MemPlace} {r : Reach} {b0 : Nat} (hv : Value.okWide Tryz.prog W r b0 28 v) (h : DataW.Trod enc Tryz.prog W base spare held 28 v d p) :
    ∃ (J : Ho) (a : Option Addr) (cap : Nat), v = hoV J a cap ∧ Ous W a J.l ∧ J.Upto maxLen := by
  have c16 : Tryz.prog.cellsOf 28 = 16 := by kernel_rfl
  have cO : Tryz.prog.cellsOf 23 = 5 := by kernel_rfl
  have cP : Tryz.prog.cellsOf 26 = 4 := by kernel_rfl
  have cB : Tryz.prog.cellsOf 4 = 1 := by kernel_rfl
  obtain ⟨cs, rfl, hsz⟩ := okWide_struct Tryz.underlying28 hv
  rw [c16] at hsz
  obtain ⟨v0, v1, v2, v3, v4, v5, v6, v7, v8, v9, v10, v11, v12, v13, v14, v15, rfl⟩ : ∃ v0 v1 v2 v3 v4 v5 v6 v7 v8 v9 v10 v11 v12 v13 v14 v15, cs = #[v0, v1, v2, v3, v4, v5, v6, v7, v8, v9, v10, v11, v12, v13, v14, v15] := by
    obtain ⟨l⟩ := cs
    match l, hsz with
    | [v0, v1, v2, v3, v4, v5, v6, v7, v8, v9, v10, v11, v12, v13, v14, v15], _ => exact ⟨v0, v1, v2, v3, v4, v5, v6, v7, v8, v9, v10, v11, v12, v13, v14, v15, rfl⟩
  obtain ⟨fuel, hf⟩ := h
  obtain ⟨xs, n, _, _, _, hlen, hf⟩ := DataW.trod_struct Tryz.underlying28 hf
  match xs, hlen with
  | [y0, y1, y2, y3, y4, y5, y6, y7, y8], _ =>
    have f0 : DataW.trod enc Tryz.prog W base spare held n 3 [v0] = some y0 := by simpa [cInt, Value.cells] using hf 0 _ rfl
    have f1 : DataW.trod enc Tryz.prog W base spare held n 3 [v1] = some y1 := by simpa [cInt, Value.cells] using hf 1 _ rfl
    have f2 : DataW.trod enc Tryz.prog W base spare held n 4 [v2] = some y2 := by simpa [cInt, cB, Value.cells] using hf 2 _ rfl
    have f3 : DataW.trod enc Tryz.prog W base spare held n 4 [v3] = some y3 := by simpa [cInt, cB, Value.cells] using hf 3 _ rfl
    have f4 : DataW.trod enc Tryz.prog W base spare held n 4 [v4] = some y4 := by simpa [cInt, cB, Value.cells] using hf 4 _ rfl
    have f5 : DataW.trod enc Tryz.prog W base spare held n 23 [v5, v6, v7, v8, v9] = some y5 := by simpa [cInt, cB, cO, Value.cells] using hf 5 _ rfl
    have f6 : DataW.trod enc Tryz.prog W base spare held n 3 [v10] = some y6 := by simpa [cInt, cB, cO, Value.cells] using hf 6 _ rfl
    have f7 : DataW.trod enc Tryz.prog W base spare held n 26 [v11, v12, v13, v14] = some y7 := by simpa [cInt, cB, cO, cP, Value.cells] using hf 7 _ rfl
    have f8 : DataW.trod enc Tryz.prog W base spare held n 3 [v15] = some y8 := by simpa [cInt, cB, cO, cP, Value.cells] using hf 8 _ rfl
    obtain ⟨n0, e0, _, _⟩ := DataW.trod_int Tryz.underlying3 f0
    obtain ⟨n1, e1, _, _⟩ := DataW.trod_int Tryz.underlying3 f1
    obtain ⟨b2, e2, _⟩ := DataW.trod_bool Tryz.underlying4 f2
    obtain ⟨b3, e3, _⟩ := DataW.trod_bool Tryz.underlying4 f3
    obtain ⟨b4, e4, _⟩ := DataW.trod_bool Tryz.underlying4 f4
    obtain ⟨k, v, t, at_, s, e5, hs⟩ := op_in f5
    obtain ⟨n6, e6, _, _⟩ := DataW.trod_int Tryz.underlying3 f6
    obtain ⟨cd, bk, tx, a, cap, l, e7, S, ht, hm, he⟩ := plan_in f7
    obtain ⟨n8, e8, _, _⟩ := DataW.trod_int Tryz.underlying3 f8
    simp only [List.cons.injEq, and_true] at e0 e1 e2 e3 e4 e5 e6 e7 e8
    obtain ⟨rfl, rfl, rfl, rfl, rfl⟩ := e5
    obtain ⟨rfl, rfl, rfl, rfl⟩ := e7
    subst e0; subst e1; subst e2; subst e3; subst e4; subst e6; subst e8
    exact ⟨⟨n0, n1, b2, b3, b4, k, v, t, at_, s, n6, cd, bk, tx, l, n8⟩, a, cap, rfl, S, ⟨hs, ht, hm, he⟩⟩

end Go.Proofs.YtlhnkdogafnnpaaGreat.Pl

namespace Go.Proofs.YtlhnkdogafnnpaaGreat.Mem
open Go.RowKit Go.ChangeShapes Go.WideShapes Go.ChangeAt Go.Joins Go.Deep
set_option linter.unusedVariables false

variable {H : Type} {enc : TypeId × Value → H} {W : World} {base : Nat} {spare : Nat → Bool} {held : Bool}

theorem sl_of_add {w : World} {a : Addr} {m : Nat} {f : Nat → Value} (h : ∀ i, i < m → w.cell? (a.add i) = some (f i)) : Sl w (some a) m f := by
  intro i hi
  have hc := h i hi
  obtain ⟨b, off, sp⟩ := a
  have hs : sp = none := by simpa [Addr.add] using World.cell?_spot (h 0 (by omega))
  subst hs
  rw [Addr.add_mid] at hc
  exact ⟨b, off, rfl, hc⟩

theorem strs_in {fuel : Nat} {v : Value} {x : DataW H × List MemPlace} (h : DataW.trod enc Tryz.prog W base spare held fuel 29 [v] = some x) :
    ∃ a cap l, v = .slice a (l : List ByteArray).length cap ∧ Strs W a l ∧ l.length ≤ maxLen ∧ ∀ s ∈ l, s.size ≤ maxLen := by
  rcases open_strs Tryz.underlying29 Tryz.underlying9 (by kernel_rfl) h with ⟨hcs, _⟩ | ⟨a, len, cap, m, Sx, hcs, _, hl, hm, hmm, _, hx⟩
  · simp only [List.cons.injEq, and_true] at hcs
    exact ⟨none, 0, [], hcs, fun i hi => by simp at hi, by simp, by simp⟩
  · simp only [List.cons.injEq, and_true] at hcs
    have hlm : len ≤ m := by rw [hmm]; split <;> omega
    refine ⟨some a, cap, (List.range len).map Sx, by rw [hcs]; simp, ?_, by simp; omega, ?_⟩
    · unfold Strs
      rw [List.length_map, List.length_range]
      refine sl_of_add (fun i hi => ?_)
      rw [(hx i (by omega)).1]
      simp [List.getD, hi]
    · intro s hs
      obtain ⟨i, hi, rfl⟩ := List.mem_map.1 hs
      exact (hx i (by have := List.mem_range.1 hi; omega)).2

theorem ints_in {fuel : Nat} {v : Value} {x : DataW H × List MemPlace} (h : DataW.trod enc Tryz.prog W base spare held fuel 30 [v] = some x) :
    ∃ a cap l, v = .slice a (l : List Int).length cap ∧ Ints W a l ∧ l.length ≤ maxLen ∧ ∀ z ∈ l, -9223372036854775808 ≤ z ∧ z ≤ 9223372036854775807 := by
  rcases open_ints Tryz.underlying30 Tryz.underlying3 (by kernel_rfl) h with ⟨hcs, _⟩ | ⟨a, len, cap, zs, hcs, _, hl, hm, hz, _, hcell, hwz⟩
  · simp only [List.cons.injEq, and_true] at hcs
    exact ⟨none, 0, [], hcs, fun i hi => by simp at hi, by simp, by simp⟩
  · simp only [List.cons.injEq, and_true] at hcs
    have hlm : len ≤ zs.length := by rw [hz]; split <;> omega
    have e : (zs.take len).length = len := by simp; omega
    refine ⟨some a, cap, zs.take len, by rw [hcs, e], ?_, by omega, fun z hz' => bounds_i64 (hwz z (List.mem_of_mem_take hz'))⟩
    unfold Ints
    rw [e]
    refine sl_of_add (fun i hi => ?_)
    rw [hcell i (by omega)]
    simp [List.getD, hi]

set_option maxRecDepth 100000 in
/-- The four fields of a write. -/
theorem write_in {fuel : Nat} {cs : List Value} {x : DataW H × List MemPlace} (h : DataW.trod enc Tryz.prog W base spare held fuel 81 cs = some x) :
    ∃ y : Wt, cs = y.cells ∧ y.text.size ≤ maxLen := by
  obtain ⟨xs, n, _, rfl, hl, hlen, hf⟩ := DataW.trod_struct Tryz.underlying81 h
  have c4 : Tryz.prog.cellsOf 81 = 4 := by kernel_rfl
  have cs3 : Tryz.prog.cellsOf 3 = 1 := by kernel_rfl
  have cs9 : Tryz.prog.cellsOf 9 = 1 := by kernel_rfl
  rw [c4] at hl
  match xs, hlen, cs, hl with
  | [y0, y1, y2, y3], _, [v0, v1, v2, v3], _ =>
    have f0 : DataW.trod enc Tryz.prog W base spare held n 3 [v0] = some y0 := by simpa [cs3] using hf 0 _ rfl
    have f1 : DataW.trod enc Tryz.prog W base spare held n 3 [v1] = some y1 := by simpa [cs3] using hf 1 _ rfl
    have f2 : DataW.trod enc Tryz.prog W base spare held n 3 [v2] = some y2 := by simpa [cs3] using hf 2 _ rfl
    have f3 : DataW.trod enc Tryz.prog W base spare held n 9 [v3] = some y3 := by simpa [cs9] using hf 3 _ rfl
    obtain ⟨n0, e0, _, _⟩ := DataW.trod_int Tryz.underlying3 f0
    obtain ⟨n1, e1, _, _⟩ := DataW.trod_int Tryz.underlying3 f1
    obtain ⟨n2, e2, _, _⟩ := DataW.trod_int Tryz.underlying3 f2
    obtain ⟨s3, e3, _, hs⟩ := DataW.trod_string Tryz.underlying9 f3
    simp only [List.cons.injEq, and_true] at e0 e1 e2 e3
    subst e0; subst e1; subst e2; subst e3
    exact ⟨⟨n0, n1, n2, s3⟩, rfl, hs⟩

set_option maxRecDepth 100000 in
theorem writes_in {fuel : Nat} {v : Value} {x : DataW H × List MemPlace} (h : DataW.trod enc Tryz.prog W base spare held fuel 31 [v] = some x) :
    ∃ a cap l, v = .slice a (l : List Wt).length cap ∧ Wts W a l ∧ l.length ≤ maxLen ∧ ∀ y ∈ l, y.text.size ≤ maxLen := by
  have c4 : Tryz.prog.cellsOf 81 = 4 := by kernel_rfl
  rcases open_slice Tryz.underlying31 h with ⟨hcs, _⟩ | ⟨a, len, cap, m, n, D, Pl, hcs, _, hl, hm, hmm, _, hx⟩
  · simp only [List.cons.injEq, and_true] at hcs
    exact ⟨none, 0, [], hcs, fun i hi => by simp at hi, by simp, by simp⟩
  · simp only [List.cons.injEq, and_true] at hcs
    have hlm : len ≤ m := by rw [hmm]; split <;> omega
    have each : ∀ i, ∃ y : Wt, i < len → W.cells? base (a.add (i * 4)) 4 = some y.cells ∧ y.text.size ≤ maxLen := fun i => by
      by_cases hi : i < len
      · obtain ⟨cs', hc, ht⟩ := hx i (by omega)
        rw [c4] at hc
        obtain ⟨y, rfl, hy⟩ := write_in ht
        exact ⟨y, fun _ => ⟨hc, hy⟩⟩
      · exact ⟨Wt.none, fun h => absurd h hi⟩
    obtain ⟨Y, hY⟩ := Classical.axiomOfChoice each
    refine ⟨some a, cap, (List.range len).map Y, by rw [hcs]; simp, ?_, by simp; omega, ?_⟩
    · unfold Wts
      rw [List.length_map, List.length_range]
      refine sl_of_add (fun i hi => ?_)
      have hq : i / 4 < len := by omega
      have hc := (World.cells?_some (hY (i / 4) hq).1).2.2 (i % 4) (by omega)
      rw [Addr.add_add, show i / 4 * 4 + i % 4 = i by omega] at hc
      rw [hc]
      unfold wcell
      have e : ((List.range len).map Y).getD (i / 4) Wt.none = Y (i / 4) := by simp [List.getD, hq]
      rw [e]
      have : i % 4 = 0 ∨ i % 4 = 1 ∨ i % 4 = 2 ∨ i % 4 = 3 := by omega
      rcases this with h | h | h | h <;> rw [h] <;> rfl
    · intro s hs
      obtain ⟨i, hi, rfl⟩ := List.mem_map.1 hs
      exact (hY i (List.mem_range.1 hi)).2

set_option maxRecDepth 100000 in
/-- A disk that came in. -/
theorem disk_in {v : Value} {d : DataW H} {p : List MemPlace} {r : Reach} {b0 : Nat} (hv : Value.okWide Tryz.prog W r b0 33 v) (h : DataW.Trod enc Tryz.prog W base spare held 33 v d p) :
    ∃ D : Dk, DkR W v D ∧ D.Held := by
  obtain ⟨v0, v1, v2, y0, y1, y2, n, rfl, _, _, h0, h1, h2⟩ := open_agg3 Tryz.underlying33 (by kernel_rfl) (by kernel_rfl) hv h
  obtain ⟨a1, c1, l1, rfl, s1, n1, t1⟩ := strs_in h0
  obtain ⟨a2, c2, l2, rfl, s2, n2, _⟩ := ints_in h1
  obtain ⟨a3, c3, l3, rfl, s3, n3, t3⟩ := writes_in h2
  exact ⟨⟨l1, l2, l3⟩, ⟨a1, c1, a2, c2, a3, c3, rfl, s1, s2, s3⟩, ⟨n1, n2, n3, t1, t3⟩⟩

end Go.Proofs.YtlhnkdogafnnpaaGreat.Mem

namespace Go.Proofs.YtlhnkdogafnnpaaGreat.KDk
open Go.RowKit Go.Proofs.YtlhnkdogafnnpaaGreat.Mem
set_option linter.unusedVariables false

set_option maxRecDepth 100000 in
theorem arg {H : Type} {enc : TypeId × Value → H} {W : World} {base : Nat} {spare : Nat → Bool} {held : Bool} {v : Value} {d : DataW H} {p : List MemPlace} {r : Reach} {b0 : Nat} (hv : Value.okWide Tryz.prog W r b0 33 v) (h : DataW.Trod enc Tryz.prog W base spare held 33 v d p) :
    ∃ cs D, v = .agg (List.toArray cs) ∧ R W cs D ∧ D.Held := by
  obtain ⟨D, h1, h2⟩ := disk_in hv h
  have h3 := h1
  obtain ⟨a1, c1, a2, c2, a3, c3, rfl, _⟩ := h3
  exact ⟨[.slice a1 D.sec.length c1, .slice a2 D.ep.length c2, .slice a3 D.pe.length c3], D, rfl, h1, h2⟩

end Go.Proofs.YtlhnkdogafnnpaaGreat.KDk
