/-
  The walk of laws.FnExactHostCall: the law answers true, and nothing that was there is changed. No condition.
-/
import Derived.Test.YtllgjoflhjnnaaaHoCall3
import Derived.Test.YtllgjoflhjnnaaaHoMk
import Derived.Test.YtllgjoflhjnnaaaHoLaw
import Derived.Test.YtllgjoflhjnnaaaLawTwo
import Derived.Deep.DeepCutAuto
namespace Go.Proofs.Ytllgjoflhjnnaaa.Pl
open Go.RowKit Go.Proofs.Ytllgjoflhjnnaaa.Mem Go.Proofs.Ytllgjoflhjnnaaa.Sec Go.Proofs.Ytllgjoflhjnnaaa.Rd
set_option linter.unusedVariables false
set_option linter.unusedSimpArgs false

theorem call_toOp (vs : Array Value) (w : World) : (callFunc 12 vs).run Try.prog w = .ok (.enter 12 vs) w := by simp [go_sem]
theorem call_sHostCall (vs : Array Value) (w : World) : (callFunc 11 vs).run Try.prog w = .ok (.enter 11 vs) w := by simp [go_sem]
theorem call_iHostCall (vs : Array Value) (w : World) : (callFunc 13 vs).run Try.prog w = .ok (.enter 13 vs) w := by simp [go_sem]

theorem wpList_load_rowG {P : Program} {ops : Array Oper} {rest : List Oper} {op : Oper} {a : Act} {w : World} {Q : Exit → Act → World → Prop} (hw : Region.wanted op (yielded ops a.tmps) = true) (ty : TypeId) (x : Operand) (ho : op.op = .load ty x)
    (b : Nat) (hx : a.eval x = .pointer (some ⟨b, 0, none⟩)) (cs : List Value) (d : TypeDesc) (hr : Row w b cs)
    (hu : P.underlying ty = some d) (hd : d.isRow = true) (hi : (P.info? ty).map (·.size) = some cs.length)
    (h : wpList P ops Q rest (a.put op.dst (.agg cs.toArray)) w) : wpList P ops Q (op :: rest) a w :=
  wpList_step fun K hK => by
    rw [if_pos hw]
    exact wp_load_mid ty x ho b 0 hx cs d (fun j v hv => by rw [Nat.zero_add]; exact hr.c j hv) hu hd hi (hK _ _ h)
theorem wpList_callG {P : Program} {ops : Array Oper} {rest : List Oper} {op : Oper} {a : Act} {w : World} {Q : Exit → Act → World → Prop} (hw : Region.wanted op (yielded ops a.tmps) = true) (f : FuncId) (xs : Array Operand) (ts : Array TypeId)
    (ho : op.op = .call { callee := .value (.func f), args := xs, argTypes := ts }) (vs : Array Value) (hv : xs.map a.eval = vs) (hc : ∀ vs w, (callFunc f vs).run P w = .ok (.enter f vs) w)
    (h : Calls P f vs w fun e w' => ∃ v, e = .returned v ∧ wpList P ops Q rest (a.put op.dst v) w') : wpList P ops Q (op :: rest) a w :=
  wpList_step fun K hK => by
    rw [if_pos hw]
    unfold Oper.wp
    rw [enters a op w xs ts f ho vs hv hc, Oper.upon_enter]
    refine h.mono ?_
    rintro e w' ⟨v, rfl, hw⟩
    exact hK _ _ hw

theorem hoL_inj {R : Ho} {p1 p2 : Option Addr} {c1 c2 : Nat} (h : hoL R p1 c1 = hoL R p2 c2) : p1 = p2 := by
  have h14 := congrArg (fun l : List Value => l[14]?) h
  have : some (Value.slice p1 R.l.length c1) = some (Value.slice p2 R.l.length c2) := h14
  injection this with h1
  injection h1

theorem callD_upto {H : Ho} {K V T A : Int} {X : ByteArray} (hu : H.Upto 1048576) (hX : X.size ≤ 1048576) : (callD H K V T A X).1.Upto 1048576 := by
  unfold callD
  split
  · split
    · exact ⟨hX, hu.tx, hu.l, hu.each⟩
    · exact hu
  · exact ⟨by decide, by decide, by decide, fun x hx => by cases hx⟩

/-- What spec.HostCall does. -/
def SpecCalls : Prop := ∀ (w : World) (H : Ho) (p : Option Addr) (c : Nat) (K V T A : Int) (X : ByteArray), Ous w p H.l → H.Upto 1048576 → X.size ≤ 1048576 →
  Calls Try.prog 11 #[hoV H p c, opV K V T A X] w fun r w' => ∃ p' c', r = .returned (.tuple #[hoV (callD H K V T A X).1 p' c', .bool (callD H K V T A X).2]) ∧ OusW w' w.heap.size p' (callD H K V T A X).1.l ∧ Below w.heap.size w w'

set_option maxRecDepth 100000 in
set_option maxHeartbeats 60000000 in
theorem lawHostCall (hSC : SpecCalls) (w : World) (H : Ho) (p : Option Addr) (c : Nat) (K V T A : Int) (X : ByteArray) (S : Ous w p H.l) (hh : H.Upto maxLen) (hX : X.size ≤ maxLen) :
    Calls Try.prog 4 #[hoV H p c, opV K V T A X] w fun e w' => e = .returned (.bool true) ∧ Below w.heap.size w w' := by
  have HSC := hid hSC
  clear hSC
  have HS := hid S
  have HH := hid hh
  have HXx := hid hX
  clear S hh hX
  have HV : Hid (hoV H p c = .agg #[.int .i64 H.id, .int .i64 H.ep, .bool H.up, .bool H.rd, .bool H.bz, .int .i64 H.k, .int .i64 H.v, .int .i64 H.t, .int .i64 H.a, .string H.s, .int .i64 H.pc, .int .i64 H.cd, .int .i64 H.bk, .string H.tx, .slice p H.l.length c, .int .i64 H.txn]) := rfl
  have HVo : Hid (opV K V T A X = .agg #[.int .i64 K, .int .i64 V, .int .i64 T, .int .i64 A, .string X]) := rfl
  rw [HV.out, HVo.out]
  obtain ⟨wa, hwa, ez, A0, C0, B0⟩ := two_new w [.int .i64 H.id, .int .i64 H.ep, .bool H.up, .bool H.rd, .bool H.bz, .int .i64 H.k, .int .i64 H.v, .int .i64 H.t, .int .i64 H.a, .string H.s, .int .i64 H.pc, .int .i64 H.cd, .int .i64 H.bk, .string H.tx, .slice p H.l.length c, .int .i64 H.txn] [.int .i64 K, .int .i64 V, .int .i64 T, .int .i64 A, .string X] 28 23
  have HA := hid A0
  have HC := hid C0
  have HB := hid B0
  have k0 := A0.c 0 rfl
  have k1 := A0.c 1 rfl
  have k2 := A0.c 2 rfl
  have k3 := A0.c 3 rfl
  have k4 := A0.c 4 rfl
  have k5 := A0.c 5 rfl
  have k6 := A0.c 6 rfl
  have k7 := A0.c 7 rfl
  have k8 := A0.c 8 rfl
  have k9 := A0.c 9 rfl
  have k10 := A0.c 10 rfl
  have k11 := A0.c 11 rfl
  have k12 := A0.c 12 rfl
  have k13 := A0.c 13 rfl
  have k14 := A0.c 14 rfl
  have k15 := A0.c 15 rfl
  clear A0 B0 C0 ez
  go_enter Try.func4, Try.ntmps4
  go_wp2_with fail
  try simp only [hwa]
  clear hwa
  rw [← HV.out, ← HVo.out]
  refine (szHost wa H p c 1048576 (HS.out.below HB.out) HH.out (by decide) (by decide)).mono ?_
  rintro e w1 ⟨r, rfl, b1, hf⟩
  have HA1 := hid (HA.out.below b1 HA.out.lt)
  have HC1 := hid (HC.out.below b1 HC.out.lt)
  have HB1 := hid (HB.out.trans (b1.mono HB.out.size))
  clear b1 HA HB HC k0 k1 k2 k3 k4 k5 k6 k7 k8 k9 k10 k11 k12 k13 k14 k15
  by_cases hr : r < 0
  · clear hf
    go_wp2
    go_ret
    exact ⟨rfl, HB1.out⟩
  have hf2 : 0 ≤ r ∧ r ≤ 1048576 ∧ H.Upto 1048576 := by
    rcases hf with h | h
    · omega
    · exact h
  have hr0 := hf2.1
  have hr1 := hf2.2.1
  have HU := hid hf2.2.2
  clear hf hf2
  have o0 := HC1.out.c 0 rfl
  have o1 := HC1.out.c 1 rfl
  have o2 := HC1.out.c 2 rfl
  have o3 := HC1.out.c 3 rfl
  have o4 := HC1.out.c 4 rfl
  go_wp2_with fail
  rw [← HVo.out]
  refine (szOp w1 K V T A X r HXx.out hr0 hr1).mono ?_
  rintro e w2 ⟨r2, rfl, b2, hf⟩
  have HA2 := hid (HA1.out.below b2 HA1.out.lt)
  have HC2 := hid (HC1.out.below b2 HC1.out.lt)
  have HB2 := hid (HB1.out.trans (b2.mono HB1.out.size))
  clear b2 o0 o1 o2 o3 o4 HA1 HC1 HB1
  by_cases hr2 : r2 < 0
  · clear hf
    go_wp2
    go_ret
    exact ⟨rfl, HB2.out⟩
  have hx2 : X.size ≤ 1048576 := by
    rcases hf with h | h
    · omega
    · omega
  have HX2 := hid hx2
  clear hf hx2 hr hr0 hr1
  have hRu := callD_upto (K := K) (V := V) (T := T) (A := A) HU.out HX2.out
  obtain ⟨D, hD⟩ : ∃ D, callD H K V T A X = D := ⟨_, rfl⟩
  rw [hD] at hRu
  obtain ⟨R, b⟩ := D
  have HD := hid hD
  have HRu : Hid (R.Upto 1048576) := hRu
  clear hD hRu
  have HSx := hid (HS.out.below HB2.out)
  go_upto_region 8 with fail
  refine region_three (by kernel_rfl) (by kernel_rfl) rfl rfl rfl rfl rfl rfl rfl rfl rfl rfl rfl ⟨rfl, rfl, rfl, rfl, rfl, rfl, rfl, rfl, rfl, rfl, rfl⟩ (fun d v c a w h => by cases d <;> exact h) (by decide)
    28 _ rfl w.heap.size _ _ (by intros; refine (?_ : _ = _); kernel_rfl) HA2.out Try.underlying28 rfl (by kernel_rfl)
    23 _ rfl (w.heap.size + 1) _ _ (by intros; refine (?_ : _ = _); kernel_rfl) HC2.out Try.underlying23 rfl (by kernel_rfl)
    7 _ _ rfl call_toHost (by intros; refine (?_ : _ = _); kernel_rfl) rfl 12 _ _ rfl call_toOp (by intros; refine (?_ : _ = _); kernel_rfl) rfl
    11 _ _ _ rfl call_sHostCall (by intros; refine (?_ : _ = _); kernel_rfl) (by intros; refine (?_ : _ = _); kernel_rfl) ⟨rfl, rfl⟩
    _ rfl (by intros; refine (?_ : _ = _); kernel_rfl) _ rfl (by intros; refine (?_ : _ = _); kernel_rfl) _ rfl (by intros; refine (?_ : _ = _); kernel_rfl) ⟨rfl, rfl, rfl⟩
    [.int .i64 0, .int .i64 0, .bool false, .bool false, .bool false, .int .i64 0, .int .i64 0, .int .i64 0, .int .i64 0, .string ⟨#[]⟩, .int .i64 0, .int .i64 0, .int .i64 0, .string ⟨#[]⟩, .slice none 0 0, .int .i64 0] 36 (fun ρ w => by unfold execOp; simp [go_sem]) 36 _ _ rfl (by kernel_rfl) (by intros; refine (?_ : _ = _); kernel_rfl) (by intros; refine (?_ : _ = _); kernel_rfl) _ rfl (by intros; refine (?_ : _ = _); kernel_rfl)
    (fun V w' => ∃ g, V = hoV H (some ⟨g, 0, none⟩) H.l.length ∧ Ous w' (some ⟨g, 0, none⟩) H.l) (fun V0 w' => V0 = opV K V T A X) ?_ ?_ ?_ ?_ (.bool b) (fun B cs w' => ∃ p' c', cs = hoL R p' c' ∧ OusW w' B p' R.l) (fun cs b => ∃ p' c', cs = hoL R p' c' ∧ foot p' (R.l.length * 2) b) ?_ ?_ ?_ ?_
  · rintro V0 w' w'' ⟨g, rfl, S1⟩ bb
    exact ⟨g, rfl, Sl.below S1 bb⟩
  · rintro V0 w' w'' rfl bb
    rfl
  · intro w' hb
    refine (toHost w' H p c (HSx.out.below hb) HU.out.l).mono ?_
    rintro e w6 ⟨g6, rfl, hg6, hl6, S6, b6⟩
    exact ⟨_, rfl, ⟨g6, rfl, S6.sl⟩, b6⟩
  · intro w' hb
    refine (toOp w' K V T A X).mono ?_
    rintro e w6 ⟨rfl, b6⟩
    exact ⟨_, rfl, rfl, b6⟩
  · rintro V0 V1 w' hb ⟨g, rfl, S1⟩ rfl
    refine (HSC.out w' H _ _ K V T A X S1 HU.out HX2.out).mono ?_
    rw [HD.out]
    rintro e w6 ⟨p1, c1, rfl, W1, b6⟩
    exact ⟨hoL R p1 c1, rfl, rfl, rfl, ⟨p1, c1, rfl, W1⟩, b6⟩
  · rintro B cs w' ⟨p1, c1, rfl, W1⟩ b ⟨p2, c2, e, hb⟩
    obtain rfl := hoL_inj e
    exact ⟨Wr.foot_ge W1 hb, wr_foot_lt W1 hb⟩
  · rintro B cs w' w'' Sx ⟨p1, c1, rfl, W1⟩ kk hn
    exact ⟨p1, c1, rfl, Wr.move W1 kk (fun b hb => hn b ⟨p1, c1, rfl, hb⟩)⟩
  rintro V0 V1 cs g6 B6 wo hB6 hg6 bo X6 ⟨p6, c6, rfl, W6⟩ hs6
  simp only [Act.put, List.setIfInBounds_toArray, List.set_cons_zero, List.set_cons_succ]
  have HA3 := hid (HA2.out.below bo HA2.out.lt)
  have HC3 := hid (HC2.out.below bo HC2.out.lt)
  have HB3 := hid (HB2.out.trans (bo.mono HB2.out.size))
  have HX6 := hid X6
  have HW6 := hid W6.sl
  have HS3 := hid (HS.out.below HB3.out)
  clear HA2 HC2 HB2 HSx bo X6 W6 hs6 hr2
  go_upto_region 9 with fail
  refine region_box rfl rfl rfl rfl rfl 28 _ rfl w.heap.size _ _ (by intros; refine (?_ : _ = _); kernel_rfl) HA3.out Try.underlying28 rfl (by kernel_rfl) 7 _ _ rfl call_toHost (by intros; refine (?_ : _ = _); kernel_rfl) [.int .i64 0, .int .i64 0, .bool false, .bool false, .bool false, .int .i64 0, .int .i64 0, .int .i64 0, .int .i64 0, .string ⟨#[]⟩, .int .i64 0, .int .i64 0, .int .i64 0, .string ⟨#[]⟩, .slice none 0 0, .int .i64 0] 36 (fun ρ w => by unfold execOp; simp [go_sem]) 36 _ _ rfl (by kernel_rfl) (by intros; refine (?_ : _ = _); kernel_rfl) (by intros; refine (?_ : _ = _); kernel_rfl) (fun cs w' => ∃ g, cs = hoL H (some ⟨g, 0, none⟩) H.l.length ∧ OusW w' wo.heap.size (some ⟨g, 0, none⟩) H.l) ?_ ?_
  · refine (toHost wo H p c HS3.out HU.out.l).mono ?_
    rintro e w4 ⟨g4, rfl, hg4, hl4, S4, b4⟩
    exact ⟨hoL H (some ⟨g4, 0, none⟩) H.l.length, rfl, rfl, rfl, ⟨g4, rfl, S4⟩, b4⟩
  rintro cs w7 w8 ⟨g7, rfl, P7⟩ b7 X8 B8
  simp only [Act.put, List.setIfInBounds_toArray, List.set_cons_zero, List.set_cons_succ]
  have HB8 := hid (b7.trans (B8.mono b7.size))
  have HC8 := hid (HC3.out.below HB8.out HC3.out.lt)
  have HX8 := hid X8
  have HP8 := hid (Wr.below P7 B8)
  have HF8 : Hid (∀ b, foot (some ⟨g7, 0, none⟩) (H.l.length * 2) b → b < w7.heap.size) := fun b hb => wr_foot_lt P7 hb
  have hw78 : w7.heap.size < w8.heap.size := X8.lt
  have hwo7 : wo.heap.size ≤ w7.heap.size := b7.size
  clear b7 B8 P7 X8
  go_upto_region 10 with fail
  refine region_two (by kernel_rfl) (by kernel_rfl) rfl rfl rfl rfl rfl rfl rfl rfl rfl rfl ⟨rfl, rfl, rfl, rfl, rfl, rfl, rfl, rfl, rfl, rfl⟩ (fun d v c a w h => by cases d <;> exact h) (by decide)
    36 _ rfl w7.heap.size _ _ (by intros; refine (?_ : _ = _); kernel_rfl) HX8.out Try.underlying36 rfl (by kernel_rfl)
    23 _ rfl (w.heap.size + 1) _ _ (by intros; refine (?_ : _ = _); kernel_rfl) HC8.out Try.underlying23 rfl (by kernel_rfl)
    12 _ _ rfl call_toOp (by intros; refine (?_ : _ = _); kernel_rfl) rfl
    13 _ _ _ rfl call_iHostCall (by intros; refine (?_ : _ = _); kernel_rfl) (by intros; refine (?_ : _ = _); kernel_rfl) ⟨rfl, rfl⟩
    _ rfl (by intros; refine (?_ : _ = _); kernel_rfl) _ rfl (by intros; refine (?_ : _ = _); kernel_rfl) _ rfl (by intros; refine (?_ : _ = _); kernel_rfl) ⟨rfl, rfl, rfl⟩
    [.int .i64 0, .int .i64 0, .bool false, .bool false, .bool false, .int .i64 0, .int .i64 0, .int .i64 0, .int .i64 0, .string ⟨#[]⟩, .int .i64 0, .int .i64 0, .int .i64 0, .string ⟨#[]⟩, .slice none 0 0, .int .i64 0] 36 (fun ρ w => by unfold execOp; simp [go_sem]) 36 _ _ rfl (by kernel_rfl) (by intros; refine (?_ : _ = _); kernel_rfl) (by intros; refine (?_ : _ = _); kernel_rfl) _ rfl (by intros; refine (?_ : _ = _); kernel_rfl)
    (fun V0 w' => V0 = opV K V T A X) ?_ ?_ (.bool b) (fun B cs w' => ∃ p' c', cs = hoL R p' c' ∧ OusW w' B p' R.l) (fun cs b => ∃ p' c', cs = hoL R p' c' ∧ foot p' (R.l.length * 2) b) ?_ ?_ ?_ ?_
  · rintro V0 w' w'' rfl bb
    rfl
  · intro w' hb
    refine (toOp w' K V T A X).mono ?_
    rintro e w6 ⟨rfl, b6⟩
    exact ⟨_, rfl, rfl, b6⟩
  · rintro V1 w' hb rfl
    refine (iHostCall w' H _ _ K V T A X (Sl.below HP8.out.sl hb) HU.out HX2.out).mono ?_
    rw [HD.out]
    rintro e w6 ⟨p1, c1, rfl, W1, b6⟩
    exact ⟨hoL R p1 c1, rfl, rfl, rfl, ⟨p1, c1, rfl, W1⟩, b6⟩
  · rintro B cs w' ⟨p1, c1, rfl, W1⟩ b ⟨p2, c2, e, hb⟩
    obtain rfl := hoL_inj e
    exact ⟨Wr.foot_ge W1 hb, wr_foot_lt W1 hb⟩
  · rintro B cs w' w'' Sx ⟨p1, c1, rfl, W1⟩ kk hn
    exact ⟨p1, c1, rfl, Wr.move W1 kk (fun b hb => hn b ⟨p1, c1, rfl, hb⟩)⟩
  rintro V1' cs g9 B9 wp hB9 hg9 bp X9 ⟨p9, c9, rfl, W9⟩ hs9
  simp only [Act.put, List.setIfInBounds_toArray, List.set_cons_zero, List.set_cons_succ]
  have HN9 : Hid (∀ b, foot p9 (R.l.length * 2) b → b ≠ g9) := fun b hb => hs9 b ⟨p9, c9, rfl, hb⟩
  have HX9 := hid X9
  have HW9 := hid W9
  have HBp := hid bp
  have HBo := hid (HB8.out.trans (bp.mono HB8.out.size))
  have HX8p := hid (HX8.out.below bp HX8.out.lt)
  have HP8p := hid (Wr.below HP8.out bp)
  have hsp : w8.heap.size ≤ wp.heap.size := bp.size
  clear bp X9 W9 hs9 HX8 HP8 HC8
  go_upto_region 11 with fail
  refine wp_region_list ?_
  refine wpList_load_row rfl 36 _ rfl (g9) (by intros; refine (?_ : _ = _); kernel_rfl) _ _ HX9.out Try.underlying36 rfl (by kernel_rfl) ?_
  refine wpList_load_row rfl 36 _ rfl (g6) (by intros; refine (?_ : _ = _); kernel_rfl) _ _ (HX6.out.below HBo.out HX6.out.lt) Try.underlying36 rfl (by kernel_rfl) ?_
  refine wpList_call rfl 9 _ _ rfl #[hoV R p9 c9, hoV R p6 c6] (by simp only [List.map_toArray, List.map_cons, List.map_nil]; refine (?_ : _ = _); kernel_rfl) call_eqHost ((eqHost wp R p9 p6 c9 c6 HW9.out.sl (Sl.below HW6.out HBo.out) HRu.out.max.l).mono ?_)
  rintro e w10 ⟨rfl, bq⟩
  refine ⟨_, rfl, ?_⟩
  simp only [Act.put, List.setIfInBounds_toArray, List.set_cons_zero, List.set_cons_succ]
  have HX9q := hid (HX9.out.below bq HX9.out.lt)
  have HW9q := hid (Wr.below HW9.out bq)
  have HX8q := hid (HX8p.out.below bq HX8p.out.lt)
  have HP8q := hid (Wr.below HP8p.out bq)
  have HBoq := hid (HBo.out.trans (bq.mono HBo.out.size))
  have HA10 := hid (HA3.out.below HBoq.out HA3.out.lt)
  have HS10 := hid (HS3.out.below HBoq.out)
  have hs10 : wp.heap.size ≤ w10.heap.size := bq.size
  clear bq HX9 HW9 HX8p HP8p HBo
  go_upto_region 13 with fail
  refine region_eq (by kernel_rfl) rfl rfl rfl rfl rfl rfl rfl rfl rfl rfl rfl (by kernel_rfl) (by kernel_rfl) (by kernel_rfl) (by kernel_rfl) (by kernel_rfl) (by kernel_rfl) (by kernel_rfl) (by kernel_rfl) (by kernel_rfl) (fun _ _ _ _ h => h) (fun _ _ _ _ h => h)
    36 _ rfl w7.heap.size _ _ (by intros; refine (?_ : _ = _); kernel_rfl) HX8q.out Try.underlying36 rfl (by kernel_rfl)
    28 _ rfl w.heap.size _ _ (by intros; refine (?_ : _ = _); kernel_rfl) HA10.out Try.underlying28 rfl (by kernel_rfl)
    7 _ _ rfl call_toHost (by intros; refine (?_ : _ = _); kernel_rfl) 9 _ _ _ rfl call_eqHost (by intros; refine (?_ : _ = _); kernel_rfl) (by intros; refine (?_ : _ = _); kernel_rfl) 4 _ rfl (by intros; refine (?_ : _ = _); kernel_rfl)
    (fun V w' => ∃ g, V = hoV H (some ⟨g, 0, none⟩) H.l.length ∧ Ous w' (some ⟨g, 0, none⟩) H.l) ?_ ?_ ?_
  · intro w' hb
    refine (toHost w' H p c (HS10.out.below hb) HU.out.l).mono ?_
    rintro e w6 ⟨g6', rfl, hg6', hl6, S6, b6⟩
    exact ⟨_, rfl, ⟨g6', rfl, S6.sl⟩, b6⟩
  · rintro V w' hb ⟨g6', rfl, S6⟩
    exact eqHost w' H _ _ _ _ (Sl.below HP8q.out.sl hb) S6 HU.out.max.l
  intro Vq w12 b12
  simp only [Act.put, List.setIfInBounds_toArray, List.set_cons_zero, List.set_cons_succ]
  have HX9r := hid (HX9q.out.below b12 HX9q.out.lt)
  have HW9r := hid (Wr.below HW9q.out b12)
  have HX8r := hid (HX8q.out.below b12 HX8q.out.lt)
  have HP8r := hid (Wr.below HP8q.out b12)
  have HBor := hid (HBoq.out.trans (b12.mono HBoq.out.size))
  have hs12 : w10.heap.size ≤ w12.heap.size := b12.size
  clear b12 HX9q HW9q HX8q HP8q HBoq HA10 HS10
  have hmH : 1 + H.l.length * 2 ≤ 4194304 := by have := HU.out.l; omega
  have hmR : 1 + R.l.length * 2 ≤ 4194304 := by have := HRu.out.l; omega
  go_upto_region 16 with fail
  refine wp_region_list ?_
  refine wpList_load_row rfl 36 _ rfl (w7.heap.size) (by intros; refine (?_ : _ = _); kernel_rfl) _ _ HX8r.out Try.underlying36 rfl (by kernel_rfl) ?_
  simp only [Act.put, List.setIfInBounds_toArray, List.set_cons_zero, List.set_cons_succ]
  go_wp2_with fail
  refine (markHost2 w12 wo.heap.size H (some ⟨g7, 0, none⟩) H.l.length 1 _ HP8r.out (by omega) (by decide) hmH).mono ?_
  rintro e w13 ⟨rfl, P13, K13⟩
  have HX9s := hid (HX9r.out.kept K13 (fun hb => by have := HF8.out _ hb; omega))
  have HW9s := hid (Wr.move HW9r.out K13 (fun b hb hf => by have := HF8.out _ hf; have := Wr.foot_ge HW9r.out hb; omega))
  have HBos := hid (HBor.out.trans (K13.below (by omega) (fun b hb hf => by have := Wr.foot_ge HP8r.out hf; omega)))
  have hs13 : w12.heap.size ≤ w13.heap.size := K13.size
  have HX6s := hid (HX6.out.below HBos.out HX6.out.lt)
  have HW6s := hid (Sl.below HW6.out HBos.out)
  clear P13 K13 HX9r HW9r HX8r HP8r HBor
  generalize hT7 : 1 + H.l.length * 2 = T7
  have hT70 : ¬ (T7 : Int) < 0 := by omega
  clear hT7
  go_upto_region 17 with fail
  refine wp_region_list ?_
  refine wpList_step (fun K' hK => ?_)
  go_simp
  refine hK _ _ ?_
  clear hK K'
  refine wpList_step (fun K' hK => ?_)
  go_simp
  refine hK _ _ ?_
  clear hK K'
  refine wpList_step (fun K' hK => ?_)
  go_simp
  refine hK _ _ ?_
  clear hK K'
  refine wpList_load_rowG (by kernel_rfl) 36 _ rfl (g9) (by intros; refine (?_ : _ = _); kernel_rfl) _ _ HX9s.out Try.underlying36 rfl (by kernel_rfl) ?_
  refine wpList_load_rowG (by kernel_rfl) 36 _ rfl (g6) (by intros; refine (?_ : _ = _); kernel_rfl) _ _ HX6s.out Try.underlying36 rfl (by kernel_rfl) ?_
  refine wpList_callG (by kernel_rfl) 9 _ _ rfl #[hoV R p9 c9, hoV R p6 c6] (by simp only [List.map_toArray, List.map_cons, List.map_nil]; refine (?_ : _ = _); kernel_rfl) call_eqHost ((eqHost w13 R p9 p6 c9 c6 HW9s.out.sl HW6s.out HRu.out.max.l).mono ?_)
  rintro e w14 ⟨rfl, bq⟩
  refine ⟨_, rfl, ?_⟩
  simp only [Act.put, List.setIfInBounds_toArray, List.set_cons_zero, List.set_cons_succ]
  have HX9t := hid (HX9s.out.below bq HX9s.out.lt)
  have HW9t := hid (Wr.below HW9s.out bq)
  have HBot := hid (HBos.out.trans (bq.mono HBos.out.size))
  have hs14 : w13.heap.size ≤ w14.heap.size := bq.size
  clear bq HX9s HW9s HBos HX6s HW6s
  go_upto_region 20 with fail
  refine wp_region_list ?_
  refine wpList_load_row rfl 36 _ rfl (g9) (by intros; refine (?_ : _ = _); kernel_rfl) _ _ HX9t.out Try.underlying36 rfl (by kernel_rfl) ?_
  simp only [Act.put, List.setIfInBounds_toArray, List.set_cons_zero, List.set_cons_succ]
  go_wp2_with fail
  refine (markHost2 w14 w8.heap.size R p9 c9 1 _ (HW9t.out.mono hB9) (by omega) (by decide) hmR).mono ?_
  rintro e w15 ⟨rfl, P15, K15⟩
  have HX9u := hid (HX9t.out.kept K15 (fun hb => HN9.out _ hb rfl))
  have HW9u := hid P15.sl
  have HBou := hid (HBot.out.trans (K15.below (by omega) (fun b hb hf => by have := Wr.foot_ge HW9t.out hf; omega)))
  have hs15 : w14.heap.size ≤ w15.heap.size := K15.size
  clear P15 K15 HX9t HW9t HBot
  generalize hTn : 1 + R.l.length * 2 = Tn
  have HTq := hid hTn
  have hTn0 : ¬ (Tn : Int) < 0 := by omega
  clear hTn
  go_upto_region 22 with fail
  refine wp_region_list ?_
  refine wpList_load_row rfl 36 _ rfl (g9) (by intros; refine (?_ : _ = _); kernel_rfl) _ _ HX9u.out Try.underlying36 rfl (by kernel_rfl) ?_
  simp only [Act.put, List.setIfInBounds_toArray, List.set_cons_zero, List.set_cons_succ]
  go_wp2_with fail
  refine (heldHost2 w15 R p9 c9 1 HW9u.out (by decide) hmR).mono ?_
  rintro e w16 ⟨rfl, b16⟩
  rw [HTq.out]
  have HX9v := hid (HX9u.out.below b16 HX9u.out.lt)
  have HW9v := hid (Sl.below HW9u.out b16)
  have HBov := hid (HBou.out.trans (b16.mono HBou.out.size))
  have HA16 := hid (HA3.out.below HBov.out HA3.out.lt)
  have HC16 := hid (HC3.out.below HBov.out HC3.out.lt)
  have HS16 := hid (HS3.out.below HBov.out)
  clear b16 HX9u HW9u HBou
  go_upto_region 27 with fail
  refine region_three (by kernel_rfl) (by kernel_rfl) rfl rfl rfl rfl rfl rfl rfl rfl rfl rfl rfl ⟨rfl, rfl, rfl, rfl, rfl, rfl, rfl, rfl, rfl, rfl, rfl⟩ (fun d v c a w h => by cases d <;> exact h) (by decide)
    28 _ rfl w.heap.size _ _ (by intros; refine (?_ : _ = _); kernel_rfl) HA16.out Try.underlying28 rfl (by kernel_rfl)
    23 _ rfl (w.heap.size + 1) _ _ (by intros; refine (?_ : _ = _); kernel_rfl) HC16.out Try.underlying23 rfl (by kernel_rfl)
    7 _ _ rfl call_toHost (by intros; refine (?_ : _ = _); kernel_rfl) rfl 12 _ _ rfl call_toOp (by intros; refine (?_ : _ = _); kernel_rfl) rfl
    13 _ _ _ rfl call_iHostCall (by intros; refine (?_ : _ = _); kernel_rfl) (by intros; refine (?_ : _ = _); kernel_rfl) ⟨rfl, rfl⟩
    _ rfl (by intros; refine (?_ : _ = _); kernel_rfl) _ rfl (by intros; refine (?_ : _ = _); kernel_rfl) _ rfl (by intros; refine (?_ : _ = _); kernel_rfl) ⟨rfl, rfl, rfl⟩
    [.int .i64 0, .int .i64 0, .bool false, .bool false, .bool false, .int .i64 0, .int .i64 0, .int .i64 0, .int .i64 0, .string ⟨#[]⟩, .int .i64 0, .int .i64 0, .int .i64 0, .string ⟨#[]⟩, .slice none 0 0, .int .i64 0] 36 (fun ρ w => by unfold execOp; simp [go_sem]) 36 _ _ rfl (by kernel_rfl) (by intros; refine (?_ : _ = _); kernel_rfl) (by intros; refine (?_ : _ = _); kernel_rfl) _ rfl (by intros; refine (?_ : _ = _); kernel_rfl)
    (fun V w' => ∃ g, V = hoV H (some ⟨g, 0, none⟩) H.l.length ∧ Ous w' (some ⟨g, 0, none⟩) H.l) (fun V0 w' => V0 = opV K V T A X) ?_ ?_ ?_ ?_ (.bool b) (fun B cs w' => ∃ p' c', cs = hoL R p' c' ∧ OusW w' B p' R.l) (fun cs b => ∃ p' c', cs = hoL R p' c' ∧ foot p' (R.l.length * 2) b) ?_ ?_ ?_ ?_
  · rintro V0 w' w'' ⟨g, rfl, S1⟩ bb
    exact ⟨g, rfl, Sl.below S1 bb⟩
  · rintro V0 w' w'' rfl bb
    rfl
  · intro w' hb
    refine (toHost w' H p c (HS16.out.below hb) HU.out.l).mono ?_
    rintro e w6 ⟨g6, rfl, hg6, hl6, S6, b6⟩
    exact ⟨_, rfl, ⟨g6, rfl, S6.sl⟩, b6⟩
  · intro w' hb
    refine (toOp w' K V T A X).mono ?_
    rintro e w6 ⟨rfl, b6⟩
    exact ⟨_, rfl, rfl, b6⟩
  · rintro V0 V1 w' hb ⟨g, rfl, S1⟩ rfl
    refine (iHostCall w' H _ _ K V T A X S1 HU.out HX2.out).mono ?_
    rw [HD.out]
    rintro e w6 ⟨p1, c1, rfl, W1, b6⟩
    exact ⟨hoL R p1 c1, rfl, rfl, rfl, ⟨p1, c1, rfl, W1⟩, b6⟩
  · rintro B cs w' ⟨p1, c1, rfl, W1⟩ b ⟨p2, c2, e, hb⟩
    obtain rfl := hoL_inj e
    exact ⟨Wr.foot_ge W1 hb, wr_foot_lt W1 hb⟩
  · rintro B cs w' w'' Sx ⟨p1, c1, rfl, W1⟩ kk hn
    exact ⟨p1, c1, rfl, Wr.move W1 kk (fun b hb => hn b ⟨p1, c1, rfl, hb⟩)⟩
  rintro V0 V1 cs g14 B14 wq hB14 hg14 b17 X14 ⟨p14, c14, rfl, W14⟩ hs14'
  simp only [Act.put, List.setIfInBounds_toArray, List.set_cons_zero, List.set_cons_succ]
  have HBow := hid (HBov.out.trans (b17.mono HBov.out.size))
  have HX9w := hid (HX9v.out.below b17 HX9v.out.lt)
  have HW9w := hid (Sl.below HW9v.out b17)
  have HX14 := hid X14
  have HW14 := hid W14.sl
  have HX6w := hid (HX6.out.below HBow.out HX6.out.lt)
  have HW6w := hid (Sl.below HW6.out HBow.out)
  clear b17 X14 W14 hs14' HX9v HW9v HBov HA16 HC16 HS16
  go_upto_region 28 with fail
  refine wp_region_list ?_
  refine wpList_load_row rfl 36 _ rfl (g14) (by intros; refine (?_ : _ = _); kernel_rfl) _ _ HX14.out Try.underlying36 rfl (by kernel_rfl) ?_
  refine wpList_load_row rfl 36 _ rfl (g6) (by intros; refine (?_ : _ = _); kernel_rfl) _ _ HX6w.out Try.underlying36 rfl (by kernel_rfl) ?_
  refine wpList_call rfl 9 _ _ rfl #[hoV R p14 c14, hoV R p6 c6] (by simp only [List.map_toArray, List.map_cons, List.map_nil]; refine (?_ : _ = _); kernel_rfl) call_eqHost ((eqHost wq R p14 p6 c14 c6 HW14.out HW6w.out HRu.out.max.l).mono ?_)
  rintro e w18 ⟨rfl, bq⟩
  refine ⟨_, rfl, ?_⟩
  simp only [Act.put, List.setIfInBounds_toArray, List.set_cons_zero, List.set_cons_succ]
  have HX9x := hid (HX9w.out.below bq HX9w.out.lt)
  have HW9x := hid (Sl.below HW9w.out bq)
  have HBox := hid (HBow.out.trans (bq.mono HBow.out.size))
  clear bq HX9w HW9w HBow HX6w HW6w HX14 HW14
  go_upto_region 31 with fail
  refine wp_region_list ?_
  refine wpList_load_row rfl 36 _ rfl (g9) (by intros; refine (?_ : _ = _); kernel_rfl) _ _ HX9x.out Try.underlying36 rfl (by kernel_rfl) ?_
  simp only [Act.put, List.setIfInBounds_toArray, List.set_cons_zero, List.set_cons_succ]
  go_wp2_with fail
  refine (heldHost2 w18 R p9 c9 1 HW9x.out (by decide) hmR).mono ?_
  rintro e w19 ⟨rfl, b19⟩
  rw [HTq.out]
  have HBoy := hid (HBox.out.trans (b19.mono HBox.out.size))
  clear b19
  go_wp2
  go_ret
  exact ⟨rfl, HB3.out.trans (HBoy.out.mono HB3.out.size)⟩

end Go.Proofs.Ytllgjoflhjnnaaa.Pl
