/-
  The walk of impl.poolOf: the program's volumes told as a pool, all lists new. No condition but at most 2^20 volumes.
-/
import Derived.Test.YtbnpnhcegoanmaaPpIv
import Derived.Test.YtbnpnhcegoanmaaPpGr
namespace Go.Proofs.Ytbnpnhcegoanmaa.Pl
open Go.RowKit Go.Proofs.Ytbnpnhcegoanmaa.Mem
set_option linter.unusedVariables false

abbrev Iv := Bool × (Nat → Bool) × (Nat → ByteArray)
def Iv.none : Iv := (false, fun _ => false, fun _ => ⟨#[]⟩)
/-- What a volume holds, as lists. -/
def ivData (d : Iv) : Bool × List Bool × List ByteArray := (d.1, (List.range 4).map d.2.1, (List.range 4).map d.2.2)

/-- Volumes behind pointers. -/
structure Ivs (w : World) (a : Option Addr) (G : List Nat) (D : List Iv) : Prop where
  len : G.length = D.length
  row : Sl w a G.length (fun i => .pointer (some ⟨G.getD i 0, 0, none⟩))
  each : ∀ i, i < G.length → Row w (G.getD i 0) (ivR (D.getD i Iv.none).1 (D.getD i Iv.none).2.1 (D.getD i Iv.none).2.2)
theorem Ivs.below {w w' : World} {a : Option Addr} {G : List Nat} {D : List Iv} (h : Ivs w a G D) (k : Below w.heap.size w w') : Ivs w' a G D :=
  ⟨h.len, h.row.below k, fun i hi => (h.each i hi).below k (h.each i hi).lt⟩

/-- A volume that is being told: its box, and its two lists so far. -/
structure Inn (wz : World) (on : Bool) (vh vt : Value) (hs : List Bool) (ts : List ByteArray) (w : World) : Prop where
  bel : Below wz.heap.size wz w
  box : Row w wz.heap.size [.bool on, vh, vt]
  r1 : RowO w (wz.heap.size + 1) 4 1 vh hs.length (hs.map .bool)
  r2 : RowO w (wz.heap.size + 1) 9 1 vt ts.length (ts.map .string)
  ap : ∀ b, rb vh = some b → ¬ rb vt = some b
  ge : wz.heap.size + 1 ≤ w.heap.size

theorem Inn.below {wz : World} {on : Bool} {vh vt : Value} {hs : List Bool} {ts : List ByteArray} {w w' : World} (h : Inn wz on vh vt hs ts w) (k : Below w.heap.size w w') : Inn wz on vh vt hs ts w' :=
  ⟨h.bel.trans (k.mono h.bel.size), h.box.below k h.box.lt, RowO.below h.r1 k, RowO.below h.r2 k, h.ap, Nat.le_trans h.ge k.size⟩
theorem Inn.alloc {wz : World} {on : Bool} {vh vt : Value} {hs : List Bool} {ts : List ByteArray} {w : World} (h : Inn wz on vh vt hs ts w) (o : Obj) : Inn wz on vh vt hs ts (w.alloc o) := h.below ((Below.refl _ _).alloc (Nat.le_refl _) o)

theorem Inn.moreH {wz : World} {on : Bool} {vh vt vh' : Value} {hs : List Bool} {ts : List ByteArray} {w w1 : World} {q : Bool} (h : Inn wz on vh vt hs ts w)
    (r : RowO w1 (wz.heap.size + 1) 4 1 vh' (hs.length + 1) (hs.map .bool ++ [.bool q])) (k : Kept (fun b => rb vh = some b) w w1) (t : rb vh' = none ∨ rb vh' = rb vh ∨ (rb vh' = some w.heap.size ∧ w.heap.size < w1.heap.size)) :
    Row w1 wz.heap.size [.bool on, vh, vt] ∧ Inn wz on vh' vt (hs ++ [q]) ts (w1.setCell ⟨wz.heap.size, 1, none⟩ vh') := by
  have hge : ∀ b, rb vh = some b → wz.heap.size + 1 ≤ b := fun b e => (RowO.lt h.r1 e).1
  have b1 : Row w1 wz.heap.size [.bool on, vh, vt] := h.box.kept k (fun e => by have := hge _ e; omega)
  have hb : Below wz.heap.size wz w1 := h.bel.trans (k.below h.bel.size (fun b hb e => by have := hge _ e; omega))
  have ks := kept_set w1 wz.heap.size 1 vh'
  refine ⟨b1, below_set hb wz.heap.size 1 vh' (Nat.le_refl _), b1.set 1 vh', ?_, ?_, fun b e1 e2 => ?_, ?_⟩
  · have := RowO.kept r ks (fun b e1 e2 => by have := (RowO.lt r e1).1; omega)
    simpa using this
  · refine RowO.kept (RowO.kept h.r2 k (fun b e1 e2 => h.ap b e2 e1)) ks (fun b e1 e2 => by have := (RowO.lt h.r2 e1).1; omega)
  · have h2 := (RowO.lt h.r2 e2).2
    rcases t with t | t | ⟨t, _⟩
    · rw [t] at e1; cases e1
    · rw [t] at e1; exact h.ap b e1 e2
    · rw [t] at e1; cases e1; omega
  · have := h.ge
    have := k.size
    simp
    omega

theorem Inn.moreT {wz : World} {on : Bool} {vh vt vt' : Value} {hs : List Bool} {ts : List ByteArray} {w w1 : World} {q : ByteArray} (h : Inn wz on vh vt hs ts w)
    (r : RowO w1 (wz.heap.size + 1) 9 1 vt' (ts.length + 1) (ts.map .string ++ [.string q])) (k : Kept (fun b => rb vt = some b) w w1) (t : rb vt' = none ∨ rb vt' = rb vt ∨ (rb vt' = some w.heap.size ∧ w.heap.size < w1.heap.size)) :
    Row w1 wz.heap.size [.bool on, vh, vt] ∧ Inn wz on vh vt' hs (ts ++ [q]) (w1.setCell ⟨wz.heap.size, 2, none⟩ vt') := by
  have hge : ∀ b, rb vt = some b → wz.heap.size + 1 ≤ b := fun b e => (RowO.lt h.r2 e).1
  have b1 : Row w1 wz.heap.size [.bool on, vh, vt] := h.box.kept k (fun e => by have := hge _ e; omega)
  have hb : Below wz.heap.size wz w1 := h.bel.trans (k.below h.bel.size (fun b hb e => by have := hge _ e; omega))
  have ks := kept_set w1 wz.heap.size 2 vt'
  refine ⟨b1, below_set hb wz.heap.size 2 vt' (Nat.le_refl _), b1.set 2 vt', ?_, ?_, fun b e1 e2 => ?_, ?_⟩
  · refine RowO.kept (RowO.kept h.r1 k (fun b e1 e2 => h.ap b e1 e2)) ks (fun b e1 e2 => by have := (RowO.lt h.r1 e1).1; omega)
  · have := RowO.kept r ks (fun b e1 e2 => by have := (RowO.lt r e1).1; omega)
    simpa using this
  · have h2 := (RowO.lt h.r1 e1).2
    rcases t with t | t | ⟨t, _⟩
    · rw [t] at e2; cases e2
    · rw [t] at e2; exact h.ap b e1 e2
    · rw [t] at e2; cases e2; omega
  · have := h.ge
    have := k.size
    simp
    omega

/-- A volume that is told: its value. -/
theorem Inn.two {wz : World} {on : Bool} {vh vt : Value} {hs : List Bool} {ts : List ByteArray} {w : World} (h : Inn wz on vh vt hs ts w) : ∃ x : Pv, x.data = (on, hs, ts) ∧ x.cells = [.bool on, vh, vt] ∧ Two (wz.heap.size + 1) x w := by
  obtain ⟨a1, c1, rfl, w1⟩ := h.r1.wr
  obtain ⟨a2, c2, rfl, w2⟩ := h.r2.wr
  refine ⟨⟨on, a1, c1, hs, a2, c2, ts⟩, rfl, rfl, ?_, ?_, fun b e1 e2 => ?_⟩
  · unfold BlsW
    simp only [Nat.mul_one] at w1
    exact w1.congr (fun i hi => by simp [List.getD, hi])
  · unfold StrsW
    simp only [Nat.mul_one] at w2
    exact w2.congr (fun i hi => by simp [List.getD, hi])
  · exact h.ap b (RowO.foot h.r1 rfl (by simpa using e1)) (RowO.foot h.r2 rfl (by simpa using e2))

theorem range_more {X : Type} (f : Nat → X) (k : Nat) : (List.range k).map f ++ [f k] = (List.range (k + 1)).map f := by rw [List.range_succ, List.map_append]; rfl

set_option maxRecDepth 100000 in
set_option maxHeartbeats 4000000 in
theorem poolOf (w : World) (a : Option Addr) (cap : Nat) (G : List Nat) (D : List Iv) (S : Ivs w a G D) (hl : G.length ≤ 1048575) :
    Calls Try.prog 24 #[.slice a G.length cap] w fun r w' => ∃ a' cap' M, r = .returned (plV a' (M : List Pv).length cap') ∧ PvsW w' w.heap.size a' M ∧ M.map Pv.data = D.map ivData ∧ Below w.heap.size w w' := by
  have HS := hid S
  clear S
  obtain ⟨wa, hwa, ez, A0, C0, B0⟩ := two_new w [.slice none 0 0] [.slice none 0 0] 26 26
  have HA := hid A0
  have HC := hid C0
  have HB := hid B0
  have HZ := hid ez
  clear A0 B0 C0 ez
  go_enter Try.func24, Try.ntmps24
  go_wp2
  try simp only [hwa]
  clear hwa
  go_loopw [11] (fun i wr => ∃ (k : Nat) (M : List Pv) (v : Value), k ≤ G.length ∧ i = .int .i64 (k : Int) ∧ Hid (M.length = k) ∧ Hid (M.map Pv.data = (D.take k).map ivData) ∧ Hid (Row wr (w.heap.size + 1) [v]) ∧ Hid (Row wr w.heap.size [.slice none 0 0]) ∧ Hid (Grw (w.heap.size + 2) M v wr) ∧ Hid (Below w.heap.size w wr)) (fun i _ => G.length - (intOf i).toNat)
  case atStart => exact ⟨0, [], .slice none 0 0, Nat.zero_le _, rfl, rfl, rfl, HC, HA, grw_none _ _ _ (by have := HZ.out; omega), HB⟩
  case round =>
    obtain ⟨k, M, v, hk, rfl, HN, HD, HO, HR, HG, HW⟩ := hrel
    clear HA HC HB HZ
    obtain ⟨wz, hwz⟩ : ∃ wz, wz = wr := ⟨_, rfl⟩
    subst hwz
    by_cases hlt : k < G.length
    · obtain ⟨b, off, rfl, c0⟩ := (HS.out.below HW.out).row k hlt
      have R := (HS.out.below HW.out).each k hlt
      have hdx : (D.take (k + 1)).map ivData = (D.take k).map ivData ++ [ivData (D.getD k Iv.none)] := by
        have hk2 : k < D.length := by rw [← HS.out.len]; exact hlt
        rw [List.take_add_one, List.map_append, List.getElem?_eq_getElem hk2]
        simp only [Option.toList_some, List.map_cons, List.map_nil, List.getD, List.getElem?_eq_getElem hk2, Option.getD_some]
      replace c0 : wz.cell? ⟨b, off + k, none⟩ = some (.pointer (some ⟨G.getD k 0, 0, none⟩)) := c0
      generalize G.getD k 0 = g at c0 R
      generalize D.getD k Iv.none = d at R hdx
      obtain ⟨on, h, t⟩ := d
      have HDx := hid hdx
      simp only [] at R
      have q0 := R.c 0 rfl
      have q1 := R.c 1 rfl
      have q2 := R.c 2 rfl
      have q3 := R.c 3 rfl
      have q4 := R.c 4 rfl
      have q5 := R.c 5 rfl
      have q6 := R.c 6 rfl
      have q7 := R.c 7 rfl
      have q8 := R.c 8 rfl
      have hgl := R.lt
      obtain ⟨wb, hwb, eb, A1, B1⟩ := one_new wz [.bool on, .slice none 0 0, .slice none 0 0] 67
      have HI : Hid (Inn wz on (.slice none 0 0) (.slice none 0 0) [] [] wb) := ⟨B1, A1, Or.inl ⟨none, rfl, rfl, rfl⟩, Or.inl ⟨none, rfl, rfl, rfl⟩, (fun b e => by cases e), by omega⟩
      have HWb := hid hwb
      clear R A1 B1 eb hdx hwb
      go_wp2
      have hwb := HWb.out
      try simp only [hwb]
      clear hwb HWb q0 q1 q2 q3 q4 q5 q6 q7 q8 c0 hgl
      go_loopw [24] (fun i w5 => ∃ (j : Nat) (vh vt : Value), j ≤ 4 ∧ i = .int .i64 (j : Int) ∧ Hid (Inn wz on vh vt ((List.range j).map h) ((List.range j).map t) w5)) (fun i _ => 4 - (intOf i).toNat)
      case atStart => exact ⟨0, .slice none 0 0, .slice none 0 0, Nat.zero_le _, rfl, HI⟩
      case round =>
        obtain ⟨j, vh, vt, hj, rfl, HJ⟩ := hrel
        clear HI
        by_cases hj4 : j < 4
        · have hix := index_pl h t j hj4
          have HE1 := hid (range_more h j)
          have HE2 := hid (range_more t j)
          have hln1 : ((List.range j).map h).length + 1 ≤ 1048576 := by simp; omega
          have hln2 : ((List.range j).map t).length + 1 ≤ 1048576 := by simp; omega
          generalize (List.range j).map h = hs at *
          generalize (List.range j).map t = ts at *
          generalize h j = hx at *
          generalize t j = tx at *
          obtain ⟨wt, hwt, et, T0, BT⟩ := one_new wr [.bool hx, .string tx] 71
          have HJt := hid (HJ.out.below BT)
          have HT := hid T0
          have x0 := HJt.out.box.c 0 rfl
          have x1 := HJt.out.box.c 1 rfl
          have x2 := HJt.out.box.c 2 rfl
          have t0 := T0.c 0 rfl
          have t1 := T0.c 1 rfl
          have htb : wr.heap.size < wt.heap.size := by omega
          have hzb : wz.heap.size < wr.heap.size := HJ.out.box.lt
          have HTl : Hid (∀ b, rb vh = some b → b < wr.heap.size) := fun b e => (RowO.lt HJ.out.r1 e).2
          clear T0 BT et HJ
          go_wp2_with (at_builtin; first
            | (refine wpList_app 64 4 (.bool false) 1 1 Try.underlying64 infoBl rfl (by decide) (by decide) _ rfl (.tmp 28) (.tmp 31) rfl (wz.heap.size + 1) _ hs.length (hs.map .bool) rfl (HJt.out.alloc _).r1 ⟨wt.heap.size, 0, none⟩ 1 1 [.bool hx] rfl rfl (sl_cells wt [.bool hx] 4 1 rfl) (by intro u hu; simp at hu; subst hu; rfl) hln1 (HJt.out.alloc _).ge ?_; intro v1 w1 r1 kk tri; obtain ⟨pa, ca, ea, _⟩ := r1.wr; subst ea; have HM := hid ((HJt.out.alloc _).moreH r1 kk tri); have HTn : Hid (Row (w1.setCell ⟨wz.heap.size, 1, none⟩ (.slice pa (hs.length + 1) ca)) wr.heap.size [.bool hx, .string tx]) := ((HT.out.alloc _).kept kk (fun e => by have := HTl.out _ e; omega)).other (p := ⟨wz.heap.size, 1, none⟩) (by show wr.heap.size ≠ wz.heap.size; omega) _; have y1 := HM.out.1.c 1 rfl; have yf := HM.out.1.f 1; obtain ⟨ws, hws⟩ : ∃ ws, w1.setCell ⟨wz.heap.size, 1, none⟩ (.slice pa (hs.length + 1) ca) = ws := ⟨_, rfl⟩; have HI2 := hid HM.out.2; rw [hws] at HI2 HTn; have s2 := HI2.out.box.c 2 rfl; have u1 := HTn.out.c 1 rfl; clear HM r1 kk tri x0 x1 x2 t0 t1)
            | (refine wpList_app 65 9 (.string ByteArray.empty) 1 16 Try.underlying65 info9 rfl (by decide) (by decide) _ rfl (.tmp 35) (.tmp 38) rfl (wz.heap.size + 1) _ ts.length (ts.map .string) rfl (HI2.out.alloc _).r2 ⟨ws.heap.size, 0, none⟩ 1 1 [.string tx] rfl rfl (sl_cells ws [.string tx] 9 1 rfl) (by intro u hu; simp at hu; subst hu; rfl) hln2 (HI2.out.alloc _).ge ?_; intro v2 w2 r2 kk2 tri2; obtain ⟨pb, cb, eb2, _⟩ := r2.wr; subst eb2; have HM2 := hid ((HI2.out.alloc _).moreT r2 kk2 tri2); have y2 := HM2.out.1.c 2 rfl; have yf2 := HM2.out.1.f 2; clear r2 kk2 tri2 s2 u1))
          exact ⟨⟨j + 1, _, _, by omega, by go_num, by rw [← HE1.out, ← HE2.out]; exact HM2.out.2⟩, by simp [intOf]; omega⟩
        · obtain rfl : j = 4 := by omega
          obtain ⟨x, hxd, hxc, hx2⟩ := HJ.out.two
          have HX2 := hid hx2
          have HXd := hid hxd
          have HXc := hid hxc
          have HGr := hid (HG.out.below HJ.out.bel)
          have HOr := hid (HO.out.below HJ.out.bel HO.out.lt)
          have HRr := hid (HR.out.below HJ.out.bel HR.out.lt)
          have HWr := hid (HW.out.trans (HJ.out.bel.mono HW.out.size))
          have y0 := HJ.out.box.c 0 rfl
          have y1 := HJ.out.box.c 1 rfl
          have y2 := HJ.out.box.c 2 rfl
          have o0 := HOr.out.c 0 rfl
          have hml : M.length + 1 ≤ 1048576 := by have := HN.out; omega
          have hzs : wz.heap.size ≤ wz.heap.size + 1 := by omega
          have HZs := hid hzs
          have HJb := hid HJ.out.bel
          clear hx2 hxd hxc HJ hj hj4 hzs
          go_wp2_with (at_builtin; refine wpList_app 24 67 Pv.none.val 3 56 Try.underlying24 infoPvI rfl (by decide) (by decide) _ rfl (.tmp 43) (.tmp 45) rfl (w.heap.size + 2) _ M.length (pcs M) rfl (HGr.out.alloc _).row ⟨wr.heap.size, 0, none⟩ 1 1 [.bool on, vh, vt] rfl rfl (sl_cells wr [.bool on, vh, vt] 67 3 rfl) (by rw [← HXc.out]; exact pcells_one x) hml (HGr.out.alloc _).ge ?_; intro v3 w3 r3 kk3 tri3; rw [← HXc.out] at r3; have HG3 := hid (HG.out.more HZs.out (HJb.out.alloc HJb.out.size _) (HX2.out.below ((Below.refl _ _).alloc (Nat.le_refl _) _)) r3 kk3 tri3); have hfar : ∀ b, b < w.heap.size + 2 → ¬ rb v = some b := (fun b hb e => by have := (RowO.lt HG.out.row e).1; omega); have HO3 := hid ((HOr.out.alloc _).kept kk3 (hfar _ (by omega))); have HR3 := hid ((HRr.out.alloc _).kept kk3 (hfar _ (by omega))); have HW3 := hid ((HWr.out.alloc HWr.out.size _).trans (kk3.below (HWr.out.alloc HWr.out.size _).size (fun b hb => hfar b (by omega)))); obtain ⟨pc, cc, ec, _⟩ := r3.wr; subst ec; have z0 := HO3.out.c 0 rfl; have zf := HO3.out.f 0; clear r3 kk3 tri3 hfar)
          refine ⟨⟨k + 1, M ++ [x], _, by omega, by go_num, ?_, ?_, HO3.out.set 0 _, HR3.out.other (p := ⟨w.heap.size + 1, 0, none⟩) (by show w.heap.size ≠ w.heap.size + 1; omega) _, HG3.out.kept (kept_set w3 (w.heap.size + 1) 0 _) (fun b hb => by omega), below_set HW3.out (w.heap.size + 1) 0 _ (by omega)⟩, by simp [intOf]; omega⟩
          · rw [Hid, List.length_append, HN.out]; rfl
          · rw [Hid, HDx.out, List.map_append, HD.out]
            congr 1
            show [x.data] = _
            rw [HXd.out]; rfl
    · obtain rfl : k = G.length := by omega
      have o0 := HO.out.c 0 rfl
      have e0 := HR.out.c 0 rfl
      have ef := HR.out.f 0
      obtain ⟨a', cap', rfl, hP⟩ := HG.out.whole
      have HP := hid hP
      clear hP
      go_wp2
      refine bodyPost_ret (results_row rfl _ _ w.heap.size [.slice a' M.length cap'] _ rfl (HR.out.set 0 _) Try.underlying26 rfl (by kernel_rfl)) rfl ?_
      refine ⟨a', cap', M, rfl, ?_, ?_, below_set HW.out w.heap.size 0 _ (Nat.le_refl _)⟩
      · exact (HP.out.kept (kept_set wz w.heap.size 0 _) (fun b hb => by omega)).mono (by omega)
      · have h1 := HD.out
        rw [HS.out.len, List.take_length] at h1
        exact h1

end Go.Proofs.Ytbnpnhcegoanmaa.Pl
