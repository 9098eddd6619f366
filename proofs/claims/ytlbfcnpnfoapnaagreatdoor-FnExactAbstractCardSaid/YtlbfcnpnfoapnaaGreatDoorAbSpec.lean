/-
  The walk of spec.Abstract. No condition but texts and lists of at most 2^20.
-/
import Derived.Test.YtlbfcnpnfoapnaaGreatDoorJoin5
import Derived.Test.YtlbfcnpnfoapnaaGreatDoorJoin6
namespace Go.Proofs.YtlbfcnpnfoapnaaGreatDoor.Ab
open Go.RowKit Go.Proofs.YtlbfcnpnfoapnaaGreatDoor.Mem Go.Proofs.YtlbfcnpnfoapnaaGreatDoor.Sec Go.Proofs.YtlbfcnpnfoapnaaGreatDoor.Rd Go.Proofs.YtlbfcnpnfoapnaaGreatDoor.Pk Go.Proofs.YtlbfcnpnfoapnaaGreatDoor.Pl Go.Proofs.YtlbfcnpnfoapnaaGreatDoor.Tr
set_option linter.unusedVariables false

/-- A list of four, made as far as j. -/
def pre {X : Type} (j : Nat) (f : Nat → X) (d : X) : List X := (List.range 4).map fun i => if i < j then f i else d
theorem pre_len {X : Type} (j : Nat) (f : Nat → X) (d : X) : (pre j f d).length = 4 := by simp [pre]
theorem pre_4 {X : Type} (f : Nat → X) (d : X) : pre 4 f d = (List.range 4).map f := rfl
theorem pre_set {X : Type} (j : Nat) (hj : j < 4) (f : Nat → X) (d : X) : (pre j f d).set j (f j) = pre (j + 1) f d := by
  have : j = 0 ∨ j = 1 ∨ j = 2 ∨ j = 3 := by omega
  rcases this with rfl | rfl | rfl | rfl <;> rfl
theorem pre_same {X : Type} (j : Nat) (hj : j < 4) (f : Nat → X) (d : X) (h : f j = d) : pre (j + 1) f d = pre j f d := by
  rw [← pre_set j hj f d, h]
  have : j = 0 ∨ j = 1 ∨ j = 2 ∨ j = 3 := by omega
  rcases this with rfl | rfl | rfl | rfl <;> rfl

/-- The pool of the call's own, in its box. -/
structure AbS (B bx c : Nat) (a : Option Addr) (M : List Pv) (w : World) : Prop where
  pv : PvsW w B a M
  box : Row w bx [.slice a 4 c]
  far : ∀ b, pfoot a M b → b < bx
  len : M.length = 4
  four : ∀ x ∈ M, x.hs.length = 4 ∧ x.ts.length = 4

theorem AbS.below {B bx c : Nat} {a : Option Addr} {M : List Pv} {w w' : World} (h : AbS B bx c a M w) (k : Below w.heap.size w w') : AbS B bx c a M w' :=
  ⟨h.pv.below k, h.box.below k h.box.lt, h.far, h.len, h.four⟩
theorem AbS.bx_lt {B bx c : Nat} {a : Option Addr} {M : List Pv} {w : World} (h : AbS B bx c a M w) : bx < w.heap.size := h.box.lt

theorem pfoot_turn {a : Option Addr} {P Q : List Pv} {x y : Pv} (hf : ∀ b, y.foot b → x.foot b) (b : Nat) (h : pfoot a (P ++ y :: Q) b) : pfoot a (P ++ x :: Q) b := by
  rcases h with h | ⟨z, hz, h⟩
  · left; simpa using h
  · right
    rcases List.mem_append.1 hz with hz | hz
    · exact ⟨z, by simp [hz], h⟩
    · rcases List.mem_cons.1 hz with rfl | hz
      · exact ⟨x, by simp, hf b h⟩
      · exact ⟨z, by simp [hz], h⟩

theorem four_turn {P Q : List Pv} {x y : Pv} (h : ∀ z ∈ P ++ x :: Q, z.hs.length = 4 ∧ z.ts.length = 4) (hy : y.hs.length = 4 ∧ y.ts.length = 4) : ∀ z ∈ P ++ y :: Q, z.hs.length = 4 ∧ z.ts.length = 4 := by
  intro z hz
  rcases List.mem_append.1 hz with hz | hz
  · exact h z (by simp [hz])
  · rcases List.mem_cons.1 hz with rfl | hz
    · exact hy
    · exact h z (by simp [hz])

/-- The flag is stored. -/
theorem AbS.on {B bx c b off : Nat} {P Q : List Pv} {x : Pv} {w : World} (h : AbS B bx c (some ⟨b, off, none⟩) (P ++ x :: Q) w) (q : Bool) :
    AbS B bx c (some ⟨b, off, none⟩) (P ++ { x with on := q } :: Q) (w.setCell ⟨b, off + P.length * 3, none⟩ (.bool q)) ∧ b < bx ∧ B ≤ b := by
  have hb : pfoot (some ⟨b, off, none⟩) (P ++ x :: Q) b := Or.inl ⟨by rw [h.len]; decide, off, rfl⟩
  have hl := h.far b hb
  exact ⟨⟨h.pv.setOn q, h.box.kept (kept_set w b _ _) (by omega), fun b' hb' => h.far b' (pfoot_turn (x := x) (y := { x with on := q }) (fun _ k => k) b' hb'), by have := h.len; simpa using this, four_turn h.four (h.four x (by simp))⟩, hl, (h.pv.pfoot_ge hb).1⟩

/-- One of the flags of a volume is stored. -/
theorem AbS.has {B bx c b5 o5 : Nat} {a : Option Addr} {P Q : List Pv} {x : Pv} {w : World} (h : AbS B bx c a (P ++ x :: Q) w) (j : Nat) (hj : j < 4) (q : Bool) (e : x.ha = some ⟨b5, o5, none⟩) :
    AbS B bx c a (P ++ { x with hs := x.hs.set j q } :: Q) (w.setCell ⟨b5, o5 + j, none⟩ (.bool q)) ∧ b5 < bx ∧ B ≤ b5 := by
  have h4 := h.four x (by simp)
  have hft : foot x.ha x.hs.length b5 := ⟨by rw [h4.1]; decide, o5, e⟩
  have hpf : pfoot a (P ++ x :: Q) b5 := Or.inr ⟨x, by simp, Or.inl hft⟩
  have hl := h.far b5 hpf
  have hk := (kept_set w b5 (o5 + j) (.bool q)).mono (T := foot x.ha x.hs.length) (fun c _ e2 => by subst e2; exact hft)
  have hw : BlsW (w.setCell ⟨b5, o5 + j, none⟩ (.bool q)) B x.ha (x.hs.set j q) := by
    have h9 := (h.pv.each x (by simp)).1
    rw [e] at h9 ⊢
    exact wr_list h9 j (by rw [h4.1]; exact hj) q
  exact ⟨⟨h.pv.setHas hk (x.hs.set j q) (by simp) hw, h.box.kept (kept_set w b5 _ _) (by omega), fun b' hb' => h.far b' (pfoot_turn (x := x) (y := { x with hs := x.hs.set j q }) (fun b hb => by simpa [Pv.foot] using hb) b' hb'), by have := h.len; simpa using this, four_turn h.four ⟨by simpa using h4.1, h4.2⟩⟩, hl, (h.pv.pfoot_ge hpf).1⟩

/-- One of the texts of a volume is stored. -/
theorem AbS.text {B bx c b6 o6 : Nat} {a : Option Addr} {P Q : List Pv} {x : Pv} {w : World} (h : AbS B bx c a (P ++ x :: Q) w) (j : Nat) (hj : j < 4) (s : ByteArray) (e : x.ta = some ⟨b6, o6, none⟩) :
    AbS B bx c a (P ++ { x with ts := x.ts.set j s } :: Q) (w.setCell ⟨b6, o6 + j, none⟩ (.string s)) ∧ b6 < bx ∧ B ≤ b6 := by
  have h4 := h.four x (by simp)
  have hft : foot x.ta x.ts.length b6 := ⟨by rw [h4.2]; decide, o6, e⟩
  have hpf : pfoot a (P ++ x :: Q) b6 := Or.inr ⟨x, by simp, Or.inr hft⟩
  have hl := h.far b6 hpf
  have hk := (kept_set w b6 (o6 + j) (.string s)).mono (T := foot x.ta x.ts.length) (fun c _ e2 => by subst e2; exact hft)
  have hw : StrsW (w.setCell ⟨b6, o6 + j, none⟩ (.string s)) B x.ta (x.ts.set j s) := by
    have h9 := (h.pv.each x (by simp)).2
    rw [e] at h9 ⊢
    exact wr_texts h9 j (by rw [h4.2]; exact hj) s
  exact ⟨⟨h.pv.setTexts hk (x.ts.set j s) (by simp) hw, h.box.kept (kept_set w b6 _ _) (by omega), fun b' hb' => h.far b' (pfoot_turn (x := x) (y := { x with ts := x.ts.set j s }) (fun b hb => by simpa [Pv.foot] using hb) b' hb'), by have := h.len; simpa using this, four_turn h.four ⟨h4.1, by simpa using h4.2⟩⟩, hl, (h.pv.pfoot_ge hpf).1⟩

/-- What is read of the volume at hand: its row's cells, and a place of each of its lists. -/
theorem AbS.cells {B bx c b off : Nat} {P Q : List Pv} {x : Pv} {w : World} (h : AbS B bx c (some ⟨b, off, none⟩) (P ++ x :: Q) w) :
    w.cell? ⟨b, off + P.length * 3, none⟩ = some (.bool x.on) ∧ w.frozen? ⟨b, off + P.length * 3, none⟩ = false ∧ w.cell? ⟨b, off + P.length * 3 + 1, none⟩ = some (.slice x.ha 4 x.hc) ∧ w.cell? ⟨b, off + P.length * 3 + 2, none⟩ = some (.slice x.ta 4 x.tc) ∧ w.cell? ⟨bx, 0, none⟩ = some (.slice (some ⟨b, off, none⟩) 4 c) := by
  have h4 := h.four x (by simp)
  obtain ⟨b', off', e, c0, c1, c2, _, _⟩ := Pvs.at_ h.pv.r P.length (by simp)
  cases e
  rw [getD_mid P Q x] at c0 c1 c2
  rw [h4.1] at c1
  rw [h4.2] at c2
  obtain ⟨b2, o2, e2, _, _, f0⟩ := h.pv.row (P.length * 3) (by simp)
  cases e2
  exact ⟨c0, f0, c1, c2, h.box.c 0 rfl⟩

theorem AbS.drew {B bx c : Nat} {a : Option Addr} {M : List Pv} {w : World} (h : AbS B bx c a M w) : AbS B bx c a M w.drew := h.below (Below.refl _ _).drew

set_option maxRecDepth 100000 in
set_option maxHeartbeats 8000000 in
theorem sAbstract (R : ByteArray → Int × Nat) (hR : Reads R) (w : World) (a : Option Addr) (cap : Nat) (l : List ByteArray) (S : Strs w a l) (hl : l.length ≤ 1048576) (hz : ∀ s ∈ l, s.size ≤ 1048576) :
    Calls Tryz.prog 18 #[.slice a l.length cap] w fun r w' => ∃ a' cap' M, r = .returned (.tuple #[plV a' (M : List Pv).length cap', .bool (absOk R l)]) ∧ PvsW w' w.heap.size a' M ∧ M.map Pv.data = absD R l ∧ Below w.heap.size w w' := by
  obtain ⟨wa, hwa, ez, A0, B0⟩ := one_new w [.slice none 0 0] 33
  have HA := hid A0
  have HB := hid B0
  have HR := hid hR
  have HZm := hid (settle_small hR hz)
  have hsl := Re.settle_length R l
  have HSe := hid (Re.sSettle R hR wa a cap l (Sl.below S B0) hl hz)
  have HOk : Hid (absOk R l = poolOk R (Re.settle R l)) := rfl
  have HD : Hid (absD R l = if absOk R l then (avols R (Re.settle R l) 4).map ivData else []) := rfl
  generalize Re.settle R l = t at *
  generalize absOk R l = q at *
  generalize absD R l = D at *
  clear hR hz S A0 B0 ez hl
  go_enter Tryz.func18, Tryz.ntmps18
  go_wp2_with fail
  try simp only [hwa]
  clear hwa
  refine HSe.out.mono ?_
  rintro e w1 ⟨a1, c1, rfl, hW1, b1⟩
  have HS1 : Hid (Strs w1 a1 t) := Wr.sl hW1
  have hB1 := hid b1
  have htl : t.length ≤ 1048576 := by omega
  clear hW1 b1 HSe hsl
  go_wp2_with fail
  refine (sPoolOk R HR.out w1 a1 c1 t HS1.out htl HZm.out).mono ?_
  rintro e w2 ⟨rfl, b2⟩
  have HB2 := hid (hB1.out.trans (b2.mono hB1.out.size))
  have HS2 : Hid (Strs w2 a1 t) := Sl.below HS1.out b2
  have HR2 := hid (HA.out.below HB2.out HA.out.lt)
  have HBw := hid (HB.out.trans (HB2.out.mono HB.out.size))
  clear b2 HS1 hB1
  cases hp : poolOk R t with
  | false =>
    have HQ : Hid (q = false) := by rw [Hid, HOk.out, hp]
    have HDe : Hid (D = []) := by rw [Hid, HD.out, HQ.out]; rfl
    have d0 := HR2.out.c 0 rfl
    have df := HR2.out.f 0
    clear hp
    go_wp2
    refine bodyPost_ret (results_ct rfl _ _ w.heap.size [.slice none 0 0] _ rfl (HR2.out.set 0 (.slice none 0 0)) Tryz.underlying33 rfl (by kernel_rfl)) rfl ?_
    exact ⟨none, 0, [], by rw [HQ.out]; rfl, pvs_none _ _, by rw [HDe.out]; rfl, below_set HBw.out _ _ _ (Nat.le_refl _)⟩
  | true =>
    have HQ : Hid (q = true) := by rw [Hid, HOk.out, hp]
    have HDe : Hid (D = (avols R t 4).map ivData) := by rw [Hid, HD.out, HQ.out]; rfl
    have h34 := pool_len' hp
    have HZ := hid (getD_size HZm.out)
    have HV := hid (fun i hi => pool_vol hp i hi)
    obtain ⟨b, o, rfl, _⟩ := HS2.out 0 (by omega)
    have HCell := hid (cells34 HS2.out h34)
    rw [h34]
    clear hp h34 htl HOk HD
    go_wp2_with fail
    refine (sNewPool w2).mono ?_
    rintro e w3 ⟨a5, c5, M0, rfl, P3, D3, b3⟩
    unfold plV
    have hM4 : M0.length = 4 := by have := congrArg List.length D3; simpa using this
    rw [hM4]
    obtain ⟨w4, hw4, e4, A4, B4⟩ := one_new w3 [.slice a5 4 c5] 33
    have HX4 : Hid (AbS w2.heap.size w3.heap.size c5 a5 M0 w4) := ⟨P3.below B4, A4, fun b hb => (P3.pfoot_ge hb).2, hM4, fun x hx => by
      have hd : x.data ∈ M0.map Pv.data := List.mem_map.2 ⟨x, hx, rfl⟩
      rw [D3] at hd
      have := List.eq_of_mem_replicate hd
      obtain ⟨on, ha, hc, hs, ta, tc, ts⟩ := x
      simp only [Pv.data, noneD, Prod.mk.injEq] at this
      obtain ⟨_, rfl, rfl⟩ := this
      exact ⟨rfl, rfl⟩⟩
    have HD4 : Hid (M0.map Pv.data = (avols R t 0).map ivData ++ List.replicate 4 noneD) := D3
    have HB4 := hid (b3.trans (B4.mono b3.size))
    have HGe : Hid (w2.heap.size ≤ w3.heap.size) := b3.size
    clear P3 D3 b3 A4 B4 e4 hM4
    go_wp2_with fail
    try simp only [hw4]
    clear hw4
    obtain ⟨bx, hbx⟩ : ∃ bx, w3.heap.size = bx := ⟨_, rfl⟩
    rw [hbx] at HX4 HGe
    try rw [hbx]
    clear hbx
    go_loopw [6] (fun i wr => ∃ (k : Nat) (M : List Pv), k ≤ 4 ∧ i = .int .i64 (k : Int) ∧ Hid (AbS w2.heap.size bx c5 a5 M wr) ∧ Hid (M.map Pv.data = (avols R t k).map ivData ++ List.replicate (4 - k) noneD) ∧ Hid (Below w2.heap.size w2 wr)) (fun i _ => 4 - (intOf i).toNat)
    case atStart => exact ⟨0, M0, Nat.zero_le _, rfl, HX4, HD4, HB4⟩
    case round =>
      obtain ⟨k, M, hk, rfl, HX, HDk, HW⟩ := hrel
      clear HX4 HD4 HB4
      by_cases hlt : k < 4
      · obtain ⟨⟨h, e, on, m⟩, hq⟩ := HV.out k hlt
        have HM := hid (vol_ok HR.out (HZ.out _) hq)
        have HAv : Hid (avols R t (k + 1) = avols R t k ++ [(on, mapH m, mapT t m)]) := by rw [Hid, avols_succ]; unfold avol; rw [hq]
        obtain ⟨P, x, Q, rfl, hPl⟩ := split_at M k (by rw [HX.out.len]; exact hlt)
        have HPl := hid hPl
        have HDx : Hid (P.map Pv.data = (avols R t k).map ivData ∧ x.data = noneD ∧ Q.map Pv.data = List.replicate (4 - (k + 1)) noneD) := by
          have hd := HDk.out
          rw [List.map_append, List.map_cons, show 4 - k = (4 - (k + 1)) + 1 by omega, List.replicate_succ] at hd
          have h1 := List.append_inj hd (by simp [avols, HPl.out])
          exact ⟨h1.1, (List.cons.inj h1.2).1, (List.cons.inj h1.2).2⟩
        have hbl := HX.out.bx_lt
        clear HDk hPl
        go_wp2_with fail
        refine (Sector.spec_sector 3 (k : Int) wr).mono ?_
        rintro e' w5 ⟨rfl, bs⟩
        have HW5 := hid (HW.out.trans (bs.mono HW.out.size))
        have HX5 := hid (HX.out.below bs)
        have hs5 := bs.size
        clear bs HX
        rw [sec3 k hlt]
        obtain ⟨p, hp⟩ : ∃ p : Nat, p = 9 + k := ⟨_, rfl⟩
        rw [← hp] at hq ⊢
        have hl : (p : Int) < 34 := by omega
        have hc := HCell.out w5 HW5.out p (by omega)
        have hz := HZ.out p
        obtain ⟨sa, hsa⟩ : ∃ s, s = t.getD p ByteArray.empty := ⟨_, rfl⟩
        rw [← hsa] at hc hz hq
        have HQv := hid hq
        clear hp hsa hq
        go_wp2_with fail
        refine (sVolAt R HR.out sa hz HQv.out w5).mono ?_
        rintro e' w6 ⟨va, vc, rfl, hI6, b6⟩
        have HW6 := hid (HW5.out.trans (b6.mono HW5.out.size))
        have HX6 := hid (HX5.out.below b6)
        have HI6 : Hid (IntsW w6 w5.heap.size va m) := by
          obtain ⟨_, _, e, hx⟩ := hI6.w
          cases e
          exact hx
        have hs6 := b6.size
        clear b6 hc hz hI6 HX5
        obtain ⟨w7, hw7, e7, A7, B7⟩ := one_new w6 [.int .i64 h, .int .i64 e, .bool on, .slice va m.length vc] 49
        have HA7 := hid A7
        have HW7 := hid (HW6.out.trans (B7.mono HW6.out.size))
        have HX7 := hid (HX6.out.below B7)
        have HI7 : Hid (IntsW w7 w5.heap.size va m) := Wr.below HI6.out B7
        have hm9 : m.length ≤ 900 := by have := HM.out.1; omega
        have hbv : bx < w6.heap.size := by omega
        have hbm : bx < w5.heap.size := by omega
        clear A7 B7 e7 HI6 HX6
        obtain ⟨bp, op, rfl, _⟩ := Pvs.at_ HX7.out.pv.r k (by rw [HX7.out.len]; exact hlt)
        obtain ⟨r0, rf0, _, _, r4⟩ := HX7.out.cells
        rw [HPl.out] at r0 rf0
        obtain ⟨HX8, hbp, hBp⟩ := HX7.out.on on
        rw [HPl.out] at HX8
        have HX8 := hid HX8
        have HI8 : Hid (IntsW (w7.setCell ⟨bp, op + k * 3, none⟩ (.bool on)) w5.heap.size va m) := Wr.move HI7.out (kept_set _ _ _ _) (fun b hb e => by have := Wr.foot_ge HI7.out hb; omega)
        have HA8 : Hid (Row (w7.setCell ⟨bp, op + k * 3, none⟩ (.bool on)) w6.heap.size [.int .i64 h, .int .i64 e, .bool on, .slice va m.length vc]) := HA7.out.kept (kept_set _ _ _ _) (by omega)
        have HW8 := hid (below_set HW7.out bp (op + k * 3) (.bool on) hBp)
        have v2 := HA7.out.c 2 rfl
        have hki : (k : Int) < 4 := by omega
        clear HX7 HI7 HA7
        go_wp2_with fail
        try simp only [hw7]
        clear hw7
        go_wp2_with fail
        obtain ⟨w8, hw8⟩ : ∃ w8, w7.setCell ⟨bp, op + k * 3, none⟩ (.bool on) = w8 := ⟨_, rfl⟩
        rw [hw8] at HX8 HI8 HA8 HW8
        try rw [hw8]
        clear hw8 r0 rf0 r4 v2
        obtain ⟨vx, hvx⟩ : ∃ vx, w6.heap.size = vx := ⟨_, rfl⟩
        rw [hvx] at HA8 hbv
        try rw [hvx]
        clear hvx
        obtain ⟨cx, hcx⟩ : ∃ cx, w5.heap.size = cx := ⟨_, rfl⟩
        rw [hcx] at HI8 hbm
        clear hcx
        have HY : Hid (({ x with on := on } : Pv).data = (on, pre 0 (mapH m) false, pre 0 (mapT t m) ⟨#[]⟩)) := by
          have hd := HDx.out.2.1
          simp only [Pv.data, noneD, Prod.mk.injEq] at hd
          simp only [Hid, Pv.data, hd.2.1, hd.2.2]
          rfl
        go_loopw [9] (fun i wr => ∃ (j : Nat) (y : Pv), j ≤ 4 ∧ i = .int .i64 (j : Int) ∧ Hid (AbS w2.heap.size bx c5 (some ⟨bp, op, none⟩) (P ++ y :: Q) wr) ∧ Hid (y.data = (on, pre j (mapH m) false, pre j (mapT t m) ⟨#[]⟩)) ∧ Hid (IntsW wr cx va m) ∧ Hid (Row wr vx [.int .i64 h, .int .i64 e, .bool on, .slice va m.length vc]) ∧ Hid (Below w2.heap.size w2 wr)) (fun i _ => 4 - (intOf i).toNat)
        case atStart => exact ⟨0, _, Nat.zero_le _, rfl, HX8, HY, HI8, HA8, HW8⟩
        case round =>
          obtain ⟨j, y, hj, rfl, HXj, HYj, HIj, HAj, HWj⟩ := hrel
          clear HX8 HY HI8 HA8 HW8
          by_cases hlj : j < 4
          · have hjm : j < m.length := by have := HM.out.1; omega
            obtain ⟨vb, vo, rfl, _, hcm, _⟩ := HIj.out j hjm
            replace hcm : _ = some (Value.int .i64 (m.getD j 0)) := hcm
            have k3 := HAj.out.c 3 rfl
            have hxb := HM.out.2 (m.getD j 0) (by simp [List.getD, hjm])
            have HHk : Hid (mapH m j = decide (0 ≤ m.getD j 0)) := rfl
            have HTk : Hid (mapT t m j = if 0 ≤ m.getD j 0 then t.getD (16 + (m.getD j 0).toNat) ByteArray.empty else ⟨#[]⟩) := rfl
            obtain ⟨z, hze⟩ : ∃ z, m.getD j 0 = z := ⟨_, rfl⟩
            rw [hze] at hcm hxb HHk HTk
            have HZe := hid hze
            clear hze
            by_cases hx : 0 ≤ z
            · obtain ⟨n, rfl⟩ : ∃ n : Nat, z = (n : Int) := ⟨z.toNat, by omega⟩
              have hn : n < 18 := by omega
              have HH1 : Hid (mapH m j = true) := by rw [Hid, HHk.out, decide_eq_true hx]
              have HT1 : Hid (mapT t m j = t.getD (16 + n) ByteArray.empty) := by rw [Hid, HTk.out, if_pos hx]; rfl
              clear HHk HTk
              obtain ⟨_, _, r1, _, r4⟩ := HXj.out.cells
              rw [HPl.out] at r1
              have y4 := HXj.out.four y (by simp)
              obtain ⟨b5, o5, e5, _, c5', z5⟩ := (HXj.out.pv.each y (by simp)).1 j (by rw [y4.1]; exact hlj)
              rw [e5] at r1
              obtain ⟨HXa, hb5, hB5⟩ := HXj.out.has j hlj true e5
              have HXa := hid HXa
              have HIa : Hid (IntsW (wr.setCell ⟨b5, o5 + j, none⟩ (.bool true)) cx (some ⟨vb, vo, none⟩) m) := Wr.move HIj.out (kept_set _ _ _ _) (fun b hb e => by have := Wr.foot_ge HIj.out hb; omega)
              have HAa : Hid (Row (wr.setCell ⟨b5, o5 + j, none⟩ (.bool true)) vx [.int .i64 h, .int .i64 e, .bool on, .slice (some ⟨vb, vo, none⟩) m.length vc]) := HAj.out.kept (kept_set _ _ _ _) (by omega)
              have HWa := hid (below_set HWj.out b5 (o5 + j) (.bool true) hB5)
              have hj4 : (j : Int) < 4 := by omega
              clear e5 y4 HXj HIj HAj HWj
              go_wp2
              obtain ⟨wb, hwb⟩ : ∃ wb, wr.setCell ⟨b5, o5 + j, none⟩ (.bool true) = wb := ⟨_, rfl⟩
              rw [hwb] at HXa HIa HAa HWa
              try rw [hwb]
              clear hwb r1 r4 c5' z5 hcm k3
              obtain ⟨y1, hy1⟩ : ∃ y1 : Pv, y1 = { y with hs := y.hs.set j true } := ⟨_, rfl⟩
              rw [← hy1] at HXa
              have HD1 : Hid (y1.data = (on, pre (j + 1) (mapH m) false, pre j (mapT t m) ⟨#[]⟩)) := by
                have hd := HYj.out
                simp only [Pv.data, Prod.mk.injEq] at hd
                rw [hy1]
                simp only [Hid, Pv.data, hd.1, hd.2.1, hd.2.2]
                rw [← pre_set j hlj (mapH m) false, HH1.out]
              have y4 := HXa.out.four y1 (by simp)
              obtain ⟨b6, o6, e6, _⟩ := (HXa.out.pv.each y1 (by simp)).2 j (by rw [y4.2]; exact hlj)
              have HE6 := hid e6
              have HF : Hid (∀ w9, Below wb.heap.size wb w9 → w9.cell? ⟨bx, 0, none⟩ = some (.slice (some ⟨bp, op, none⟩) 4 c5) ∧ w9.cell? ⟨bp, op + k * 3 + 2, none⟩ = some (.slice (some ⟨b6, o6, none⟩) 4 y1.tc) ∧ w9.cell? ⟨vx, 3, none⟩ = some (.slice (some ⟨vb, vo, none⟩) m.length vc) ∧ w9.cell? ⟨vb, vo + j, none⟩ = some (.int .i64 (n : Int)) ∧ w9.cell? ⟨b, o + (16 + n), none⟩ = some (.string (mapT t m j)) ∧ (∃ u, w9.cell? ⟨b6, o6 + j, none⟩ = some u) ∧ w9.frozen? ⟨b6, o6 + j, none⟩ = false) := fun w9 b9 => by
                have X9 := HXa.out.below b9
                obtain ⟨_, _, _, q2, q4⟩ := X9.cells
                rw [HPl.out, HE6.out] at q2
                obtain ⟨_, _, e3, _, c3, _⟩ := (Wr.below HIa.out b9) j hjm
                cases e3
                replace c3 : _ = some (Value.int .i64 (m.getD j 0)) := c3
                rw [HZe.out] at c3
                obtain ⟨_, _, e7, _, c7, z7⟩ := (X9.pv.each y1 (by simp)).2 j (by rw [y4.2]; exact hlj)
                rw [HE6.out] at e7
                cases e7
                exact ⟨q4, q2, (HAa.out.below b9 HAa.out.lt).c 3 rfl, c3, by rw [HT1.out]; exact HCell.out w9 (HWa.out.trans (b9.mono HWa.out.size)) (16 + n) (by omega), ⟨_, c7⟩, z7⟩
              obtain ⟨f0, f1, f2, f3, f4, ⟨u5, f5⟩, f6⟩ := HF.out wb (Below.refl _ _)
              have HSe : Hid (Calls Tryz.prog 33 #[.int .i64 5, .int .i64 (n : Int)] wb.drew fun e w' => e = .returned (.int .i64 ((16 + n : Nat) : Int)) ∧ Below wb.drew.heap.size wb.drew w') := by
                have h9 := Sector.spec_sector 5 (n : Int) wb.drew
                rw [sec5 n hn] at h9
                exact h9
              have hp34 : (16 + n : Nat) < 34 := by omega
              obtain ⟨pp, hpp⟩ : ∃ p : Nat, 16 + n = p := ⟨_, rfl⟩
              rw [hpp] at HF HSe f4 hp34
              have hpi : (pp : Int) < 34 := by omega
              have hnm : (j : Int) < (m.length : Int) := by omega
              clear hpp hx hxb e6 y4 hy1 HYj HH1 HT1 HZe
              obtain ⟨tx, htx⟩ : ∃ tx, mapT t m j = tx := ⟨_, rfl⟩
              rw [htx] at HF f4
              have HTx := hid htx
              clear htx
              have HFin : Hid (∀ w9, Below wb.heap.size wb w9 → AbS w2.heap.size bx c5 (some ⟨bp, op, none⟩) (P ++ { y1 with ts := y1.ts.set j tx } :: Q) (w9.setCell ⟨b6, o6 + j, none⟩ (.string tx)) ∧ IntsW (w9.setCell ⟨b6, o6 + j, none⟩ (.string tx)) cx (some ⟨vb, vo, none⟩) m ∧ Row (w9.setCell ⟨b6, o6 + j, none⟩ (.string tx)) vx [.int .i64 h, .int .i64 e, .bool on, .slice (some ⟨vb, vo, none⟩) m.length vc] ∧ Below w2.heap.size w2 (w9.setCell ⟨b6, o6 + j, none⟩ (.string tx))) := fun w9 b9 => by
                obtain ⟨X, hx1, hx2⟩ := (HXa.out.below b9).text j hlj tx HE6.out
                have I9 := Wr.below HIa.out b9
                exact ⟨X, Wr.move I9 (kept_set _ _ _ _) (fun b hb e => by have := Wr.foot_ge I9 hb; omega), (HAa.out.below b9 HAa.out.lt).kept (kept_set _ _ _ _) (by omega), below_set (HWa.out.trans (b9.mono HWa.out.size)) b6 (o6 + j) _ hx2⟩
              have HY2 : Hid (({ y1 with ts := y1.ts.set j tx } : Pv).data = (on, pre (j + 1) (mapH m) false, pre (j + 1) (mapT t m) ⟨#[]⟩)) := by
                have hd := HD1.out
                simp only [Pv.data, Prod.mk.injEq] at hd
                simp only [Hid, Pv.data, hd.1, hd.2.1, hd.2.2]
                rw [← pre_set j hlj (mapT t m) ⟨#[]⟩, HTx.out]
              go_wp2
              go_region_with (go_at_call 33; refine HSe.out.mono ?_; rintro e w9 ⟨rfl, b9⟩; have HB9 := hid (undrew b9); clear b9; obtain ⟨g0, g1, g2, g3, g4, ⟨g5', g5⟩, g6⟩ := HF.out w9 HB9.out)
              all_goals (go_wp2; exact ⟨⟨j + 1, { y1 with ts := y1.ts.set j tx }, by omega, by go_num, (HFin.out _ HB9.out).1, HY2, (HFin.out _ HB9.out).2.1, (HFin.out _ HB9.out).2.2.1, (HFin.out _ HB9.out).2.2.2⟩, by simp [intOf]; omega⟩)
            · have HH1 : mapH m j = false := by rw [HHk.out, decide_eq_false hx]
              have HT1 : mapT t m j = ⟨#[]⟩ := by rw [HTk.out, if_neg hx]
              have HY2 : Hid (y.data = (on, pre (j + 1) (mapH m) false, pre (j + 1) (mapT t m) ⟨#[]⟩)) := by
                rw [Hid, pre_same j hlj _ _ HH1, pre_same j hlj _ _ HT1]; exact HYj.out
              clear HHk HTk HH1 HT1 HZe
              go_wp2
              exact ⟨⟨j + 1, y, by omega, by go_num, HXj, HY2, HIj, HAj, HWj⟩, by simp [intOf]; omega⟩
          · obtain rfl : j = 4 := by omega
            have HDn : Hid ((P ++ y :: Q).map Pv.data = (avols R t (k + 1)).map ivData ++ List.replicate (4 - (k + 1)) noneD) := by
              rw [Hid, List.map_append, List.map_cons, HDx.out.1, HDx.out.2.2, HYj.out, HAv.out, List.map_append, List.append_assoc]
              rfl
            go_wp2
            exact ⟨⟨k + 1, P ++ y :: Q, by omega, by go_num, HXj, HDn, HWj⟩, by simp [intOf]; omega⟩
      · obtain rfl : k = 4 := by omega
        have HDt : Hid (M.map Pv.data = D) := by
          rw [Hid, HDk.out, HDe.out]
          simp
        have RA := HR2.out.below HW.out HR2.out.lt
        have x0 := HX.out.box.c 0 rfl
        have e0 := RA.c 0 rfl
        have ef := RA.f 0
        have hM4 := HX.out.len
        have HRs := hid (RA.set 0 (.slice a5 4 c5))
        have HB9 := hid (HBw.out.trans (HW.out.mono HBw.out.size))
        have hwl : w.heap.size < w2.heap.size := HR2.out.lt
        have HL := hid hwl
        have HM4 := hid hM4
        clear RA hwl hM4
        go_wp2
        refine bodyPost_ret (results_ct rfl _ _ w.heap.size [.slice a5 4 c5] _ rfl HRs.out Tryz.underlying33 rfl (by kernel_rfl)) rfl ?_
        have hwl := HL.out
        exact ⟨a5, c5, M, by rw [HQ.out, HM4.out]; rfl, (HX.out.pv.kept (kept_set _ w.heap.size 0 _) (fun b hb => by omega)).mono (by omega), HDt.out, below_set HB9.out w.heap.size 0 _ (Nat.le_refl _)⟩

end Go.Proofs.YtlbfcnpnfoapnaaGreatDoor.Ab
