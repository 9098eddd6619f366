/-
  The laws of ModelOk and ReadOf; the walks of spec.ReadOf and impl.ReadOf. No condition but lists of at most 2^20.
-/
import Derived.Test.YtgfkbgkbecgalaaPpOk2
namespace Go.Proofs.Ytgfkbgkbecgalaa.Pl
open Go.RowKit Go.Proofs.Ytgfkbgkbecgalaa.Mem
set_option linter.unusedVariables false

set_option maxRecDepth 100000 in
set_option maxHeartbeats 2000000 in
theorem lawModelOk (w : World) (a : Option Addr) (cap : Nat) (L : List Pv) (S : Pvs w a L) (hl : L.length ≤ maxLen) (hs : ∀ x ∈ L, x.Upto maxLen) :
    Calls Try.prog 4 #[plV a L.length cap] w fun e w' => e = .returned (.bool true) ∧ Below w.heap.size w w' := by
  unfold plV
  have HS := hid S
  have HL := hid hl
  have Hs := hid hs
  clear S hl hs
  obtain ⟨wa, hwa, ez, A0, B0⟩ := one_new w [.slice a L.length cap] 31
  have HA := hid A0
  have HB := hid B0
  have k0 := A0.c 0 rfl
  clear A0 B0 ez
  go_enter Try.func4, Try.ntmps4
  go_wp2_with fail
  try simp only [hwa]
  clear hwa
  refine (szPool wa a cap L 1048576 (HS.out.below HB.out) HL.out Hs.out (by decide) (by decide)).mono ?_
  rintro e w1 ⟨r, rfl, b1, hf⟩
  have HB1 := hid (HB.out.trans (b1.mono HB.out.size))
  have HA1 := hid (HA.out.below b1 HA.out.lt)
  clear b1 k0
  by_cases hr : r < 0
  · clear hf
    go_wp2
    go_ret
    exact ⟨rfl, HB1.out⟩
  · have hf2 : (L.length : Int) ≤ 1048576 ∧ ∀ x ∈ L, x.Upto 1048576 := by
      rcases hf with h | h
      · omega
      · exact h.2.2
    have hll : L.length ≤ 1048576 := by have := hf2.1; omega
    have HU := hid hf2.2
    have HL2 := hid hll
    clear hf hf2 hll
    have k0 := HA1.out.c 0 rfl
    go_wp2_with fail
    refine (toPool w1 a cap L (HS.out.below HB1.out) HL2.out HU.out).mono ?_
    rintro e w2 ⟨g1, M1, rfl, S2, D2, b2⟩
    unfold plV
    have HB2 := hid (HB1.out.trans (b2.mono HB1.out.size))
    have HA2 := hid (HA1.out.below b2 HA1.out.lt)
    have HS2 := hid S2
    have HD2 := hid D2
    clear b2 S2 D2 k0 hr
    go_wp2_with fail
    refine (sModelOk w2 _ _ M1 HS2.out.r (upto_data HD2.out HL2.out HU.out).1 (upto_data HD2.out HL2.out HU.out).2).mono ?_
    rintro e w3 ⟨rfl, b3⟩
    have HB3 := hid (HB2.out.trans (b3.mono HB2.out.size))
    have HA3 := hid (HA2.out.below b3 HA2.out.lt)
    rw [← modelOk_data HD2.out]
    clear b3 HS2
    have k0 := HA3.out.c 0 rfl
    go_wp2_with fail
    refine (toPool w3 a cap L (HS.out.below HB3.out) HL2.out HU.out).mono ?_
    rintro e w4 ⟨g2, M2, rfl, S4, D4, b4⟩
    unfold plV
    have HB4 := hid (HB3.out.trans (b4.mono HB3.out.size))
    have HA4 := hid (HA3.out.below b4 HA3.out.lt)
    have HD4 := hid D4
    obtain ⟨wx, hwx, ex, X0, BX⟩ := one_new w4 [.slice (some ⟨g2, 0, none⟩) M2.length M2.length] 24
    have HXb := hid X0
    have HBx := hid (HB4.out.trans (BX.mono HB4.out.size))
    have HAx := hid (HA4.out.below BX HA4.out.lt)
    have HRx := hid (S4.r.below BX)
    have y0 := X0.c 0 rfl
    clear b4 S4 D4 k0 HA3 HA2 HA1 X0 BX ex HA4
    go_wp2_with fail
    try simp only [hwx]
    clear hwx
    refine (iModelOk wx _ _ M2 HRx.out (upto_data HD4.out HL2.out HU.out).1).mono ?_
    rintro e w5 ⟨rfl, b5⟩
    have HB5 := hid (HBx.out.trans (b5.mono HBx.out.size))
    have HXb5 := hid (HXb.out.below b5 HXb.out.lt)
    have HA5 := hid (HAx.out.below b5 HAx.out.lt)
    have HR5 := hid (HRx.out.below b5)
    rw [← modelOk_data HD4.out]
    clear b5 y0 HXb HAx HRx HBx
    generalize modelOk L = q at *
    have k0 := HA5.out.c 0 rfl
    have y0 := HXb5.out.c 0 rfl
    go_wp2
    go_region_with (first
      | (go_at_call 14; refine (toPool _ a cap L (HS.out.below HB5.out.drew) HL2.out HU.out).mono ?_; rintro e w6 ⟨g3, M3, rfl, S6, D6, b6'⟩; unfold plV; have b6 := undrew b6'; have n0 := (HXb5.out.below b6 HXb5.out.lt).c 0 rfl)
      | (go_at_call 9; refine (eqPool _ _ _ _ _ M2 M3 (HR5.out.below b6) S6.r (HD4.out.symm.trans D6) (len_max (upto_data HD4.out HL2.out HU.out).1) (upto_max (upto_data HD4.out HL2.out HU.out).2)).mono ?_; rintro e w7 ⟨rfl, b7⟩))
    all_goals (have HB7 := hid ((HB5.out.trans (b6.mono HB5.out.size)).trans (b7.mono (Nat.le_trans HB5.out.size b6.size))); clear b6 b6' b7 S6 D6 n0 y0 k0; go_wp2; go_ret; exact ⟨rfl, HB7.out⟩)

/-- What is there. -/
def readOf (L : List Pv) (v k : Int) : ByteArray := if modelOk L = true ∧ (0 ≤ v ∧ v < 4) ∧ (0 ≤ k ∧ k < 4) then (L.getD v.toNat Pv.none).ts.getD k.toNat ByteArray.empty else ⟨#[]⟩

theorem readOf_data {L M : List Pv} (h : L.map Pv.data = M.map Pv.data) (v k : Int) : readOf L v k = readOf M v k := by
  have e : ∀ L : List Pv, (L.getD v.toNat Pv.none).ts = ((L.map Pv.data).getD v.toNat Pv.none.data).2.2 := fun L => by
    simp only [List.getD, List.getElem?_map]
    cases L[v.toNat]? <;> rfl
  unfold readOf
  rw [modelOk_data h, e, e, h]

theorem ok_at {L : List Pv} (h : modelOk L = true) {v : Nat} (hv : v < 4) : L.length = 4 ∧ (L.getD v Pv.none).ts.length = 4 := by
  unfold modelOk at h
  rw [Bool.and_eq_true] at h
  have h4 : L.length = 4 := of_decide_eq_true h.1
  refine ⟨h4, ?_⟩
  have hlt : v < L.length := by omega
  have := (List.all_eq_true.1 h.2) (L.getD v Pv.none) (by simp [List.getD, hlt])
  unfold Pv.ok at this
  rw [Bool.and_eq_true, Bool.and_eq_true] at this
  exact of_decide_eq_true this.1.2

set_option maxRecDepth 100000 in
set_option maxHeartbeats 2000000 in
theorem sReadOf (w : World) (a : Option Addr) (cap : Nat) (L : List Pv) (v k : Int) (S : Pvs w a L) (hl : L.length ≤ 1048576) (he : ∀ x ∈ L, x.Upto 1048576) :
    Calls Try.prog 20 #[plV a L.length cap, .int .i64 v, .int .i64 k] w fun r w' => r = .returned (.string (readOf L v k)) ∧ Below w.heap.size w w' := by
  unfold plV
  have HS := hid S
  have HL := hid hl
  have HE := hid he
  clear S hl he
  generalize hq : readOf L v k = q
  have HQ := hid hq
  clear hq
  have HN : Hid (¬ (modelOk L = true ∧ (0 ≤ v ∧ v < 4) ∧ (0 ≤ k ∧ k < 4)) → q = ⟨#[]⟩) := fun h => by rw [← HQ.out]; unfold readOf; rw [if_neg h]
  obtain ⟨wa, hwa, ez, A0, B0⟩ := one_new w [.slice a L.length cap] 24
  have HA := hid A0
  have HB := hid B0
  have k0 := A0.c 0 rfl
  clear A0 B0 ez
  go_enter Try.func20, Try.ntmps20
  go_wp2_with fail
  try simp only [hwa]
  clear hwa
  refine (sModelOk wa a cap L (HS.out.below HB.out) HL.out HE.out).mono ?_
  rintro r w1 ⟨rfl, b1⟩
  have HB1 := hid (HB.out.trans (b1.mono HB.out.size))
  have HA1 := hid (HA.out.below b1 HA.out.lt)
  clear b1 k0 HA
  cases hm : modelOk L with
  | false =>
    have HZ := hid (HN.out (fun h => by rw [hm] at h; cases h.1))
    clear hm HN
    go_wp2
    go_ret
    exact ⟨by rw [HZ.out]; rfl, HB1.out⟩
  | true =>
    have HM := hid hm
    clear hm
    go_wp2_with fail
    refine (l5Vol v w1).mono ?_
    rintro r w2 ⟨rfl, b2⟩
    obtain rfl := b2
    by_cases hv : 0 ≤ v ∧ v < 4
    · rw [decide_eq_true hv]
      by_cases hk0 : 0 ≤ k
      · by_cases hk1 : k < 4
        · have hv0 := hv.1
          have hv1 := hv.2
          have k0 := HA1.out.c 0 rfl
          obtain ⟨n, rfl⟩ := Int.eq_ofNat_of_zero_le hv0
          obtain ⟨m, rfl⟩ := Int.eq_ofNat_of_zero_le hk0
          have hn4 : n < 4 := by omega
          have hm4 : m < 4 := by omega
          obtain ⟨e4, t4⟩ := ok_at HM.out hn4
          obtain ⟨b, off, rfl, c0, c1, c2, i1, i2⟩ := Pvs.at_ (HS.out.below HB1.out) n (by omega)
          obtain ⟨b2, o2, ea, f2⟩ := i2 m (by omega)
          have HZ : Hid (q = (L.getD n Pv.none).ts.getD m ByteArray.empty) := by rw [Hid, ← HQ.out]; unfold readOf; rw [if_pos ⟨HM.out, hv, by omega, by omega⟩]; rfl
          simp only [] at f2
          generalize (L.getD n Pv.none).ts.getD m ByteArray.empty = s at f2 HZ
          generalize L.getD n Pv.none = x at c0 c1 c2 i1 t4 ea
          rw [ea] at c2
          have hll : n < L.length := by omega
          have htl : m < x.ts.length := by omega
          clear HN hv i1 e4 t4 ea
          go_wp2
          go_ret
          exact ⟨by rw [HZ.out]; rfl, HB1.out⟩
        · have HZ := hid (HN.out (fun h => hk1 h.2.2.2))
          have hk2 : 4 ≤ k := by omega
          clear HN hv
          go_wp2
          go_ret
          exact ⟨by rw [HZ.out]; rfl, HB1.out⟩
      · have HZ := hid (HN.out (fun h => hk0 h.2.2.1))
        have hk2 : k < 0 := by omega
        clear HN hv
        go_wp2
        go_ret
        exact ⟨by rw [HZ.out]; rfl, HB1.out⟩
    · have HZ := hid (HN.out (fun h => hv h.2.1))
      rw [decide_eq_false hv]
      clear HN hv
      go_wp2
      go_ret
      exact ⟨by rw [HZ.out]; rfl, HB1.out⟩

set_option maxRecDepth 100000 in
set_option maxHeartbeats 2000000 in
theorem iReadOf (w : World) (a : Option Addr) (cap : Nat) (L : List Pv) (v k : Int) (S : Pvs w a L) (hl : L.length ≤ 1048576) (he : ∀ x ∈ L, x.Upto 1048576) :
    Calls Try.prog 21 #[plV a L.length cap, .int .i64 v, .int .i64 k] w fun r w' => r = .returned (.string (readOf L v k)) ∧ Below w.heap.size w w' := by
  unfold plV
  have HS := hid S
  have HL := hid hl
  have HE := hid he
  clear S hl he
  generalize hq : readOf L v k = q
  have HQ := hid hq
  clear hq
  have HN : Hid (¬ (modelOk L = true ∧ (0 ≤ v ∧ v < 4) ∧ (0 ≤ k ∧ k < 4)) → q = ⟨#[]⟩) := fun h => by rw [← HQ.out]; unfold readOf; rw [if_neg h]
  obtain ⟨wa, hwa, ez, A0, B0⟩ := one_new w [.slice a L.length cap] 24
  have HA := hid A0
  have HB := hid B0
  have k0 := A0.c 0 rfl
  clear A0 B0 ez
  go_enter Try.func21, Try.ntmps21
  go_wp2_with fail
  try simp only [hwa]
  clear hwa
  refine (iModelOk wa a cap L (HS.out.below HB.out) HL.out).mono ?_
  rintro r w1 ⟨rfl, b1⟩
  have HB1 := hid (HB.out.trans (b1.mono HB.out.size))
  have HA1 := hid (HA.out.below b1 HA.out.lt)
  clear b1 k0 HA
  cases hm : modelOk L with
  | false =>
    have HZ := hid (HN.out (fun h => by rw [hm] at h; cases h.1))
    clear hm HN
    go_wp2
    go_ret
    exact ⟨by rw [HZ.out]; rfl, HB1.out⟩
  | true =>
    have HM := hid hm
    clear hm
    go_wp2_with fail
    refine (isFrom v 0 3 w1).mono ?_
    rintro r w2 ⟨rfl, b2⟩
    obtain rfl := b2
    by_cases hv : 0 ≤ v ∧ v < 4
    · rw [decide_eq_true (show 0 ≤ v ∧ v ≤ 3 by omega)]
      have HV := hid hv
      clear hv
      go_wp2_with fail
      refine (isFrom k 0 3 _).mono ?_
      rintro r w3 ⟨rfl, b3⟩
      obtain rfl := b3
      have hv := HV.out
      by_cases hk : 0 ≤ k ∧ k ≤ 3
      · rw [decide_eq_true hk]
        have hk0 := hk.1
        have hk1 := hk.2
        clear hk HV
        have hv0 := hv.1
        have hv1 := hv.2
        have k0 := HA1.out.c 0 rfl
        obtain ⟨n, rfl⟩ := Int.eq_ofNat_of_zero_le hv0
        obtain ⟨m, rfl⟩ := Int.eq_ofNat_of_zero_le hk0
        have hn4 : n < 4 := by omega
        have hm4 : m < 4 := by omega
        obtain ⟨e4, t4⟩ := ok_at HM.out hn4
        obtain ⟨b, off, rfl, c0, c1, c2, i1, i2⟩ := Pvs.at_ (HS.out.below HB1.out) n (by omega)
        obtain ⟨b2, o2, ea, f2⟩ := i2 m (by omega)
        have HZ : Hid (q = (L.getD n Pv.none).ts.getD m ByteArray.empty) := by rw [Hid, ← HQ.out]; unfold readOf; rw [if_pos ⟨HM.out, hv, by omega, by omega⟩]; rfl
        simp only [] at f2
        generalize (L.getD n Pv.none).ts.getD m ByteArray.empty = s at f2 HZ
        generalize L.getD n Pv.none = x at c0 c1 c2 i1 t4 ea
        rw [ea] at c2
        have hll : n < L.length := by omega
        have htl : m < x.ts.length := by omega
        clear HN hv i1 e4 t4 ea
        go_wp2
        go_ret
        exact ⟨by rw [HZ.out]; rfl, HB1.out⟩
      · have HZ := hid (HN.out (fun h => hk ⟨h.2.2.1, by have := h.2.2.2; omega⟩))
        rw [decide_eq_false hk]
        clear HN hk hv HV
        go_wp2
        go_ret
        exact ⟨by rw [HZ.out]; rfl, HB1.out⟩
    · have HZ := hid (HN.out (fun h => hv h.2.1))
      rw [decide_eq_false (show ¬ (0 ≤ v ∧ v ≤ 3) by omega)]
      clear HN hv
      go_wp2
      go_ret
      exact ⟨by rw [HZ.out]; rfl, HB1.out⟩

set_option maxRecDepth 100000 in
set_option maxHeartbeats 2000000 in
theorem lawReadOf (w : World) (a : Option Addr) (cap : Nat) (L : List Pv) (p k : Int) (S : Pvs w a L) (hl : L.length ≤ maxLen) (hs : ∀ x ∈ L, x.Upto maxLen) :
    Calls Try.prog 6 #[plV a L.length cap, .int .i64 p, .int .i64 k] w fun e w' => e = .returned (.bool true) ∧ Below w.heap.size w w' := by
  unfold plV
  have HS := hid S
  have HL := hid hl
  have Hs := hid hs
  clear S hl hs
  obtain ⟨wa, hwa, ez, A0, B0⟩ := one_new w [.slice a L.length cap] 31
  have HA := hid A0
  have HB := hid B0
  have k0 := A0.c 0 rfl
  clear A0 B0 ez
  go_enter Try.func6, Try.ntmps6
  go_wp2_with fail
  try simp only [hwa]
  clear hwa
  refine (szPool wa a cap L 1048576 (HS.out.below HB.out) HL.out Hs.out (by decide) (by decide)).mono ?_
  rintro e w1 ⟨r, rfl, b1, hf⟩
  have HB1 := hid (HB.out.trans (b1.mono HB.out.size))
  have HA1 := hid (HA.out.below b1 HA.out.lt)
  clear b1 k0
  by_cases hr : r < 0
  · clear hf
    go_wp2
    go_ret
    exact ⟨rfl, HB1.out⟩
  · have hf2 : (L.length : Int) ≤ 1048576 ∧ ∀ x ∈ L, x.Upto 1048576 := by
      rcases hf with h | h
      · omega
      · exact h.2.2
    have hll : L.length ≤ 1048576 := by have := hf2.1; omega
    have HU := hid hf2.2
    have HL2 := hid hll
    clear hf hf2 hll
    have k0 := HA1.out.c 0 rfl
    go_wp2_with fail
    refine (toPool w1 a cap L (HS.out.below HB1.out) HL2.out HU.out).mono ?_
    rintro e w2 ⟨g1, M1, rfl, S2, D2, b2⟩
    unfold plV
    have HB2 := hid (HB1.out.trans (b2.mono HB1.out.size))
    have HA2 := hid (HA1.out.below b2 HA1.out.lt)
    have HS2 := hid S2
    have HD2 := hid D2
    clear b2 S2 D2 k0 hr
    go_wp2_with fail
    refine (sReadOf w2 _ _ M1 p k HS2.out.r (upto_data HD2.out HL2.out HU.out).1 (upto_data HD2.out HL2.out HU.out).2).mono ?_
    rintro e w3 ⟨rfl, b3⟩
    have HB3 := hid (HB2.out.trans (b3.mono HB2.out.size))
    have HA3 := hid (HA2.out.below b3 HA2.out.lt)
    rw [← readOf_data HD2.out]
    clear b3 HS2
    have k0 := HA3.out.c 0 rfl
    go_wp2_with fail
    refine (toPool w3 a cap L (HS.out.below HB3.out) HL2.out HU.out).mono ?_
    rintro e w4 ⟨g2, M2, rfl, S4, D4, b4⟩
    unfold plV
    have HB4 := hid (HB3.out.trans (b4.mono HB3.out.size))
    have HA4 := hid (HA3.out.below b4 HA3.out.lt)
    have HD4 := hid D4
    obtain ⟨wx, hwx, ex, X0, BX⟩ := one_new w4 [.slice (some ⟨g2, 0, none⟩) M2.length M2.length] 24
    have HXb := hid X0
    have HBx := hid (HB4.out.trans (BX.mono HB4.out.size))
    have HAx := hid (HA4.out.below BX HA4.out.lt)
    have HRx := hid (S4.r.below BX)
    have y0 := X0.c 0 rfl
    clear b4 S4 D4 k0 HA3 HA2 HA1 X0 BX ex HA4
    go_wp2_with fail
    try simp only [hwx]
    clear hwx
    refine (iReadOf wx _ _ M2 p k HRx.out (upto_data HD4.out HL2.out HU.out).1 (upto_data HD4.out HL2.out HU.out).2).mono ?_
    rintro e w5 ⟨rfl, b5⟩
    have HB5 := hid (HBx.out.trans (b5.mono HBx.out.size))
    have HXb5 := hid (HXb.out.below b5 HXb.out.lt)
    have HA5 := hid (HAx.out.below b5 HAx.out.lt)
    have HR5 := hid (HRx.out.below b5)
    rw [← readOf_data HD4.out]
    clear b5 y0 HXb HAx HRx HBx
    generalize readOf L p k = q at *
    have hqq := Own.eqS_yes (rfl : q = q)
    have k0 := HA5.out.c 0 rfl
    have y0 := HXb5.out.c 0 rfl
    go_wp2
    go_region_with (first
      | (go_at_call 14; refine (toPool _ a cap L (HS.out.below HB5.out.drew) HL2.out HU.out).mono ?_; rintro e w6 ⟨g3, M3, rfl, S6, D6, b6'⟩; unfold plV; have b6 := undrew b6'; have n0 := (HXb5.out.below b6 HXb5.out.lt).c 0 rfl)
      | (go_at_call 9; refine (eqPool _ _ _ _ _ M2 M3 (HR5.out.below b6) S6.r (HD4.out.symm.trans D6) (len_max (upto_data HD4.out HL2.out HU.out).1) (upto_max (upto_data HD4.out HL2.out HU.out).2)).mono ?_; rintro e w7 ⟨rfl, b7⟩))
    all_goals (have HB7 := hid ((HB5.out.trans (b6.mono HB5.out.size)).trans (b7.mono (Nat.le_trans HB5.out.size b6.size))); clear b6 b6' b7 S6 D6 n0 y0 k0; go_wp2; go_ret; exact ⟨rfl, HB7.out⟩)

end Go.Proofs.Ytgfkbgkbecgalaa.Pl
