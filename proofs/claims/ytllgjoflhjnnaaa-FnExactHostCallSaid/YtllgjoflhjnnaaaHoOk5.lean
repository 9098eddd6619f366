/-
  The walk of impl.hasRightCall. No condition but texts and lists of at most 2^20.
-/
import Derived.Test.YtllgjoflhjnnaaaHoOk3
namespace Go.Proofs.Ytllgjoflhjnnaaa.Pl
open Go.RowKit Go.Proofs.Ytllgjoflhjnnaaa.Mem Go.Proofs.Ytllgjoflhjnnaaa.Sec
set_option linter.unusedVariables false

set_option maxRecDepth 100000 in
set_option maxHeartbeats 8000000 in
theorem iRightCall (w : World) (H : Ho) (p : Option Addr) (c : Nat) (S : Ous w p H.l) (hu : H.Upto 1048576) :
    Calls Try.prog 27 #[hoV H p c] w fun r w' => r = .returned (.bool H.busy) ∧ Below w.heap.size w w' := by
  obtain ⟨id, ep, up, rd, bz, k, v, t, a, s, pc, cd, bk, tx, l, txn⟩ := H
  have HS : Hid (Ous w p l) := S
  have hs : s.size ≤ 1048576 := hu.s
  have htx : tx.size ≤ 1048576 := hu.tx
  have HL : Hid (l.length ≤ 1048576) := hu.l
  have HE : Hid (∀ x ∈ l, x.text.size ≤ 1048576) := hu.each
  clear S hu
  have HZK := hid (@zero_kept cd bk tx l)
  have HQ : Hid (Ho.busy ⟨id, ep, up, rd, bz, k, v, t, a, s, pc, cd, bk, tx, l, txn⟩ = (opRight k v t a s && (decide (0 ≤ pc ∧ pc ≤ 20) && (!(decide (1 ≤ pc ∧ pc ≤ 3) && decide (1000000 ≤ txn)) && (if pc = 0 then zeroPlan cd bk tx l else keptPlan cd bk tx l))))) := rfl
  generalize Ho.busy ⟨id, ep, up, rd, bz, k, v, t, a, s, pc, cd, bk, tx, l, txn⟩ = q at *
  unfold hoV
  try simp only []
  obtain ⟨wa, hwa, ez, A0, B0⟩ := one_new w [.int .i64 id, .int .i64 ep, .bool up, .bool rd, .bool bz, .int .i64 k, .int .i64 v, .int .i64 t, .int .i64 a, .string s, .int .i64 pc, .int .i64 cd, .int .i64 bk, .string tx, .slice p l.length c, .int .i64 txn] 36
  have HA := hid A0
  have HB := hid B0
  clear B0 ez
  have k0 := A0.c 0 rfl
  have k1 := A0.c 1 rfl
  have k2 := A0.c 2 rfl
  have k3 := A0.c 3 rfl
  have k4 := A0.c 4 rfl
  have k5 := A0.c 5 rfl
  have k6 := A0.c 6 rfl
  have k7 := A0.c 7 rfl
  have k8 := A0.c 8 rfl
  have k9 := A0.c 9 rfl
  have k10 := A0.c 10 rfl
  have k11 := A0.c 11 rfl
  have k12 := A0.c 12 rfl
  have k13 := A0.c 13 rfl
  have k14 := A0.c 14 rfl
  have k15 := A0.c 15 rfl
  clear A0
  have hgl := guardOpT
  go_enter Try.func27, Try.ntmps27
  go_wp2_with fail
  try simp only [hwa]
  clear hwa
  cases hz : opRight k v t a s with
  | false =>
    rw [hz, Bool.false_and] at HQ
    have ho := iOpOk k v t a s wa hs
    rw [hz] at ho
    refine ho.mono ?_
    rintro r w4 ⟨rfl, b4⟩
    have HB4 := hid (HB.out.trans (b4.mono HB.out.size))
    clear b4 hz ho
    go_wp2
    go_ret
    exact ⟨by rw [HQ.out]; rfl, HB4.out⟩
  | true =>
    rw [hz, Bool.true_and] at HQ
    have ho := iOpOk k v t a s wa hs
    rw [hz] at ho
    refine ho.mono ?_
    rintro r w4 ⟨rfl, b4⟩
    have HB4 := hid (HB.out.trans (b4.mono HB.out.size))
    have HA4 := hid (HA.out.below b4 HA.out.lt)
    clear b4 hz ho k0 k1 k2 k3 k4 k5 k6 k7 k8 k9 k10 k11 k12 k13 k14 k15
    have k10 := HA4.out.c 10 rfl
    have k11 := HA4.out.c 11 rfl
    have k12 := HA4.out.c 12 rfl
    have k13 := HA4.out.c 13 rfl
    have k14 := HA4.out.c 14 rfl
    have k15 := HA4.out.c 15 rfl
    go_wp2_with fail
    by_cases c3 : 0 ≤ pc ∧ pc ≤ 20
    rotate_left
    · have c3' := decide_eq_false c3
      rw [c3', Bool.false_and] at HQ
      refine (c3' ▸ isFrom pc 0 20 _).mono ?_
      rintro r w5 ⟨rfl, hw⟩
      obtain rfl := hw.symm
      clear c3
      go_wp2
      go_ret
      exact ⟨by rw [HQ.out]; rfl, HB4.out⟩
    have c3' := decide_eq_true c3
    rw [c3', Bool.true_and] at HQ
    refine (c3' ▸ isFrom pc 0 20 _).mono ?_
    rintro r w5 ⟨rfl, hw⟩
    obtain rfl := hw.symm
    clear c3 c3'
    go_wp2_with fail
    have hkp := iKeptPlan w4 cd bk tx p c l (HS.out.below HB4.out) htx HL.out HE.out
    cases hk : keptPlan cd bk tx l with
    | false =>
      have hif : (if pc = 0 then zeroPlan cd bk tx l else keptPlan cd bk tx l) = false := by
        split
        · cases hzz : zeroPlan cd bk tx l with
          | false => rfl
          | true => rw [HZK.out hzz] at hk; cases hk
        · exact hk
      rw [hif, Bool.and_false] at HQ
      rw [hk] at hkp
      refine hkp.mono ?_
      rintro r w6 ⟨rfl, b6⟩
      have HB6 := hid (HB4.out.trans (b6.mono HB4.out.size))
      clear b6 hkp hk hif
      go_wp2
      go_ret
      exact ⟨by rw [HQ.out]; rfl, HB6.out⟩
    | true =>
      rw [hk] at hkp HQ
      refine hkp.mono ?_
      rintro r w6 ⟨rfl, b6⟩
      have HB6 := hid (HB4.out.trans (b6.mono HB4.out.size))
      have HA6 := hid (HA4.out.below b6 HA4.out.lt)
      clear b6 hkp hk k10 k11 k12 k13 k14 k15 HZK
      have k10 := HA6.out.c 10 rfl
      have k11 := HA6.out.c 11 rfl
      have k12 := HA6.out.c 12 rfl
      have k13 := HA6.out.c 13 rfl
      have k14 := HA6.out.c 14 rfl
      have k15 := HA6.out.c 15 rfl
      by_cases e6 : pc = 0
      · subst e6
        rw [if_pos rfl] at HQ
        have hzc := iZeroPlan w6 cd bk tx p c l HL.out
        go_wp2_with fail
        cases hzp : zeroPlan cd bk tx l with
        | false =>
          rw [hzp, Bool.and_false] at HQ
          rw [hzp] at hzc
          refine hzc.mono ?_
          rintro r w7 ⟨rfl, b7⟩
          have HB7 := hid (HB6.out.trans (b7.mono HB6.out.size))
          clear b7 hzc hzp
          go_wp2
          go_ret
          exact ⟨by rw [HQ.out]; rfl, HB7.out⟩
        | true =>
          rw [hzp, Bool.and_true] at HQ
          rw [hzp] at hzc
          refine hzc.mono ?_
          rintro r w7 ⟨rfl, b7⟩
          have HB7 := hid (HB6.out.trans (b7.mono HB6.out.size))
          have HA7 := hid (HA6.out.below b7 HA6.out.lt)
          clear b7 hzc hzp k10 k11 k12 k13 k14 k15
          have k10 := HA7.out.c 10 rfl
          have k15 := HA7.out.c 15 rfl
          have hd0 : decide (1 ≤ (0 : Int) ∧ (0 : Int) ≤ 3) = false := by decide
          rw [hd0, Bool.false_and] at HQ
          simp only [Bool.not_false] at HQ
          by_cases c5 : txn < 1000000
          · have c5' := decide_eq_true c5
            go_wp2
            go_ret
            exact ⟨by rw [HQ.out]; rfl, HB7.out⟩
          · have c5' := decide_eq_false c5
            go_wp2_with fail
            refine (hd0 ▸ isFrom 0 1 3 _).mono ?_
            rintro r w8 ⟨rfl, hw⟩
            obtain rfl := hw.symm
            go_wp2
            go_ret
            exact ⟨by rw [HQ.out]; rfl, HB7.out⟩
      · rw [if_neg e6, Bool.and_true] at HQ
        have e6' := beq_no e6
        by_cases c5 : txn < 1000000
        · have c5' := decide_eq_true c5
          rw [decide_eq_false (show ¬ 1000000 ≤ txn by omega), Bool.and_false] at HQ
          simp only [Bool.not_false] at HQ
          go_wp2
          go_ret
          exact ⟨by rw [HQ.out]; rfl, HB6.out⟩
        · have c5' := decide_eq_false c5
          rw [decide_eq_true (show 1000000 ≤ txn by omega), Bool.and_true] at HQ
          go_wp2_with fail
          refine (isFrom pc 1 3 _).mono ?_
          rintro r w8 ⟨rfl, hw⟩
          obtain rfl := hw.symm
          generalize decide (1 ≤ pc ∧ pc ≤ 3) = z at *
          clear c5 e6
          go_wp2
          go_ret
          exact ⟨by rw [HQ.out]; rfl, HB6.out⟩

end Go.Proofs.Ytllgjoflhjnnaaa.Pl
