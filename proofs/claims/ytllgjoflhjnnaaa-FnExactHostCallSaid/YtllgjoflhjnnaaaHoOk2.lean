/-
  The walk of spec.HostOk. No condition but texts and lists of at most 2^20.
-/
import Derived.Test.YtllgjoflhjnnaaaHoOk
namespace Go.Proofs.Ytllgjoflhjnnaaa.Pl
open Go.RowKit Go.Proofs.Ytllgjoflhjnnaaa.Mem Go.Proofs.Ytllgjoflhjnnaaa.Sec
set_option linter.unusedVariables false

set_option maxRecDepth 100000 in
set_option maxHeartbeats 8000000 in
theorem sHostOk (w : World) (H : Ho) (p : Option Addr) (c : Nat) (S : Ous w p H.l) (hu : H.Upto 1048576) :
    Calls Try.prog 6 #[hoV H p c] w fun r w' => r = .returned (.bool H.ok) ∧ Below w.heap.size w w' := by
  obtain ⟨id, ep, up, rd, bz, k, v, t, a, s, pc, cd, bk, tx, l, txn⟩ := H
  have HS : Hid (Ous w p l) := S
  have hs : s.size ≤ 1048576 := hu.s
  have htx : tx.size ≤ 1048576 := hu.tx
  have HL : Hid (l.length ≤ 1048576) := hu.l
  have HE : Hid (∀ x ∈ l, x.text.size ≤ 1048576) := hu.each
  clear S hu
  have HQ : Hid (Ho.ok ⟨id, ep, up, rd, bz, k, v, t, a, s, pc, cd, bk, tx, l, txn⟩ = (decide (0 ≤ id ∧ id < 3) && (if up = true then decide (1 ≤ ep ∧ ep ≤ 100000) && (decide (0 ≤ txn ∧ txn ≤ 1000000) && (if bz = true then (opRight k v t a s && (decide (0 ≤ pc ∧ pc ≤ 20) && (!(decide (1 ≤ pc ∧ pc ≤ 3) && decide (1000000 ≤ txn)) && (if pc = 0 then zeroPlan cd bk tx l else keptPlan cd bk tx l)))) else (decide (k = 0 ∧ v = 0 ∧ t = 0 ∧ a = 0 ∧ s = ⟨#[]⟩) && (decide (pc = 0) && zeroPlan cd bk tx l)))) else (decide (ep = 0) && (!rd && (!bz && (decide (txn = 0) && (decide (k = 0 ∧ v = 0 ∧ t = 0 ∧ a = 0 ∧ s = ⟨#[]⟩) && (decide (pc = 0) && zeroPlan cd bk tx l))))))))) := rfl
  generalize Ho.ok ⟨id, ep, up, rd, bz, k, v, t, a, s, pc, cd, bk, tx, l, txn⟩ = q at *
  unfold hoV
  try simp only []
  obtain ⟨wa, hwa, ez, A0, B0⟩ := one_new w [.int .i64 id, .int .i64 ep, .bool up, .bool rd, .bool bz, .int .i64 k, .int .i64 v, .int .i64 t, .int .i64 a, .string s, .int .i64 pc, .int .i64 cd, .int .i64 bk, .string tx, .slice p l.length c, .int .i64 txn] 36
  have HA := hid A0
  have HB := hid B0
  clear B0 ez
  have k0 := A0.c 0 rfl
  have k1 := A0.c 1 rfl
  have k2 := A0.c 2 rfl
  have k3 := A0.c 3 rfl
  have k4 := A0.c 4 rfl
  have k5 := A0.c 5 rfl
  have k6 := A0.c 6 rfl
  have k7 := A0.c 7 rfl
  have k8 := A0.c 8 rfl
  have k9 := A0.c 9 rfl
  have k10 := A0.c 10 rfl
  have k11 := A0.c 11 rfl
  have k12 := A0.c 12 rfl
  have k13 := A0.c 13 rfl
  have k14 := A0.c 14 rfl
  have k15 := A0.c 15 rfl
  clear A0
  have hgl := guardOpT
  go_enter Try.func6, Try.ntmps6
  go_wp2_with fail
  try simp only [hwa]
  clear hwa
  by_cases c0 : 0 ≤ id ∧ id < 3
  rotate_left
  · have c0' := decide_eq_false c0
    rw [c0', Bool.false_and] at HQ
    refine (c0' ▸ l3Host id _).mono ?_
    rintro r w1 ⟨rfl, hw⟩
    obtain rfl := hw.symm
    clear c0
    go_wp2
    go_ret
    exact ⟨by rw [HQ.out]; rfl, HB.out⟩
  have c0' := decide_eq_true c0
  rw [c0', Bool.true_and] at HQ
  refine (c0' ▸ l3Host id _).mono ?_
  rintro r w1 ⟨rfl, hw⟩
  obtain rfl := hw.symm
  clear c0 c0'
  cases up with
  | false =>
    simp only [Bool.false_eq_true, if_false] at HQ
    by_cases e1 : ep = 0
    rotate_left
    · rw [decide_eq_false e1, Bool.false_and] at HQ
      have e1' := beq_no e1
      go_wp2
      go_ret
      exact ⟨by rw [HQ.out]; rfl, HB.out⟩
    subst e1
    rw [decide_eq_true rfl, Bool.true_and] at HQ
    cases rd with
    | true =>
      simp only [Bool.not_true, Bool.false_and] at HQ
      go_wp2
      go_ret
      exact ⟨by rw [HQ.out]; rfl, HB.out⟩
    | false =>
      simp only [Bool.not_false, Bool.true_and] at HQ
      cases bz with
      | true =>
        simp only [Bool.not_true, Bool.false_and] at HQ
        go_wp2
        go_ret
        exact ⟨by rw [HQ.out]; rfl, HB.out⟩
      | false =>
        simp only [Bool.not_false, Bool.true_and] at HQ
        cases hz : decide (k = 0 ∧ v = 0 ∧ t = 0 ∧ a = 0 ∧ s = ⟨#[]⟩) with
        | false =>
          rw [hz, Bool.false_and, Bool.and_false] at HQ
          have heq := eql_is hz
          clear hz
          go_wp2
          go_ret
          exact ⟨by rw [HQ.out]; rfl, HB.out⟩
        | true =>
          rw [hz, Bool.true_and] at HQ
          have heq := eql_is hz
          clear hz
          by_cases e2 : pc = 0
          rotate_left
          · rw [decide_eq_false e2, Bool.false_and, Bool.and_false] at HQ
            have e2' := beq_no e2
            go_wp2
            go_ret
            exact ⟨by rw [HQ.out]; rfl, HB.out⟩
          subst e2
          rw [decide_eq_true rfl, Bool.true_and] at HQ
          go_wp2_with fail
          cases hzp : zeroPlan cd bk tx l with
          | false =>
            have HZ := hid (sZeroPlan wa cd bk tx p c l HL.out)
            rw [hzp] at HZ
            refine HZ.out.mono ?_
            rintro r w2 ⟨rfl, bzw2⟩
            have HBw2 := hid (HB.out.trans (bzw2.mono HB.out.size))
            have HAw2 := hid (HA.out.below bzw2 HA.out.lt)
            clear bzw2 HZ
            rw [hzp, Bool.and_false] at HQ
            clear hzp heq
            go_wp2
            go_ret
            exact ⟨by rw [HQ.out]; rfl, HBw2.out⟩
          | true =>
            have HZ := hid (sZeroPlan wa cd bk tx p c l HL.out)
            rw [hzp] at HZ
            refine HZ.out.mono ?_
            rintro r w2 ⟨rfl, bzw2⟩
            have HBw2 := hid (HB.out.trans (bzw2.mono HB.out.size))
            have HAw2 := hid (HA.out.below bzw2 HA.out.lt)
            clear bzw2 HZ
            rw [hzp, Bool.and_true] at HQ
            clear hzp heq k0 k1 k2 k3 k4 k5 k6 k7 k8 k9 k10 k11 k12 k13 k14 k15
            have k15 := HAw2.out.c 15 rfl
            by_cases e3 : txn = 0
            · subst e3
              rw [decide_eq_true rfl] at HQ
              go_wp2
              go_ret
              exact ⟨by rw [HQ.out]; rfl, HBw2.out⟩
            · rw [decide_eq_false e3] at HQ
              have e3' := beq_no e3
              go_wp2
              go_ret
              exact ⟨by rw [HQ.out]; rfl, HBw2.out⟩
  | true =>
    simp only [if_true] at HQ
    go_wp2_with fail
    by_cases c1 : 1 ≤ ep ∧ ep ≤ 100000
    rotate_left
    · have c1' := decide_eq_false c1
      rw [c1', Bool.false_and] at HQ
      refine (c1' ▸ l1In ep 1 100000 _).mono ?_
      rintro r w2 ⟨rfl, hw⟩
      obtain rfl := hw.symm
      clear c1
      go_wp2
      go_ret
      exact ⟨by rw [HQ.out]; rfl, HB.out⟩
    have c1' := decide_eq_true c1
    rw [c1', Bool.true_and] at HQ
    refine (c1' ▸ l1In ep 1 100000 _).mono ?_
    rintro r w2 ⟨rfl, hw⟩
    obtain rfl := hw.symm
    clear c1 c1'
    go_wp2_with fail
    by_cases c2 : 0 ≤ txn ∧ txn ≤ 1000000
    rotate_left
    · have c2' := decide_eq_false c2
      rw [c2', Bool.false_and] at HQ
      refine (c2' ▸ l1In txn 0 1000000 _).mono ?_
      rintro r w3 ⟨rfl, hw⟩
      obtain rfl := hw.symm
      clear c2
      go_wp2
      go_ret
      exact ⟨by rw [HQ.out]; rfl, HB.out⟩
    have c2' := decide_eq_true c2
    rw [c2', Bool.true_and] at HQ
    refine (c2' ▸ l1In txn 0 1000000 _).mono ?_
    rintro r w3 ⟨rfl, hw⟩
    obtain rfl := hw.symm
    clear c2 c2'
    cases bz with
    | false =>
      simp only [Bool.false_eq_true, if_false] at HQ
      cases hz : decide (k = 0 ∧ v = 0 ∧ t = 0 ∧ a = 0 ∧ s = ⟨#[]⟩) with
      | false =>
        rw [hz, Bool.false_and] at HQ
        have heq := eql_is hz
        clear hz
        go_wp2
        go_ret
        exact ⟨by rw [HQ.out]; rfl, HB.out⟩
      | true =>
        rw [hz, Bool.true_and] at HQ
        have heq := eql_is hz
        clear hz
        by_cases e2 : pc = 0
        rotate_left
        · rw [decide_eq_false e2, Bool.false_and] at HQ
          have e2' := beq_no e2
          go_wp2
          go_ret
          exact ⟨by rw [HQ.out]; rfl, HB.out⟩
        subst e2
        rw [decide_eq_true rfl, Bool.true_and] at HQ
        go_wp2_with fail
        refine (sZeroPlan _ cd bk tx p c l HL.out).mono ?_
        rintro r w4 ⟨rfl, b4⟩
        have HB4 := hid (HB.out.trans (b4.mono HB.out.size))
        clear b4 heq
        go_wp2
        go_ret
        exact ⟨by rw [HQ.out]; rfl, HB4.out⟩
    | true =>
      simp only [if_true] at HQ
      go_wp2_with fail
      cases hz : opRight k v t a s with
      | false =>
        rw [hz, Bool.false_and] at HQ
        have ho := sOpOk k v t a s wa hs
        rw [hz] at ho
        refine ho.mono ?_
        rintro r w4 ⟨rfl, b4⟩
        have HB4 := hid (HB.out.trans (b4.mono HB.out.size))
        clear b4 hz ho
        go_wp2
        go_ret
        exact ⟨by rw [HQ.out]; rfl, HB4.out⟩
      | true =>
        rw [hz, Bool.true_and] at HQ
        have ho := sOpOk k v t a s wa hs
        rw [hz] at ho
        refine ho.mono ?_
        rintro r w4 ⟨rfl, b4⟩
        have HB4 := hid (HB.out.trans (b4.mono HB.out.size))
        have HA4 := hid (HA.out.below b4 HA.out.lt)
        clear b4 hz ho k0 k1 k2 k3 k4 k5 k6 k7 k8 k9 k10 k11 k12 k13 k14 k15
        have k10 := HA4.out.c 10 rfl
        have k11 := HA4.out.c 11 rfl
        have k12 := HA4.out.c 12 rfl
        have k13 := HA4.out.c 13 rfl
        have k14 := HA4.out.c 14 rfl
        have k15 := HA4.out.c 15 rfl
        go_wp2_with fail
        by_cases c3 : 0 ≤ pc ∧ pc ≤ 20
        rotate_left
        · have c3' := decide_eq_false c3
          rw [c3', Bool.false_and] at HQ
          refine (c3' ▸ l1In pc 0 20 _).mono ?_
          rintro r w5 ⟨rfl, hw⟩
          obtain rfl := hw.symm
          clear c3
          go_wp2
          go_ret
          exact ⟨by rw [HQ.out]; rfl, HB4.out⟩
        have c3' := decide_eq_true c3
        rw [c3', Bool.true_and] at HQ
        refine (c3' ▸ l1In pc 0 20 _).mono ?_
        rintro r w5 ⟨rfl, hw⟩
        obtain rfl := hw.symm
        clear c3 c3'
        go_wp2_with fail
        by_cases c4 : 1 ≤ pc ∧ pc ≤ 3
        · have c4' := decide_eq_true c4
          rw [c4', Bool.true_and] at HQ
          refine (c4' ▸ l1In pc 1 3 _).mono ?_
          rintro r w6 ⟨rfl, hw⟩
          obtain rfl := hw.symm
          by_cases c5 : 1000000 ≤ txn
          · rw [decide_eq_true c5] at HQ
            simp only [Bool.not_true, Bool.false_and] at HQ
            clear c4
            go_wp2
            go_ret
            exact ⟨by rw [HQ.out]; rfl, HB4.out⟩
          · rw [decide_eq_false c5] at HQ
            simp only [Bool.not_false, Bool.true_and] at HQ
            have c5' : decide (txn ≥ 1000000) = false := decide_eq_false c5
            have e6 : ¬ pc = 0 := by omega
            clear c4 c4'
            rw [if_neg e6] at HQ
            have e6' := beq_no e6
            have HK := hid HQ.out
            unfold keptPlan at HK
            by_cases f1 : cd = 0
            rotate_left
            · rw [decide_eq_false f1, Bool.false_and] at HK
              have f1' := beq_no f1
              have HQ := hid HK.out
              go_wp2
              go_ret
              exact ⟨by rw [HQ.out]; rfl, HB4.out⟩
            subst f1
            rw [decide_eq_true rfl, Bool.true_and] at HK
            go_wp2_with fail
            by_cases f2 : -1 ≤ bk ∧ bk ≤ 17
            rotate_left
            · have f2' := decide_eq_false f2
              rw [f2', Bool.false_and] at HK
              have HQ := hid HK.out
              refine (f2' ▸ l1In bk (-1) 17 _).mono ?_
              rintro r w7 ⟨rfl, hw⟩
              obtain rfl := hw.symm
              clear f2
              go_wp2
              go_ret
              exact ⟨by rw [HQ.out]; rfl, HB4.out⟩
            have f2' := decide_eq_true f2
            rw [f2', Bool.true_and] at HK
            refine (f2' ▸ l1In bk (-1) 17 _).mono ?_
            rintro r w7 ⟨rfl, hw⟩
            obtain rfl := hw.symm
            clear f2 f2'
            by_cases f3 : (tx.size : Int) ≤ 16
            rotate_left
            · rw [decide_eq_false f3, Bool.false_and] at HK
              have HQ := hid HK.out
              have f3' := decide_eq_false f3
              go_wp2
              go_ret
              exact ⟨by rw [HQ.out]; rfl, HB4.out⟩
            rw [decide_eq_true f3, Bool.true_and] at HK
            have HQ := hid HK.out
            go_wp2_with fail
            refine (sOuts w4 p c l (HS.out.below HB4.out) HL.out HE.out).mono ?_
            rintro r w8 ⟨rfl, b8⟩
            have HB8 := hid (HB4.out.trans (b8.mono HB4.out.size))
            clear b8
            go_wp2
            go_ret
            exact ⟨by rw [HQ.out]; rfl, HB8.out⟩
        · have c4' := decide_eq_false c4
          rw [c4', Bool.false_and] at HQ
          simp only [Bool.not_false, Bool.true_and] at HQ
          refine (c4' ▸ l1In pc 1 3 _).mono ?_
          rintro r w6 ⟨rfl, hw⟩
          obtain rfl := hw.symm
          clear c4 c4'
          by_cases e6 : pc = 0
          · subst e6
            rw [if_pos rfl] at HQ
            go_wp2_with fail
            refine (sZeroPlan _ cd bk tx p c l HL.out).mono ?_
            rintro r w7 ⟨rfl, b7⟩
            have HB7 := hid (HB4.out.trans (b7.mono HB4.out.size))
            clear b7
            go_wp2
            go_ret
            exact ⟨by rw [HQ.out]; rfl, HB7.out⟩
          rw [if_neg e6] at HQ
          have e6' := beq_no e6
          have HK := hid HQ.out
          unfold keptPlan at HK
          by_cases f1 : cd = 0
          rotate_left
          · rw [decide_eq_false f1, Bool.false_and] at HK
            have f1' := beq_no f1
            have HQ := hid HK.out
            go_wp2
            go_ret
            exact ⟨by rw [HQ.out]; rfl, HB4.out⟩
          subst f1
          rw [decide_eq_true rfl, Bool.true_and] at HK
          go_wp2_with fail
          by_cases f2 : -1 ≤ bk ∧ bk ≤ 17
          rotate_left
          · have f2' := decide_eq_false f2
            rw [f2', Bool.false_and] at HK
            have HQ := hid HK.out
            refine (f2' ▸ l1In bk (-1) 17 _).mono ?_
            rintro r w7 ⟨rfl, hw⟩
            obtain rfl := hw.symm
            clear f2
            go_wp2
            go_ret
            exact ⟨by rw [HQ.out]; rfl, HB4.out⟩
          have f2' := decide_eq_true f2
          rw [f2', Bool.true_and] at HK
          refine (f2' ▸ l1In bk (-1) 17 _).mono ?_
          rintro r w7 ⟨rfl, hw⟩
          obtain rfl := hw.symm
          clear f2 f2'
          by_cases f3 : (tx.size : Int) ≤ 16
          rotate_left
          · rw [decide_eq_false f3, Bool.false_and] at HK
            have HQ := hid HK.out
            have f3' := decide_eq_false f3
            go_wp2
            go_ret
            exact ⟨by rw [HQ.out]; rfl, HB4.out⟩
          rw [decide_eq_true f3, Bool.true_and] at HK
          have HQ := hid HK.out
          go_wp2_with fail
          refine (sOuts w4 p c l (HS.out.below HB4.out) HL.out HE.out).mono ?_
          rintro r w8 ⟨rfl, b8⟩
          have HB8 := hid (HB4.out.trans (b8.mono HB4.out.size))
          clear b8
          go_wp2
          go_ret
          exact ⟨by rw [HQ.out]; rfl, HB8.out⟩

end Go.Proofs.Ytllgjoflhjnnaaa.Pl
