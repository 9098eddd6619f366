/-
  The walk of impl.HostOk. No condition but texts and lists of at most 2^20.
-/
import Derived.Test.YtllgjoflhjnnaaaHoOk7
import Derived.Test.YtllgjoflhjnnaaaHoOk5
namespace Go.Proofs.Ytllgjoflhjnnaaa.Pl
open Go.RowKit Go.Proofs.Ytllgjoflhjnnaaa.Mem Go.Proofs.Ytllgjoflhjnnaaa.Sec
set_option linter.unusedVariables false

set_option maxRecDepth 100000 in
set_option maxHeartbeats 8000000 in
theorem iHostOk (w : World) (H : Ho) (p : Option Addr) (c : Nat) (S : Ous w p H.l) (hu : H.Upto 1048576) :
    Calls Try.prog 8 #[hoV H p c] w fun r w' => r = .returned (.bool H.ok) ∧ Below w.heap.size w w' := by
  obtain ⟨id, ep, up, rd, bz, k, v, t, a, s, pc, cd, bk, tx, l, txn⟩ := H
  have HS : Hid (Ous w p l) := S
  have HU : Hid (Ho.Upto 1048576 ⟨id, ep, up, rd, bz, k, v, t, a, s, pc, cd, bk, tx, l, txn⟩) := hu
  clear S hu
  obtain ⟨qidle, hidle⟩ : ∃ I, Ho.idle ⟨id, ep, up, rd, bz, k, v, t, a, s, pc, cd, bk, tx, l, txn⟩ = I := ⟨_, rfl⟩
  have Hidle := hid hidle
  obtain ⟨qdown, hdown⟩ : ∃ I, Ho.down ⟨id, ep, up, rd, bz, k, v, t, a, s, pc, cd, bk, tx, l, txn⟩ = I := ⟨_, rfl⟩
  have Hdown := hid hdown
  obtain ⟨qbusy, hbusy⟩ : ∃ I, Ho.busy ⟨id, ep, up, rd, bz, k, v, t, a, s, pc, cd, bk, tx, l, txn⟩ = I := ⟨_, rfl⟩
  have Hbusy := hid hbusy
  have HQ : Hid (Ho.ok ⟨id, ep, up, rd, bz, k, v, t, a, s, pc, cd, bk, tx, l, txn⟩ = (decide (0 ≤ id ∧ id < 3) && (if up = true then decide (1 ≤ ep ∧ ep ≤ 100000) && (decide (0 ≤ txn ∧ txn ≤ 1000000) && (if bz = true then Ho.busy ⟨id, ep, up, rd, bz, k, v, t, a, s, pc, cd, bk, tx, l, txn⟩ else Ho.idle ⟨id, ep, up, rd, bz, k, v, t, a, s, pc, cd, bk, tx, l, txn⟩)) else Ho.down ⟨id, ep, up, rd, bz, k, v, t, a, s, pc, cd, bk, tx, l, txn⟩))) := rfl
  generalize Ho.ok ⟨id, ep, up, rd, bz, k, v, t, a, s, pc, cd, bk, tx, l, txn⟩ = q at *
  unfold hoV
  try simp only []
  obtain ⟨wa, hwa, ez, A0, B0⟩ := one_new w [.int .i64 id, .int .i64 ep, .bool up, .bool rd, .bool bz, .int .i64 k, .int .i64 v, .int .i64 t, .int .i64 a, .string s, .int .i64 pc, .int .i64 cd, .int .i64 bk, .string tx, .slice p l.length c, .int .i64 txn] 36
  have HA := hid A0
  have HB := hid B0
  clear B0 ez
  have k0 := A0.c 0 rfl
  have k1 := A0.c 1 rfl
  have k2 := A0.c 2 rfl
  have k3 := A0.c 3 rfl
  have k4 := A0.c 4 rfl
  have k5 := A0.c 5 rfl
  have k6 := A0.c 6 rfl
  have k7 := A0.c 7 rfl
  have k8 := A0.c 8 rfl
  have k9 := A0.c 9 rfl
  have k10 := A0.c 10 rfl
  have k11 := A0.c 11 rfl
  have k12 := A0.c 12 rfl
  have k13 := A0.c 13 rfl
  have k14 := A0.c 14 rfl
  have k15 := A0.c 15 rfl
  clear A0
  have hgl := guardOpT
  go_enter Try.func8, Try.ntmps8
  rw [Hidle.out, Hdown.out, Hbusy.out] at HQ
  clear hidle hdown hbusy
  go_wp2_with fail
  try simp only [hwa]
  clear hwa
  by_cases c0 : 0 ≤ id ∧ id < 3
  rotate_left
  · have c0' := decide_eq_false c0
    rw [c0', Bool.false_and] at HQ
    refine (c0' ▸ iIsHost id _).mono ?_
    rintro r w1 ⟨rfl, hw⟩
    obtain rfl := hw.symm
    clear c0
    go_wp2
    go_ret
    exact ⟨by rw [HQ.out]; rfl, HB.out⟩
  have c0' := decide_eq_true c0
  rw [c0', Bool.true_and] at HQ
  refine (c0' ▸ iIsHost id _).mono ?_
  rintro r w1 ⟨rfl, hw⟩
  obtain rfl := hw.symm
  clear c0 c0'
  cases up with
  | false =>
    simp only [Bool.false_eq_true, if_false] at HQ
    go_wp2_with fail
    refine (iFallen wa ⟨id, ep, false, rd, bz, k, v, t, a, s, pc, cd, bk, tx, l, txn⟩ p c HU.out.l).mono ?_
    rintro r w4 ⟨rfl, b4⟩
    rw [Hdown.out]
    have HB4 := hid (HB.out.trans (b4.mono HB.out.size))
    clear b4
    go_wp2
    go_ret
    exact ⟨by rw [HQ.out]; rfl, HB4.out⟩
  | true =>
    simp only [if_true] at HQ
    go_wp2_with fail
    by_cases c1 : 1 ≤ ep ∧ ep ≤ 100000
    rotate_left
    · have c1' := decide_eq_false c1
      rw [c1', Bool.false_and] at HQ
      refine (c1' ▸ isFrom ep 1 100000 _).mono ?_
      rintro r w2 ⟨rfl, hw⟩
      obtain rfl := hw.symm
      clear c1
      go_wp2
      go_ret
      exact ⟨by rw [HQ.out]; rfl, HB.out⟩
    have c1' := decide_eq_true c1
    rw [c1', Bool.true_and] at HQ
    refine (c1' ▸ isFrom ep 1 100000 _).mono ?_
    rintro r w2 ⟨rfl, hw⟩
    obtain rfl := hw.symm
    clear c1 c1'
    go_wp2_with fail
    by_cases c2 : 0 ≤ txn ∧ txn ≤ 1000000
    rotate_left
    · have c2' := decide_eq_false c2
      rw [c2', Bool.false_and] at HQ
      refine (c2' ▸ isFrom txn 0 1000000 _).mono ?_
      rintro r w3 ⟨rfl, hw⟩
      obtain rfl := hw.symm
      clear c2
      go_wp2
      go_ret
      exact ⟨by rw [HQ.out]; rfl, HB.out⟩
    have c2' := decide_eq_true c2
    rw [c2', Bool.true_and] at HQ
    refine (c2' ▸ isFrom txn 0 1000000 _).mono ?_
    rintro r w3 ⟨rfl, hw⟩
    obtain rfl := hw.symm
    clear c2 c2'
    cases bz with
    | false =>
      simp only [Bool.false_eq_true, if_false] at HQ
      go_wp2_with fail
      refine (iNoCall wa ⟨id, ep, true, rd, false, k, v, t, a, s, pc, cd, bk, tx, l, txn⟩ p c HU.out.l).mono ?_
      rintro r w4 ⟨rfl, b4⟩
      rw [Hidle.out]
      have HB4 := hid (HB.out.trans (b4.mono HB.out.size))
      clear b4
      go_wp2
      go_ret
      exact ⟨by rw [HQ.out]; rfl, HB4.out⟩
    | true =>
      simp only [if_true] at HQ
      go_wp2_with fail
      refine (iRightCall wa ⟨id, ep, true, rd, true, k, v, t, a, s, pc, cd, bk, tx, l, txn⟩ p c (HS.out.below HB.out) HU.out).mono ?_
      rintro r w4 ⟨rfl, b4⟩
      rw [Hbusy.out]
      have HB4 := hid (HB.out.trans (b4.mono HB.out.size))
      clear b4
      go_wp2
      go_ret
      exact ⟨by rw [HQ.out]; rfl, HB4.out⟩

end Go.Proofs.Ytllgjoflhjnnaaa.Pl
