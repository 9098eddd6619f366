/-
  The walk of impl.isFallen. No condition but lists of at most 2^20.
-/
import Derived.Test.YtllgjoflhjnnaaaHoOk4
namespace Go.Proofs.Ytllgjoflhjnnaaa.Pl
open Go.RowKit Go.Proofs.Ytllgjoflhjnnaaa.Mem Go.Proofs.Ytllgjoflhjnnaaa.Sec
set_option linter.unusedVariables false

set_option maxRecDepth 100000 in
set_option maxHeartbeats 8000000 in
theorem iFallen (w : World) (H : Ho) (p : Option Addr) (c : Nat) (hl : H.l.length ≤ 1048576) :
    Calls Try.prog 24 #[hoV H p c] w fun r w' => r = .returned (.bool H.down) ∧ Below w.heap.size w w' := by
  obtain ⟨id, ep, up, rd, bz, k, v, t, a, s, pc, cd, bk, tx, l, txn⟩ := H
  have HL : Hid (l.length ≤ 1048576) := hl
  clear hl
  obtain ⟨I, hI⟩ : ∃ I, Ho.idle ⟨id, ep, up, rd, bz, k, v, t, a, s, pc, cd, bk, tx, l, txn⟩ = I := ⟨_, rfl⟩
  have HI := hid hI
  have HQ : Hid (Ho.down ⟨id, ep, up, rd, bz, k, v, t, a, s, pc, cd, bk, tx, l, txn⟩ = (decide (ep = 0) && (!rd && (!bz && (decide (txn = 0) && Ho.idle ⟨id, ep, up, rd, bz, k, v, t, a, s, pc, cd, bk, tx, l, txn⟩))))) := rfl
  generalize Ho.down ⟨id, ep, up, rd, bz, k, v, t, a, s, pc, cd, bk, tx, l, txn⟩ = q at *
  unfold hoV
  try simp only []
  obtain ⟨wa, hwa, ez, A0, B0⟩ := one_new w [.int .i64 id, .int .i64 ep, .bool up, .bool rd, .bool bz, .int .i64 k, .int .i64 v, .int .i64 t, .int .i64 a, .string s, .int .i64 pc, .int .i64 cd, .int .i64 bk, .string tx, .slice p l.length c, .int .i64 txn] 36
  have HA := hid A0
  have HB := hid B0
  clear B0 ez
  have k0 := A0.c 0 rfl
  have k1 := A0.c 1 rfl
  have k2 := A0.c 2 rfl
  have k3 := A0.c 3 rfl
  have k4 := A0.c 4 rfl
  have k5 := A0.c 5 rfl
  have k6 := A0.c 6 rfl
  have k7 := A0.c 7 rfl
  have k8 := A0.c 8 rfl
  have k9 := A0.c 9 rfl
  have k10 := A0.c 10 rfl
  have k11 := A0.c 11 rfl
  have k12 := A0.c 12 rfl
  have k13 := A0.c 13 rfl
  have k14 := A0.c 14 rfl
  have k15 := A0.c 15 rfl
  clear A0
  have hgl := guardOpT
  go_enter Try.func24, Try.ntmps24
  rw [HI.out] at HQ
  clear hI
  by_cases e1 : ep = 0
  rotate_left
  · rw [decide_eq_false e1, Bool.false_and] at HQ
    have e1' := beq_no e1
    go_wp2
    go_ret
    exact ⟨by rw [HQ.out]; rfl, HB.out⟩
  subst e1
  rw [decide_eq_true rfl, Bool.true_and] at HQ
  cases rd with
  | true =>
    simp only [Bool.not_true, Bool.false_and] at HQ
    go_wp2
    go_ret
    exact ⟨by rw [HQ.out]; rfl, HB.out⟩
  | false =>
    simp only [Bool.not_false, Bool.true_and] at HQ
    cases bz with
    | true =>
      simp only [Bool.not_true, Bool.false_and] at HQ
      go_wp2
      go_ret
      exact ⟨by rw [HQ.out]; rfl, HB.out⟩
    | false =>
      simp only [Bool.not_false, Bool.true_and] at HQ
      by_cases e3 : txn = 0
      rotate_left
      · rw [decide_eq_false e3, Bool.false_and] at HQ
        have e3' := beq_no e3
        go_wp2
        go_ret
        exact ⟨by rw [HQ.out]; rfl, HB.out⟩
      subst e3
      rw [decide_eq_true rfl, Bool.true_and] at HQ
      go_wp2_with fail
      try simp only [hwa]
      clear hwa
      refine (iNoCall wa ⟨id, 0, up, false, false, k, v, t, a, s, pc, cd, bk, tx, l, 0⟩ p c HL.out).mono ?_
      rintro r w4 ⟨rfl, b4⟩
      have HB4 := hid (HB.out.trans (b4.mono HB.out.size))
      rw [HI.out]
      clear b4
      go_wp2
      go_ret
      exact ⟨by rw [HQ.out]; rfl, HB4.out⟩

end Go.Proofs.Ytllgjoflhjnnaaa.Pl
