/-
  The walks of impl.isJournal and spec.l4JournalOk: both answer whether a journal is right. No condition but texts and lists of at most 2^20.
-/
import Derived.Test.YtaopkchkhdbfnaaGreatDoorSecJn2
namespace Go.Proofs.YtaopkchkhdbfnaaGreatDoor.Sec
open Go.RowKit Go.Proofs.YtaopkchkhdbfnaaGreatDoor.Mem
set_option linter.unusedVariables false

/-- A journal's cells, its list at a. -/
def Jn.cells (J : Jn) (a : Option Addr) (cap : Nat) : List Value := [.int .i64 J.txn, .bool J.done, .int .i64 J.kind, .int .i64 J.vol, .int .i64 J.to, .int .i64 J.at_, .string J.text, .slice a J.outs.length cap]
def jnV (J : Jn) (a : Option Addr) (cap : Nat) : Value := .agg (J.cells a cap).toArray

/-- All of it is of a size that the law lets by. -/
structure Jn.Small (J : Jn) : Prop where
  text : J.text.size ≤ 1048576
  outs : J.outs.length ≤ 1048576
  each : ∀ x ∈ J.outs, x.text.size ≤ 1048576

theorem jok_done {J : Jn} (h : J.done = true) : J.ok = (decide (0 ≤ J.txn ∧ J.txn ≤ 1000000) && (decide (J.kind = 0 ∧ J.vol = 0 ∧ J.to = 0 ∧ J.at_ = 0 ∧ J.text.size = 0) && decide (J.outs.length = 0))) := by unfold Jn.ok; rw [if_pos h]
theorem jok_not {J : Jn} (h : J.done = false) : J.ok = (decide (1 ≤ J.txn ∧ J.txn ≤ 1000000) && (opOk J.kind J.vol J.to J.at_ J.text && (decide (1 ≤ J.outs.length ∧ J.outs.length ≤ 8) && outsOk J.outs))) := by unfold Jn.ok; rw [if_neg (by rw [h]; decide)]

set_option maxRecDepth 100000 in
set_option maxHeartbeats 2000000 in
theorem isJournal (w : World) (J : Jn) (a : Option Addr) (cap : Nat) (S : Ous w a J.outs) (hs : J.Small) :
    Calls Tryz.prog 183 #[jnV J a cap] w fun r w' => r = .returned (.bool J.ok) ∧ Below w.heap.size w w' := by
  unfold jnV
  obtain ⟨txn, dn, k, v, t, at_, s, l⟩ := J
  have z1 : s.size ≤ 1048576 := hs.text
  have z2 : l.length ≤ 1048576 := hs.outs
  have HS := hid S
  have HSm := hid hs
  clear S hs
  cases dn with
  | true =>
    have HE := hid (jok_done (J := ⟨txn, true, k, v, t, at_, s, l⟩) rfl)
    simp only [] at HE
    generalize (Jn.mk txn true k v t at_ s l).ok = q at *
    unfold Jn.cells
    simp only []
    obtain ⟨wa, hwa, ez, A0, B0⟩ := one_new w [.int .i64 txn, .bool true, .int .i64 k, .int .i64 v, .int .i64 t, .int .i64 at_, .string s, .slice a l.length cap] 95
    have k0 := A0.c 0 rfl
    have k1 := A0.c 1 rfl
    have k2 := A0.c 2 rfl
    have k3 := A0.c 3 rfl
    have k4 := A0.c 4 rfl
    have k5 := A0.c 5 rfl
    have k6 := A0.c 6 rfl
    have k7 := A0.c 7 rfl
    have HB := hid B0
    have hgo := guardOp
    clear A0 B0
    go_enter Tryz.func183, Tryz.ntmps183
    go_wp2_with fail
    by_cases c0 : 0 ≤ txn ∧ txn ≤ 1000000
    · have c0' := decide_eq_true c0
      rw [c0', Bool.true_and] at HE
      clear c0
      refine (c0' ▸ isFrom txn 0 1000000 _).mono ?_
      rintro r w1 ⟨rfl, hw⟩
      obtain rfl := hw.symm
      have heq := eql_op k v t at_ s
      by_cases c1 : k = 0 ∧ v = 0 ∧ t = 0 ∧ at_ = 0 ∧ s.size = 0
      · rw [decide_eq_true c1] at HE
        simp only [decide_eq_true c1] at heq
        clear c1
        by_cases c2 : (l.length : Int) = 0
        · have HQ : Hid (q = true) := by rw [Hid, HE.out, decide_eq_true (show l.length = 0 by omega)]; rfl
          have c2' : ((l.length : Int) == 0) = true := by simpa using c2
          clear c2
          go_wp2
          go_ret
          exact ⟨by rw [HQ.out]; rfl, HB.out⟩
        · have HQ : Hid (q = false) := by rw [Hid, HE.out, decide_eq_false (show ¬ l.length = 0 by omega)]; rfl
          have c2' : ((l.length : Int) == 0) = false := by simpa using c2
          clear c2
          go_wp2
          go_ret
          exact ⟨by rw [HQ.out]; rfl, HB.out⟩
      · rw [decide_eq_false c1] at HE
        simp only [decide_eq_false c1] at heq
        clear c1
        go_wp2
        go_ret
        exact ⟨by rw [HE.out]; rfl, HB.out⟩
    · have c0' := decide_eq_false c0
      rw [c0', Bool.false_and] at HE
      clear c0
      refine (c0' ▸ isFrom txn 0 1000000 _).mono ?_
      rintro r w1 ⟨rfl, hw⟩
      obtain rfl := hw.symm
      go_wp2
      go_ret
      exact ⟨by rw [HE.out]; rfl, HB.out⟩
  | false =>
    have HE := hid (jok_not (J := ⟨txn, false, k, v, t, at_, s, l⟩) rfl)
    simp only [] at HE
    have Hs3 : Hid (∀ x ∈ l, x.text.size ≤ 1048576) := HSm.out.each
    generalize (Jn.mk txn false k v t at_ s l).ok = q at *
    unfold Jn.cells
    simp only []
    obtain ⟨wa, hwa, ez, A0, B0⟩ := one_new w [.int .i64 txn, .bool false, .int .i64 k, .int .i64 v, .int .i64 t, .int .i64 at_, .string s, .slice a l.length cap] 95
    have k0 := A0.c 0 rfl
    have k1 := A0.c 1 rfl
    have k2 := A0.c 2 rfl
    have k3 := A0.c 3 rfl
    have k4 := A0.c 4 rfl
    have k5 := A0.c 5 rfl
    have k6 := A0.c 6 rfl
    have k7 := A0.c 7 rfl
    have HA := hid A0
    have HB := hid B0
    clear A0 B0
    go_enter Tryz.func183, Tryz.ntmps183
    go_wp2_with fail
    by_cases c0 : 1 ≤ txn ∧ txn ≤ 1000000
    · have c0' := decide_eq_true c0
      rw [c0', Bool.true_and] at HE
      clear c0
      refine (c0' ▸ isFrom txn 1 1000000 _).mono ?_
      rintro r w1 ⟨rfl, hw⟩
      obtain rfl := hw.symm
      go_wp2_with fail
      refine (isJournalOp k v t at_ s _ z1).mono ?_
      rintro r w2 ⟨rfl, b2⟩
      replace k7 := (HA.out.below b2 HA.out.lt).c 7 rfl
      have HB2 := hid (HB.out.trans (b2.mono HB.out.size))
      clear b2 hwa k0 k1 k2 k3 k4 k5 k6 HA
      cases hz : opOk k v t at_ s with
      | true =>
        rw [hz, Bool.true_and] at HE
        clear hz
        by_cases c2 : 0 < (l.length : Int)
        · go_wp2_with fail
          refine (areOuts w2 a cap l (HS.out.below HB2.out) z2 Hs3.out).mono ?_
          rintro r w3 ⟨rfl, b3⟩
          have HB3 := hid (HB2.out.trans (b3.mono HB2.out.size))
          have HQ : Hid (q = (decide (l.length ≤ 8) && outsOk l)) := by
            rw [Hid, HE.out]
            congr 1
            exact decide_eq_decide.2 ⟨fun x => x.2, fun x => ⟨by omega, x⟩⟩
          generalize (decide (l.length ≤ 8) && outsOk l) = z at *
          clear b3
          go_wp2
          go_ret
          exact ⟨by rw [HQ.out]; rfl, HB3.out⟩
        · have HQ : Hid (q = false) := by rw [Hid, HE.out, decide_eq_false (show ¬ (1 ≤ l.length ∧ l.length ≤ 8) by omega)]; rfl
          go_wp2
          go_ret
          exact ⟨by rw [HQ.out]; rfl, HB2.out⟩
      | false =>
        rw [hz, Bool.false_and] at HE
        clear hz
        go_wp2
        go_ret
        exact ⟨by rw [HE.out]; rfl, HB2.out⟩
    · have c0' := decide_eq_false c0
      rw [c0', Bool.false_and] at HE
      clear c0
      refine (c0' ▸ isFrom txn 1 1000000 _).mono ?_
      rintro r w1 ⟨rfl, hw⟩
      obtain rfl := hw.symm
      go_wp2
      go_ret
      exact ⟨by rw [HE.out]; rfl, HB.out⟩

end Go.Proofs.YtaopkchkhdbfnaaGreatDoor.Sec
