/-
  The walks of impl.isJournal and spec.l4JournalOk: both answer whether a journal is right. No condition but texts and lists of at most 2^20.
  The walk of spec.l4JournalOk: it answers whether a journal is right. No condition but texts and lists of at most 2^20.
  The walks of spec.ShowJournal, impl.showOp and impl.showOuts. No condition but texts and lists of at most 2^20.
  The walks of impl.showOp, impl.showOuts and impl.ShowJournal. Condition for the last: the table of sixteen sums holds what the program's text lays.
  The walks of impl.showOuts and impl.ShowJournal. Condition for the last: the table of sixteen sums holds what the program's text lays.
  Plain: what a piece and outs are read as. The walks of impl's cursor's piece, and of impl.outsParts. Condition: the error of a part that lacks stands in its variable.
  The walks of impl.hostParts, impl.readKind at a host's sector, and impl.ReadHost. Condition: the table of sixteen sums and the error of a part that lacks stand in their variables.
  The walks of spec.ShowVol and impl.ShowVol: both give a volume's text. Condition for impl's: the table of sixteen sums holds what the program's text lays.
  The walks of spec.ShowGroup and impl.ShowGroup: both give a group's text. Condition for impl's: the table of sixteen sums holds what the program's text lays.
  The walks of impl.groupParts, impl.readKind at a group's sector, and impl.ReadGroup. Condition: the table of sixteen sums and the error of a part that lacks stand in their variables.
  The walks of impl's cursor's flag and of impl.volParts. Condition: the table of sixteen sums and the error of a part that lacks stand in their variables.
  The walks of impl.opParts and impl.journalParts. Condition: the error of a part that lacks stands in its variable.
-/
import Derived.Test.YtfbnnhgaedficafDoorJoin2
import Derived.RegionTactic
import Derived.BigRegion
import Derived.Deep.RegionWith
import Derived.Deep.RegionHeldLaw
import Derived.Test.YtfbnnhgaedficafDoorJoin1
import Derived.Tactics
import Derived.Tactics2
import Derived.Defers
import Derived.Recover
import Derived.RegionDies
namespace Go.Proofs.YtfbnnhgaedficafDoor.Sec
open Go.RowKit Go.Proofs.YtfbnnhgaedficafDoor.Mem
set_option linter.unusedVariables false

/-- A journal's cells, its list at a. -/
def Jn.cells (J : Jn) (a : Option Addr) (cap : Nat) : List Value := [.int .i64 J.txn, .bool J.done, .int .i64 J.kind, .int .i64 J.vol, .int .i64 J.to, .int .i64 J.at_, .string J.text, .slice a J.outs.length cap]
def jnV (J : Jn) (a : Option Addr) (cap : Nat) : Value := .agg (J.cells a cap).toArray

/-- All of it is of a size that the law lets by. -/
structure Jn.Small (J : Jn) : Prop where
  text : J.text.size ≤ 1048576
  outs : J.outs.length ≤ 1048576
  each : ∀ x ∈ J.outs, x.text.size ≤ 1048576

theorem jok_done {J : Jn} (h : J.done = true) : J.ok = (decide (0 ≤ J.txn ∧ J.txn ≤ 1000000) && (decide (J.kind = 0 ∧ J.vol = 0 ∧ J.to = 0 ∧ J.at_ = 0 ∧ J.text.size = 0) && decide (J.outs.length = 0))) := by unfold Jn.ok; rw [if_pos h]
theorem jok_not {J : Jn} (h : J.done = false) : J.ok = (decide (1 ≤ J.txn ∧ J.txn ≤ 1000000) && (opOk J.kind J.vol J.to J.at_ J.text && (decide (1 ≤ J.outs.length ∧ J.outs.length ≤ 8) && outsOk J.outs))) := by unfold Jn.ok; rw [if_neg (by rw [h]; decide)]

set_option maxRecDepth 100000 in
set_option maxHeartbeats 2000000 in
theorem isJournal (w : World) (J : Jn) (a : Option Addr) (cap : Nat) (S : Ous w a J.outs) (hs : J.Small) :
    Calls Tryd.prog 47 #[jnV J a cap] w fun r w' => r = .returned (.bool J.ok) ∧ Below w.heap.size w w' := by
  unfold jnV
  obtain ⟨txn, dn, k, v, t, at_, s, l⟩ := J
  have z1 : s.size ≤ 1048576 := hs.text
  have z2 : l.length ≤ 1048576 := hs.outs
  have HS := hid S
  have HSm := hid hs
  clear S hs
  cases dn with
  | true =>
    have HE := hid (jok_done (J := ⟨txn, true, k, v, t, at_, s, l⟩) rfl)
    simp only [] at HE
    generalize (Jn.mk txn true k v t at_ s l).ok = q at *
    unfold Jn.cells
    simp only []
    obtain ⟨wa, hwa, ez, A0, B0⟩ := one_new w [.int .i64 txn, .bool true, .int .i64 k, .int .i64 v, .int .i64 t, .int .i64 at_, .string s, .slice a l.length cap] 41
    have k0 := A0.c 0 rfl
    have k1 := A0.c 1 rfl
    have k2 := A0.c 2 rfl
    have k3 := A0.c 3 rfl
    have k4 := A0.c 4 rfl
    have k5 := A0.c 5 rfl
    have k6 := A0.c 6 rfl
    have k7 := A0.c 7 rfl
    have HB := hid B0
    have hgo := guardOp
    clear A0 B0
    go_enter Tryd.func47, Tryd.ntmps47
    go_wp2_with fail
    by_cases c0 : 0 ≤ txn ∧ txn ≤ 1000000
    · have c0' := decide_eq_true c0
      rw [c0', Bool.true_and] at HE
      clear c0
      refine (c0' ▸ isFrom txn 0 1000000 _).mono ?_
      rintro r w1 ⟨rfl, hw⟩
      obtain rfl := hw.symm
      have heq := eql_op k v t at_ s
      by_cases c1 : k = 0 ∧ v = 0 ∧ t = 0 ∧ at_ = 0 ∧ s.size = 0
      · rw [decide_eq_true c1] at HE
        simp only [decide_eq_true c1] at heq
        clear c1
        by_cases c2 : (l.length : Int) = 0
        · have HQ : Hid (q = true) := by rw [Hid, HE.out, decide_eq_true (show l.length = 0 by omega)]; rfl
          have c2' : ((l.length : Int) == 0) = true := by simpa using c2
          clear c2
          go_wp2
          go_ret
          exact ⟨by rw [HQ.out]; rfl, HB.out⟩
        · have HQ : Hid (q = false) := by rw [Hid, HE.out, decide_eq_false (show ¬ l.length = 0 by omega)]; rfl
          have c2' : ((l.length : Int) == 0) = false := by simpa using c2
          clear c2
          go_wp2
          go_ret
          exact ⟨by rw [HQ.out]; rfl, HB.out⟩
      · rw [decide_eq_false c1] at HE
        simp only [decide_eq_false c1] at heq
        clear c1
        go_wp2
        go_ret
        exact ⟨by rw [HE.out]; rfl, HB.out⟩
    · have c0' := decide_eq_false c0
      rw [c0', Bool.false_and] at HE
      clear c0
      refine (c0' ▸ isFrom txn 0 1000000 _).mono ?_
      rintro r w1 ⟨rfl, hw⟩
      obtain rfl := hw.symm
      go_wp2
      go_ret
      exact ⟨by rw [HE.out]; rfl, HB.out⟩
  | false =>
    have HE := hid (jok_not (J := ⟨txn, false, k, v, t, at_, s, l⟩) rfl)
    simp only [] at HE
    have Hs3 : Hid (∀ x ∈ l, x.text.size ≤ 1048576) := HSm.out.each
    generalize (Jn.mk txn false k v t at_ s l).ok = q at *
    unfold Jn.cells
    simp only []
    obtain ⟨wa, hwa, ez, A0, B0⟩ := one_new w [.int .i64 txn, .bool false, .int .i64 k, .int .i64 v, .int .i64 t, .int .i64 at_, .string s, .slice a l.length cap] 41
    have k0 := A0.c 0 rfl
    have k1 := A0.c 1 rfl
    have k2 := A0.c 2 rfl
    have k3 := A0.c 3 rfl
    have k4 := A0.c 4 rfl
    have k5 := A0.c 5 rfl
    have k6 := A0.c 6 rfl
    have k7 := A0.c 7 rfl
    have HA := hid A0
    have HB := hid B0
    clear A0 B0
    go_enter Tryd.func47, Tryd.ntmps47
    go_wp2_with fail
    by_cases c0 : 1 ≤ txn ∧ txn ≤ 1000000
    · have c0' := decide_eq_true c0
      rw [c0', Bool.true_and] at HE
      clear c0
      refine (c0' ▸ isFrom txn 1 1000000 _).mono ?_
      rintro r w1 ⟨rfl, hw⟩
      obtain rfl := hw.symm
      go_wp2_with fail
      refine (isJournalOp k v t at_ s _ z1).mono ?_
      rintro r w2 ⟨rfl, b2⟩
      replace k7 := (HA.out.below b2 HA.out.lt).c 7 rfl
      have HB2 := hid (HB.out.trans (b2.mono HB.out.size))
      clear b2 hwa k0 k1 k2 k3 k4 k5 k6 HA
      cases hz : opOk k v t at_ s with
      | true =>
        rw [hz, Bool.true_and] at HE
        clear hz
        by_cases c2 : 0 < (l.length : Int)
        · go_wp2_with fail
          refine (areOuts w2 a cap l (HS.out.below HB2.out) z2 Hs3.out).mono ?_
          rintro r w3 ⟨rfl, b3⟩
          have HB3 := hid (HB2.out.trans (b3.mono HB2.out.size))
          have HQ : Hid (q = (decide (l.length ≤ 8) && outsOk l)) := by
            rw [Hid, HE.out]
            congr 1
            exact decide_eq_decide.2 ⟨fun x => x.2, fun x => ⟨by omega, x⟩⟩
          generalize (decide (l.length ≤ 8) && outsOk l) = z at *
          clear b3
          go_wp2
          go_ret
          exact ⟨by rw [HQ.out]; rfl, HB3.out⟩
        · have HQ : Hid (q = false) := by rw [Hid, HE.out, decide_eq_false (show ¬ (1 ≤ l.length ∧ l.length ≤ 8) by omega)]; rfl
          go_wp2
          go_ret
          exact ⟨by rw [HQ.out]; rfl, HB2.out⟩
      | false =>
        rw [hz, Bool.false_and] at HE
        clear hz
        go_wp2
        go_ret
        exact ⟨by rw [HE.out]; rfl, HB2.out⟩
    · have c0' := decide_eq_false c0
      rw [c0', Bool.false_and] at HE
      clear c0
      refine (c0' ▸ isFrom txn 1 1000000 _).mono ?_
      rintro r w1 ⟨rfl, hw⟩
      obtain rfl := hw.symm
      go_wp2
      go_ret
      exact ⟨by rw [HE.out]; rfl, HB.out⟩

end Go.Proofs.YtfbnnhgaedficafDoor.Sec

namespace Go.Proofs.YtfbnnhgaedficafDoor.Sec
open Go.RowKit Go.Proofs.YtfbnnhgaedficafDoor.Mem
set_option linter.unusedVariables false

set_option maxRecDepth 100000 in
set_option maxHeartbeats 2000000 in
theorem jnOk_done (w : World) (txn k v t at_ : Int) (s : ByteArray) (l : List Ou) (a : Option Addr) (cap : Nat) (z1 : s.size ≤ 1048576) (z2 : l.length ≤ 1048576) :
    Calls Tryd.prog 42 #[jnV ⟨txn, true, k, v, t, at_, s, l⟩ a cap] w fun r w' => r = .returned (.bool (Jn.mk txn true k v t at_ s l).ok) ∧ Below w.heap.size w w' := by
  unfold jnV
  have HE := hid (jok_done (J := ⟨txn, true, k, v, t, at_, s, l⟩) rfl)
  simp only [] at HE
  generalize (Jn.mk txn true k v t at_ s l).ok = q at *
  unfold Jn.cells
  simp only []
  obtain ⟨wa, hwa, ez, A0, B0⟩ := one_new w [.int .i64 txn, .bool true, .int .i64 k, .int .i64 v, .int .i64 t, .int .i64 at_, .string s, .slice a l.length cap] 41
  have k0 := A0.c 0 rfl
  have k1 := A0.c 1 rfl
  have k2 := A0.c 2 rfl
  have k3 := A0.c 3 rfl
  have k4 := A0.c 4 rfl
  have k5 := A0.c 5 rfl
  have k6 := A0.c 6 rfl
  have k7 := A0.c 7 rfl
  have HB := hid B0
  have hgo := guardOp
  clear A0 B0
  go_enter Tryd.func42, Tryd.ntmps42
  go_wp2_with fail
  by_cases c0 : 0 ≤ txn ∧ txn ≤ 1000000
  · have c0' := decide_eq_true c0
    rw [c0', Bool.true_and] at HE
    clear c0
    refine (c0' ▸ l1In txn 0 1000000 _).mono ?_
    rintro r w1 ⟨rfl, hw⟩
    obtain rfl := hw.symm
    have heq := eql_op k v t at_ s
    by_cases c1 : k = 0 ∧ v = 0 ∧ t = 0 ∧ at_ = 0 ∧ s.size = 0
    · rw [decide_eq_true c1] at HE
      simp only [decide_eq_true c1] at heq
      clear c1
      by_cases c2 : (l.length : Int) = 0
      · have HQ : Hid (q = true) := by rw [Hid, HE.out, decide_eq_true (show l.length = 0 by omega)]; rfl
        have c2' : ((l.length : Int) == 0) = true := by simpa using c2
        clear c2
        go_wp2
        go_ret
        exact ⟨by rw [HQ.out]; rfl, HB.out⟩
      · have HQ : Hid (q = false) := by rw [Hid, HE.out, decide_eq_false (show ¬ l.length = 0 by omega)]; rfl
        have c2' : ((l.length : Int) == 0) = false := by simpa using c2
        clear c2
        go_wp2
        go_ret
        exact ⟨by rw [HQ.out]; rfl, HB.out⟩
    · rw [decide_eq_false c1] at HE
      simp only [decide_eq_false c1] at heq
      clear c1
      go_wp2
      go_ret
      exact ⟨by rw [HE.out]; rfl, HB.out⟩
  · have c0' := decide_eq_false c0
    rw [c0', Bool.false_and] at HE
    clear c0
    refine (c0' ▸ l1In txn 0 1000000 _).mono ?_
    rintro r w1 ⟨rfl, hw⟩
    obtain rfl := hw.symm
    go_wp2
    go_ret
    exact ⟨by rw [HE.out]; rfl, HB.out⟩

set_option maxRecDepth 100000 in
set_option maxHeartbeats 4000000 in
theorem jnOk_not (w : World) (txn k v t at_ : Int) (s : ByteArray) (l : List Ou) (a : Option Addr) (cap : Nat) (S : Ous w a l) (z1 : s.size ≤ 1048576) (z2 : l.length ≤ 1048576) (z3 : ∀ x ∈ l, x.text.size ≤ 1048576) :
    Calls Tryd.prog 42 #[jnV ⟨txn, false, k, v, t, at_, s, l⟩ a cap] w fun r w' => r = .returned (.bool (Jn.mk txn false k v t at_ s l).ok) ∧ Below w.heap.size w w' := by
  unfold jnV
  have HE := hid (jok_not (J := ⟨txn, false, k, v, t, at_, s, l⟩) rfl)
  simp only [] at HE
  have HS := hid S
  have Hs : Hid (∀ k, (l.getD k Ou.none).text.size ≤ 1048576) := fun k => by
    by_cases h : k < l.length
    · exact z3 _ (by simp [List.getD, h])
    · simp [List.getD, h, Ou.none]
  clear S z3
  generalize (Jn.mk txn false k v t at_ s l).ok = q at *
  unfold Jn.cells
  simp only []
  obtain ⟨wa, hwa, ez, A0, B0⟩ := one_new w [.int .i64 txn, .bool false, .int .i64 k, .int .i64 v, .int .i64 t, .int .i64 at_, .string s, .slice a l.length cap] 41
  have k0 := A0.c 0 rfl
  have k1 := A0.c 1 rfl
  have k2 := A0.c 2 rfl
  have k3 := A0.c 3 rfl
  have k4 := A0.c 4 rfl
  have k5 := A0.c 5 rfl
  have k6 := A0.c 6 rfl
  have k7 := A0.c 7 rfl
  have HA := hid A0
  have HB := hid B0
  clear A0 B0
  go_enter Tryd.func42, Tryd.ntmps42
  go_wp2_with fail
  by_cases c0 : 0 ≤ txn ∧ txn ≤ 1000000
  · have c0' := decide_eq_true c0
    refine (c0' ▸ l1In txn 0 1000000 _).mono ?_
    rintro r w1 ⟨rfl, hw⟩
    obtain rfl := hw.symm
    by_cases c1 : txn < 1
    · have HQ : Hid (q = false) := by rw [Hid, HE.out, decide_eq_false (show ¬ (1 ≤ txn ∧ txn ≤ 1000000) by omega)]; rfl
      clear c0
      go_wp2
      go_ret
      exact ⟨by rw [HQ.out]; rfl, HB.out⟩
    rw [decide_eq_true (show 1 ≤ txn ∧ txn ≤ 1000000 by omega), Bool.true_and] at HE
    have c1d : decide (txn < 1) = false := decide_eq_false c1
    clear c0
    go_wp2_with fail
    refine (l4OpOk k v t at_ s _ z1).mono ?_
    rintro r w2 ⟨rfl, b2⟩
    have HA2 := hid (HA.out.below b2 HA.out.lt)
    replace k7 := HA2.out.c 7 rfl
    have HB2 := hid (HB.out.trans (b2.mono HB.out.size))
    clear b2 hwa k0 k1 k2 k3 k4 k5 k6 HA
    cases hz : opOk k v t at_ s with
    | false =>
      rw [hz, Bool.false_and] at HE
      clear hz
      go_wp2
      go_ret
      exact ⟨by rw [HE.out]; rfl, HB2.out⟩
    | true =>
      rw [hz, Bool.true_and] at HE
      clear hz
      go_wp2_with fail
      by_cases c2 : 1 ≤ (l.length : Int) ∧ (l.length : Int) ≤ 8
      · have c2' := decide_eq_true c2
        rw [decide_eq_true (show 1 ≤ l.length ∧ l.length ≤ 8 by omega), Bool.true_and] at HE
        have hl8 : l.length ≤ 8 := by omega
        clear c2
        refine (c2' ▸ l1In (l.length : Int) 1 8 _).mono ?_
        rintro r w3 ⟨rfl, hw⟩
        obtain rfl := hw.symm
        go_wp2
        go_loopw [3] (fun i wr => ∃ k : Nat, k ≤ l.length ∧ i = .int .i64 (k : Int) ∧ Hid (∀ i, i < k → outAt l i) ∧ Hid (Below w2.heap.size w2 wr)) (fun i _ => l.length - (intOf i).toNat)
        case atStart => exact ⟨0, Nat.zero_le _, rfl, fun i hi => by omega, Below.refl _ _⟩
        case round =>
          obtain ⟨i, hi, rfl, HK, HBr⟩ := hrel
          have HBw := hid (HB2.out.trans (HBr.out.mono HB2.out.size))
          have m7 := (HA2.out.below HBr.out HA2.out.lt).c 7 rfl
          by_cases hlt : i < l.length
          · obtain ⟨b, off, rfl, e0, e1⟩ := Ous.at_ (HS.out.below HBw.out) i hlt
            have hsz := Hs.out i
            have HN := hid (outsOk_no i hlt)
            have HST := hid (fun h => outs_step (k := i) HK.out h)
            have HAt : Hid (outAt l i ↔ ((0 ≤ (l.getD i Ou.none).sec ∧ (l.getD i Ou.none).sec ≤ 33) ∧ (0 < i → (l.getD (i - 1) Ou.none).sec < (l.getD i Ou.none).sec)) ∧ ((l.getD i Ou.none).text.size : Int) ≤ 60) := by
              unfold outAt
              exact ⟨fun x => ⟨⟨x.1, x.2.1⟩, x.2.2⟩, fun x => ⟨x.1.1, x.1.2, x.2⟩⟩
            generalize l.getD i Ou.none = x at e0 e1 hsz HAt
            obtain ⟨xs, xt⟩ := x
            simp only [] at e0 e1 hsz HAt
            have hne : Nonempty (BW wr) := ⟨⟨wr, Below.refl _ _⟩⟩
            replace e0 := BW.cell e0
            replace e1 := BW.cell e1
            have n7 := BW.cell m7
            clear k7
            by_cases d0 : 0 ≤ xs ∧ xs ≤ 33
            · have d0' := decide_eq_true d0
              cases i with
              | zero =>
                simp only [Nat.zero_mul, Nat.add_zero] at e0 e1
                by_cases h60 : 60 < (xt.size : Int)
                · have HR := hid (HN.out (fun x => by have := (HAt.out.1 x).2; omega))
                  clear d0
                  go_wp2
                  refine wp_region_bw (by kernel_rfl) (by kernel_rfl) ?_
                  repeat (go_big_quiet_step (first
                    | (go_at_call 67; refine bw_same (v := .bool true) (d0' ▸ l1In xs 0 33 _))))
                  refine wpQuiet_nil ?_
                  intro _ hw'
                  obtain ⟨u, rfl⟩ := hw'
                  have HU := hid (HBw.out.trans (u.bel.mono HBw.out.size))
                  have HUr := hid (HBr.out.trans (u.bel.mono HBr.out.size))
                  clear e0 e1 n7 m7 
                  go_wp2
                  go_ret
                  exact ⟨by rw [HE.out, HR.out]; rfl, HU.out⟩
                · have HR := hid (HST.out (HAt.out.2 ⟨⟨d0, fun h => by omega⟩, by omega⟩))
                  clear d0
                  go_wp2
                  refine wp_region_bw (by kernel_rfl) (by kernel_rfl) ?_
                  repeat (go_big_quiet_step (first
                    | (go_at_call 67; refine bw_same (v := .bool true) (d0' ▸ l1In xs 0 33 _))))
                  refine wpQuiet_nil ?_
                  intro _ hw'
                  obtain ⟨u, rfl⟩ := hw'
                  have HU := hid (HBw.out.trans (u.bel.mono HBw.out.size))
                  have HUr := hid (HBr.out.trans (u.bel.mono HBr.out.size))
                  clear e0 e1 n7 m7 
                  go_wp2
                  exact ⟨⟨1, by omega, by go_num, HR, HUr⟩, by simp [intOf]; omega⟩
              | succ m =>
                obtain ⟨b', off', eb, p0, _⟩ := Ous.at_ (HS.out.below HBw.out) m (by omega)
                cases eb
                rw [show m + 1 - 1 = m from rfl] at HAt
                generalize (l.getD m Ou.none).sec = ys at p0 HAt
                replace p0 := BW.cell p0
                have hm0 : (0 : Int) < ((m + 1 : Nat) : Int) := by omega
                have hm1 : ((m + 1 : Nat) : Int) - 1 = (m : Int) := by omega
                have hm2 : (m : Int) < (l.length : Int) := by omega
                by_cases d1 : xs ≤ ys
                · have HR := hid (HN.out (fun x => by have := (HAt.out.1 x).1.2 (by omega); omega))
                  clear d0
                  go_wp2
                  refine wp_region_bw (by kernel_rfl) (by kernel_rfl) ?_
                  repeat (go_big_quiet_step (first
                    | (go_at_call 67; refine bw_same (v := .bool true) (d0' ▸ l1In xs 0 33 _))))
                  refine wpQuiet_nil ?_
                  intro _ hw'
                  obtain ⟨u, rfl⟩ := hw'
                  have HU := hid (HBw.out.trans (u.bel.mono HBw.out.size))
                  have HUr := hid (HBr.out.trans (u.bel.mono HBr.out.size))
                  clear e0 e1 n7 m7 p0
                  go_wp2
                  go_ret
                  exact ⟨by rw [HE.out, HR.out]; rfl, HU.out⟩
                have d1' : decide (xs ≤ ys) = false := decide_eq_false d1
                by_cases h60 : 60 < (xt.size : Int)
                · have HR := hid (HN.out (fun x => by have := (HAt.out.1 x).2; omega))
                  clear d0
                  go_wp2
                  refine wp_region_bw (by kernel_rfl) (by kernel_rfl) ?_
                  repeat (go_big_quiet_step (first
                    | (go_at_call 67; refine bw_same (v := .bool true) (d0' ▸ l1In xs 0 33 _))))
                  refine wpQuiet_nil ?_
                  intro _ hw'
                  obtain ⟨u, rfl⟩ := hw'
                  have HU := hid (HBw.out.trans (u.bel.mono HBw.out.size))
                  have HUr := hid (HBr.out.trans (u.bel.mono HBr.out.size))
                  clear e0 e1 n7 m7 p0
                  go_wp2
                  go_ret
                  exact ⟨by rw [HE.out, HR.out]; rfl, HU.out⟩
                · have HR := hid (HST.out (HAt.out.2 ⟨⟨d0, fun h => by omega⟩, by omega⟩))
                  clear d0
                  go_wp2
                  refine wp_region_bw (by kernel_rfl) (by kernel_rfl) ?_
                  repeat (go_big_quiet_step (first
                    | (go_at_call 67; refine bw_same (v := .bool true) (d0' ▸ l1In xs 0 33 _))))
                  refine wpQuiet_nil ?_
                  intro _ hw'
                  obtain ⟨u, rfl⟩ := hw'
                  have HU := hid (HBw.out.trans (u.bel.mono HBw.out.size))
                  have HUr := hid (HBr.out.trans (u.bel.mono HBr.out.size))
                  clear e0 e1 n7 m7 p0
                  go_wp2
                  exact ⟨⟨m + 1 + 1, by omega, by go_num, HR, HUr⟩, by simp [intOf]; omega⟩
            · have d0' := decide_eq_false d0
              have HR := hid (HN.out (fun x => d0 (HAt.out.1 x).1.1))
              clear d0
              go_wp2
              refine wp_region_bw (by kernel_rfl) (by kernel_rfl) ?_
              repeat (go_big_quiet_step (first
                | (go_at_call 67; refine bw_same (v := .bool false) (d0' ▸ l1In xs 0 33 _))))
              refine wpQuiet_nil ?_
              intro _ hw'
              obtain ⟨u, rfl⟩ := hw'
              have HU := hid (HBw.out.trans (u.bel.mono HBw.out.size))
              have HUr := hid (HBr.out.trans (u.bel.mono HBr.out.size))
              clear e0 e1 n7 m7 
              go_wp2
              go_ret
              exact ⟨by rw [HE.out, HR.out]; rfl, HU.out⟩
          · obtain rfl : i = l.length := by omega
            have HR := hid ((outsOk_iff l).2 HK.out)
            go_wp2
            go_ret
            exact ⟨by rw [HE.out, HR.out]; rfl, HBw.out⟩
      · have c2' := decide_eq_false c2
        rw [decide_eq_false (show ¬ (1 ≤ l.length ∧ l.length ≤ 8) by omega), Bool.false_and] at HE
        clear c2
        refine (c2' ▸ l1In (l.length : Int) 1 8 _).mono ?_
        rintro r w3 ⟨rfl, hw⟩
        obtain rfl := hw.symm
        go_wp2
        go_ret
        exact ⟨by rw [HE.out]; rfl, HB2.out⟩
  · have c0' := decide_eq_false c0
    have HQ : Hid (q = false) := by rw [Hid, HE.out, decide_eq_false (show ¬ (1 ≤ txn ∧ txn ≤ 1000000) by omega)]; rfl
    clear c0
    refine (c0' ▸ l1In txn 0 1000000 _).mono ?_
    rintro r w1 ⟨rfl, hw⟩
    obtain rfl := hw.symm
    go_wp2
    go_ret
    exact ⟨by rw [HQ.out]; rfl, HB.out⟩

theorem l4JournalOk (w : World) (J : Jn) (a : Option Addr) (cap : Nat) (S : Ous w a J.outs) (hs : J.Small) :
    Calls Tryd.prog 42 #[jnV J a cap] w fun r w' => r = .returned (.bool J.ok) ∧ Below w.heap.size w w' := by
  obtain ⟨txn, dn, k, v, t, at_, s, l⟩ := J
  cases dn
  · exact jnOk_not w txn k v t at_ s l a cap S hs.text hs.outs hs.each
  · exact jnOk_done w txn k v t at_ s l a cap hs.text hs.outs

end Go.Proofs.YtfbnnhgaedficafDoor.Sec

namespace Go.Proofs.YtfbnnhgaedficafDoor.Sec
open Go.RowKit Go.Proofs.YtfbnnhgaedficafDoor.Mem
set_option linter.unusedVariables false

/-- What a right journal's parts are bounded by. -/
structure Jn.Fine (J : Jn) : Prop where
  text : J.text.size ≤ 16
  outs : J.outs.length ≤ 8
  each : ∀ i, i < J.outs.length → ((J.outs.getD i Ou.none).text.size : Int) ≤ 60
  kind : 0 ≤ J.kind ∧ J.kind ≤ 99
  vol : 0 ≤ J.vol ∧ J.vol ≤ 99
  to : 0 ≤ J.to ∧ J.to ≤ 99
  at_ : 0 ≤ J.at_ ∧ J.at_ ≤ 99

theorem Jn.fine {J : Jn} (h : J.ok = true) : J.Fine := by
  cases hd : J.done with
  | true =>
    rw [jok_done hd, Bool.and_eq_true, Bool.and_eq_true] at h
    obtain ⟨h1, h2, h3⟩ := h
    have a := of_decide_eq_true h2
    have b := of_decide_eq_true h3
    exact ⟨by omega, by omega, fun i hi => by omega, by omega, by omega, by omega, by omega⟩
  | false =>
    rw [jok_not hd, Bool.and_eq_true, Bool.and_eq_true, Bool.and_eq_true] at h
    obtain ⟨h1, h2, h3, h4⟩ := h
    unfold opOk at h2
    rw [Bool.and_eq_true, Bool.and_eq_true, three, Bool.and_eq_true, Bool.and_eq_true, Bool.and_eq_true] at h2
    obtain ⟨⟨a, b, c, d, _⟩, e⟩ := h2
    have a' := of_decide_eq_true a
    have b' := of_decide_eq_true b
    have c' := of_decide_eq_true c
    have d' := of_decide_eq_true d
    have e' := of_decide_eq_true e
    have l' := of_decide_eq_true h3
    exact ⟨by omega, by omega, fun i hi => ((outsOk_iff _).1 h4 i hi).2.2, by omega, by omega, by omega, by omega⟩

theorem jn_no {J : Jn} (h : J.ok = false) : J.show = ⟨#[]⟩ := by unfold Jn.show; rw [h]; rfl
theorem jn_yes {J : Jn} (h : J.ok = true) : summed (J.head ++ outsS J.outs) = J.show := by unfold Jn.show; rw [h]; rfl

theorem jn_size {J : Jn} (h : J.Fine) : (J.head ++ outsS J.outs).size ≤ 1048576 := by
  have h1 := head_size J h.text
  have h2 := outsS_size J.outs h.outs h.each J.outs.length (Nat.le_refl _)
  rw [List.take_length] at h2
  have := h.outs
  rw [ByteArray.size_append]; omega

set_option maxRecDepth 100000 in
set_option maxHeartbeats 4000000 in
theorem sShowJournal (w : World) (J : Jn) (a : Option Addr) (cap : Nat) (S : Ous w a J.outs) (hs : J.Small) :
    Calls Tryd.prog 17 #[jnV J a cap] w fun r w' => r = .returned (.string J.show) ∧ Below w.heap.size w w' := by
  have HS := hid S
  have HSm := hid hs
  clear S hs
  obtain ⟨txn, dn, k, v, t, at_, s, l⟩ := J
  have HV : Hid (jnV ⟨txn, dn, k, v, t, at_, s, l⟩ a cap = .agg #[.int .i64 txn, .bool dn, .int .i64 k, .int .i64 v, .int .i64 t, .int .i64 at_, .string s, .slice a l.length cap]) := rfl
  rw [HV.out]
  obtain ⟨wa, hwa, ez, A0, B0⟩ := one_new w [.int .i64 txn, .bool dn, .int .i64 k, .int .i64 v, .int .i64 t, .int .i64 at_, .string s, .slice a l.length cap] 41
  have k0 := A0.c 0 rfl
  have k1 := A0.c 1 rfl
  have k2 := A0.c 2 rfl
  have k3 := A0.c 3 rfl
  have k4 := A0.c 4 rfl
  have k5 := A0.c 5 rfl
  have k6 := A0.c 6 rfl
  have k7 := A0.c 7 rfl
  have HA := hid A0
  have HB := hid B0
  clear A0 B0
  go_enter Tryd.func17, Tryd.ntmps17
  go_wp2_with fail
  refine (l4JournalOk wa ⟨txn, dn, k, v, t, at_, s, l⟩ a cap (HS.out.below HB.out) HSm.out).mono ?_
  rintro r w2 ⟨rfl, b2⟩
  have HA2 := hid (HA.out.below b2 HA.out.lt)
  have HB2 := hid (HB.out.trans (b2.mono HB.out.size))
  clear b2 hwa HA k0 k1 k2 k3 k4 k5 k6 k7
  cases hf : (Jn.mk txn dn k v t at_ s l).ok with
  | false =>
    have HN := hid (jn_no hf)
    clear hf
    go_wp2
    go_ret
    exact ⟨Own.ret_str HN.out.symm, HB2.out⟩
  | true =>
    have HY := hid (jn_yes hf)
    have HF := hid (Jn.fine hf)
    have HZ := hid (jn_size HF.out)
    have HO := hid (outsS_size l HF.out.outs HF.out.each)
    have HL8 : Hid (l.length ≤ 8) := HF.out.outs
    have HE : Hid (∀ i, i < l.length → ((l.getD i Ou.none).text.size : Int) ≤ 60) := HF.out.each
    have zt : s.size ≤ 16 := HF.out.text
    have z0 := vr_size txn
    have z1 := vr_size k
    have z2 := vr_size v
    have z3 := vr_size t
    have z4 := vr_size at_
    have z5 := piece_size s
    have z6 := vr_size (l.length : Int)
    have z7 : (flag dn).size ≤ 7 := vr_size _
    have HH := hid (head_size ⟨txn, dn, k, v, t, at_, s, l⟩ zt)
    have HD : Hid ((⟨#[106]⟩ : ByteArray) ++ vr txn ++ flag dn ++ vr k ++ vr v ++ vr t ++ vr at_ ++ piece s ++ vr (l.length : Int) = (Jn.mk txn dn k v t at_ s l).head) := rfl
    clear hf
    go_wp2
    have k0 := BW.cell (HA2.out.c 0 rfl)
    have k1 := BW.cell (HA2.out.c 1 rfl)
    have k2 := BW.cell (HA2.out.c 2 rfl)
    have k3 := BW.cell (HA2.out.c 3 rfl)
    have k4 := BW.cell (HA2.out.c 4 rfl)
    have k5 := BW.cell (HA2.out.c 5 rfl)
    have k6 := BW.cell (HA2.out.c 6 rfl)
    have k7 := BW.cell (HA2.out.c 7 rfl)
    have hne : Nonempty (BW w2) := ⟨⟨w2, Below.refl _ _⟩⟩
    refine wp_region_bw (by kernel_rfl) (by kernel_rfl) ?_
    repeat (go_big_quiet_step (first
      | (go_at_call 31; refine bw_below (sVar _ _))
      | (go_at_call 43; refine bw_below (l4Flag dn _))
      | (go_at_call 44; refine bw_below (l4Piece s _ (by omega)))))
    refine wpQuiet_nil ?_
    intro w3 hw'
    obtain ⟨u, hu⟩ := hw'
    have b3 := u.bel
    rw [← hu] at b3
    clear hu
    have HA3 := hid (HA2.out.below b3 HA2.out.lt)
    have HB3 := hid (HB2.out.trans (b3.mono HB2.out.size))
    clear b3 k0 k1 k2 k3 k4 k5 k6 k7 HA2 hne
    rw [HD.out]
    generalize (Jn.mk txn dn k v t at_ s l).head = p at *
    have zp := HH.out
    clear z0 z1 z2 z3 z4 z5 z6 z7
    go_wp2
    go_loopw [3, 4] (fun s i wr => ∃ k : Nat, k ≤ l.length ∧ i = .int .i64 (k : Int) ∧ s = .string (p ++ outsS (l.take k)) ∧ Hid (Below w3.heap.size w3 wr)) (fun _ i _ => l.length - (intOf i).toNat)
    case atStart => exact ⟨0, Nat.zero_le _, rfl, by rw [show outsS (l.take 0) = ⟨#[]⟩ from rfl, append_empty], Below.refl _ _⟩
    case round =>
      obtain ⟨i, hi, rfl, rfl, HBr⟩ := hrel
      have HBw := hid (HB3.out.trans (HBr.out.mono HB3.out.size))
      have m7 := (HA3.out.below HBr.out HA3.out.lt).c 7 rfl
      by_cases hlt : i < l.length
      · obtain ⟨b, off, rfl, e0, e1⟩ := Ous.at_ (HS.out.below HBw.out) i hlt
        have hsz := HE.out i hlt
        have HT := hid (outsS_take l i hlt)
        have hz := HO.out i (by omega)
        have h8 := HL8.out
        generalize l.getD i Ou.none = x at e0 e1 hsz HT
        obtain ⟨xs, xt⟩ := x
        simp only [] at e0 e1 hsz HT
        generalize outsS (l.take i) = o at *
        have hps : (p ++ o).size ≤ 1000 := by rw [ByteArray.size_append]; omega
        have HAs : Hid (p ++ o ++ vr xs ++ piece xt = p ++ (o ++ vr xs ++ piece xt)) := by rw [Hid, append_assoc, append_assoc, append_assoc]
        generalize p ++ o = q at *
        have y1 := vr_size xs
        have y2 := piece_size xt
        have hne : Nonempty (BW wr) := ⟨⟨wr, Below.refl _ _⟩⟩
        replace e0 := BW.cell e0
        replace e1 := BW.cell e1
        have n7 := BW.cell m7
        go_wp2
        refine wp_region_bw (by kernel_rfl) (by kernel_rfl) ?_
        repeat (go_big_quiet_step (first
          | (go_at_call 31; refine bw_below (sVar _ _))
          | (go_at_call 44; refine bw_below (l4Piece xt _ (by omega)))))
        refine wpQuiet_nil ?_
        intro _ hw'
        obtain ⟨u, rfl⟩ := hw'
        have HUr := hid (HBr.out.trans (u.bel.mono HBr.out.size))
        clear e0 e1 n7 m7
        go_wp2
        exact ⟨⟨i + 1, by omega, by go_num, by rw [HT.out, ← HAs.out], HUr⟩, by simp [intOf]; omega⟩
      · obtain rfl : i = l.length := by omega
        have HE2 : Hid (outsS (l.take l.length) = outsS l) := by rw [Hid, List.take_length]
        rw [HE2.out]
        generalize p ++ outsS l = q at *
        go_wp2_with fail
        refine (l4Sum q _ HZ.out).mono ?_
        rintro r w4 ⟨rfl, b4⟩
        have HB4 := hid (HBw.out.trans (b4.mono HBw.out.size))
        clear b4 m7
        go_wp2
        go_ret
        exact ⟨Own.ret_str HY.out, HB4.out⟩

end Go.Proofs.YtfbnnhgaedficafDoor.Sec

namespace Go.Proofs.YtfbnnhgaedficafDoor.Sec
open Go.RowKit Go.Proofs.YtfbnnhgaedficafDoor.Mem
set_option linter.unusedVariables false

def opS (k v t a : Int) (s : ByteArray) : ByteArray := vrs 0 [k, v, t, a] ++ piece s

theorem four_bd {k v t a : Int} (hk : 0 ≤ k ∧ k ≤ 99) (hv : 0 ≤ v ∧ v ≤ 99) (ht : 0 ≤ t ∧ t ≤ 99) (ha : 0 ≤ a ∧ a ≤ 99) : ∀ i, i < [k, v, t, a].length → -1 ≤ [k, v, t, a].getD i 0 ∧ [k, v, t, a].getD i 0 ≤ 1000000 := by
  intro i hi
  have : i = 0 ∨ i = 1 ∨ i = 2 ∨ i = 3 := by simp at hi; omega
  rcases this with rfl | rfl | rfl | rfl <;> simp <;> omega

theorem box5_below {wa w1 w2 : World} {g : Nat} {x0 x1 x2 x3 x4 : Value} (hg : g < wa.heap.size) (b : Below w1.heap.size w1 w2) (h : w1.cell? ⟨g, 0, none⟩ = some x0 ∧ w1.cell? ⟨g, 1, none⟩ = some x1 ∧ w1.cell? ⟨g, 2, none⟩ = some x2 ∧ w1.cell? ⟨g, 3, none⟩ = some x3 ∧ w1.cell? ⟨g, 4, none⟩ = some x4 ∧ Below wa.heap.size wa w1) :
    w2.cell? ⟨g, 0, none⟩ = some x0 ∧ w2.cell? ⟨g, 1, none⟩ = some x1 ∧ w2.cell? ⟨g, 2, none⟩ = some x2 ∧ w2.cell? ⟨g, 3, none⟩ = some x3 ∧ w2.cell? ⟨g, 4, none⟩ = some x4 ∧ Below wa.heap.size wa w2 := by
  obtain ⟨a0, a1, a2, a3, a4, bl⟩ := h
  have hl : g < w1.heap.size := Nat.lt_of_lt_of_le hg bl.size
  have c := fun j => b.cell (p := ⟨g, j, none⟩) hl
  exact ⟨(c 0).trans a0, (c 1).trans a1, (c 2).trans a2, (c 3).trans a3, (c 4).trans a4, bl.trans (b.mono bl.size)⟩

theorem box5_alloc {wa w1 : World} {g : Nat} {x0 x1 x2 x3 x4 : Value} (hg : g < wa.heap.size) (h : w1.cell? ⟨g, 0, none⟩ = some x0 ∧ w1.cell? ⟨g, 1, none⟩ = some x1 ∧ w1.cell? ⟨g, 2, none⟩ = some x2 ∧ w1.cell? ⟨g, 3, none⟩ = some x3 ∧ w1.cell? ⟨g, 4, none⟩ = some x4 ∧ Below wa.heap.size wa w1) (o : Obj) :
    (w1.alloc o).cell? ⟨g, 0, none⟩ = some x0 ∧ (w1.alloc o).cell? ⟨g, 1, none⟩ = some x1 ∧ (w1.alloc o).cell? ⟨g, 2, none⟩ = some x2 ∧ (w1.alloc o).cell? ⟨g, 3, none⟩ = some x3 ∧ (w1.alloc o).cell? ⟨g, 4, none⟩ = some x4 ∧ Below wa.heap.size wa (w1.alloc o) :=
  box5_below hg ((Below.refl _ _).alloc (Nat.le_refl _) o) h

set_option maxRecDepth 100000 in
set_option maxHeartbeats 2000000 in
theorem showOp (k v t a : Int) (s : ByteArray) (w : World) (hs : s.size ≤ 16) (hk : 0 ≤ k ∧ k ≤ 99) (hv : 0 ≤ v ∧ v ≤ 99) (ht : 0 ≤ t ∧ t ≤ 99) (ha : 0 ≤ a ∧ a ≤ 99) :
    Calls Tryd.prog 49 #[opV k v t a s] w fun e w' => e = .returned (.string (opS k v t a s)) ∧ Below w.heap.size w w' := by
  have HBd := hid (four_bd hk hv ht ha)
  have HD : Hid (vrs 0 [k, v, t, a] ++ piece s = opS k v t a s) := rfl
  have zp := piece_size s
  have zv : (vrs 0 [k, v, t, a]).size ≤ 28 := by have := vrs_size 0 [k, v, t, a]; simpa using this
  unfold opV
  obtain ⟨wa, hwa, ez, A0, B0⟩ := one_new w [.int .i64 k, .int .i64 v, .int .i64 t, .int .i64 a, .string s] 38
  have k0 := A0.c 0 rfl
  have k1 := A0.c 1 rfl
  have k2 := A0.c 2 rfl
  have k3 := A0.c 3 rfl
  have k4 := A0.c 4 rfl
  have HA := hid A0
  have HB := hid B0
  have hwn : ∀ w : World, (Instr.buildSlice 22 4 #[(0, .int .i64 k), (1, .int .i64 v), (2, .int .i64 t), (3, .int .i64 a)]).run Tryd.prog w = .ok (.slice (some ⟨w.heap.size, 0, none⟩) 4 4) (w.alloc (.cells #[.int .i64 k, .int .i64 v, .int .i64 t, .int .i64 a] 3)) := fun _ => by kernel_rfl
  clear A0 B0 hk hv ht ha
  go_enter Tryd.func49, Tryd.ntmps49
  go_wp2
  have Q0 := hid (show wa.drew.cell? ⟨w.heap.size, 0, none⟩ = some (.int .i64 k) ∧ wa.drew.cell? ⟨w.heap.size, 1, none⟩ = some (.int .i64 v) ∧ wa.drew.cell? ⟨w.heap.size, 2, none⟩ = some (.int .i64 t) ∧ wa.drew.cell? ⟨w.heap.size, 3, none⟩ = some (.int .i64 a) ∧ wa.drew.cell? ⟨w.heap.size, 4, none⟩ = some (.string s) ∧ Below wa.heap.size wa wa.drew from ⟨k0, k1, k2, k3, k4, (Below.refl _ wa).drew⟩)
  have hg : w.heap.size < wa.heap.size := by omega
  have QA := hid (show (wa.alloc (.cells #[.int .i64 k, .int .i64 v, .int .i64 t, .int .i64 a] 3)).drew.cell? ⟨w.heap.size, 0, none⟩ = some (.int .i64 k) ∧ (wa.alloc (.cells #[.int .i64 k, .int .i64 v, .int .i64 t, .int .i64 a] 3)).drew.cell? ⟨w.heap.size, 1, none⟩ = some (.int .i64 v) ∧ (wa.alloc (.cells #[.int .i64 k, .int .i64 v, .int .i64 t, .int .i64 a] 3)).drew.cell? ⟨w.heap.size, 2, none⟩ = some (.int .i64 t) ∧ (wa.alloc (.cells #[.int .i64 k, .int .i64 v, .int .i64 t, .int .i64 a] 3)).drew.cell? ⟨w.heap.size, 3, none⟩ = some (.int .i64 a) ∧ (wa.alloc (.cells #[.int .i64 k, .int .i64 v, .int .i64 t, .int .i64 a] 3)).drew.cell? ⟨w.heap.size, 4, none⟩ = some (.string s) ∧ Below wa.heap.size wa (wa.alloc (.cells #[.int .i64 k, .int .i64 v, .int .i64 t, .int .i64 a] 3)).drew from
    box5_below hg ((Below.refl _ wa).alloc (Nat.le_refl _) _).drew ⟨k0, k1, k2, k3, k4, Below.refl _ wa⟩)
  have HI : Hid (Ints (wa.alloc (.cells #[.int .i64 k, .int .i64 v, .int .i64 t, .int .i64 a] 3)).drew (some ⟨wa.heap.size, 0, none⟩) [k, v, t, a]) := ints_new wa [k, v, t, a]
  rw [ez] at HI
  clear k0 k1 k2 k3 k4 hwa
  go_region_held_law (fun w' => w'.cell? ⟨w.heap.size, 0, none⟩ = some (.int .i64 k) ∧ w'.cell? ⟨w.heap.size, 1, none⟩ = some (.int .i64 v) ∧ w'.cell? ⟨w.heap.size, 2, none⟩ = some (.int .i64 t) ∧ w'.cell? ⟨w.heap.size, 3, none⟩ = some (.int .i64 a) ∧ w'.cell? ⟨w.heap.size, 4, none⟩ = some (.string s) ∧ Below wa.heap.size wa w')
    (first | with_reducible exact Q2.out | with_reducible exact Q1.out | with_reducible exact Q0.out | with_reducible assumption | with_reducible exact QA.out)
    (first
      | (go_at_call 36; refine (showNumbers _ _ 4 [k, v, t, a] 0 HI.out (by simp) (by decide) HBd.out).mono ?_; rintro e w1 ⟨rfl, b1⟩; have Q1 := hid (box5_below hg b1 QA.out); clear b1)
      | (go_at_call 86; refine (showPiece s _ (by omega)).mono ?_; rintro e w2 ⟨rfl, b2⟩; have Q2 := hid (box5_below hg b2 Q1.out); clear b2))
  all_goals (have HB2 := hid (HB.out.trans (Q2.out.2.2.2.2.2.mono HB.out.size)); clear Q0 Q1 Q2; go_wp2; go_ret; exact ⟨Own.ret_str HD.out, HB2.out⟩)

end Go.Proofs.YtfbnnhgaedficafDoor.Sec

namespace Go.Proofs.YtfbnnhgaedficafDoor.Sec
open Go.RowKit Go.Proofs.YtfbnnhgaedficafDoor.Mem
set_option linter.unusedVariables false

set_option maxRecDepth 100000 in
set_option maxHeartbeats 2000000 in
theorem showOuts (w : World) (a : Option Addr) (cap : Nat) (l : List Ou) (S : Ous w a l) (hl : l.length ≤ 8) (he : ∀ i, i < l.length → ((l.getD i Ou.none).text.size : Int) ≤ 60) :
    Calls Tryd.prog 50 #[.slice a l.length cap] w fun e w' => e = .returned (.string (vr (l.length : Int) ++ outsS l)) ∧ Below w.heap.size w w' := by
  have HS := hid S
  have HO := hid (outsS_size l hl he)
  have HE := hid he
  have HN := hid (Build.Bd.new w)
  have zl := vr_size (l.length : Int)
  clear S he
  go_enter Tryd.func50, Tryd.ntmps50
  go_wp2_with fail
  obtain ⟨wa, hwa⟩ : ∃ wa, w.alloc (.cells #[.pointer none, .slice none 0 0] 100) = wa := ⟨_, rfl⟩
  have HB0 : Hid (Below w.heap.size w wa) := by rw [← hwa]; exact (Below.refl _ _).alloc (Nat.le_refl _) _
  rw [hwa] at HN
  simp only [hwa]
  clear hwa
  refine (iVar (l.length : Int) _).mono ?_
  rintro e w1 ⟨rfl, b1⟩
  have HB1 := hid (HB0.out.trans (b1.mono HB0.out.size))
  have HD1 := hid (HN.out.below b1)
  clear b1 HN HB0
  go_wp2_with fail
  refine (Build.write w.heap.size w.heap.size _ (vr (l.length : Int)) w1 HD1.out (by show 0 + _ ≤ _; omega) HB1.out.size).mono ?_
  rintro e w2 ⟨rfl, hD2, b2⟩
  rw [empty_append] at hD2
  have HD2 := hid hD2
  have HB2 := hid (HB1.out.trans b2)
  clear hD2 b2 HD1 HB1
  generalize hp : vr (l.length : Int) = p at *
  have HP := hid hp
  clear hp
  go_wp2
  go_loopw [12] (fun i wr => ∃ k : Nat, k ≤ l.length ∧ i = .int .i64 (k : Int) ∧ Hid (Build.Bd w.heap.size w.heap.size (p ++ outsS (l.take k)) wr) ∧ Hid (Below w.heap.size w wr)) (fun i _ => l.length - (intOf i).toNat)
  case atStart => exact ⟨0, Nat.zero_le _, rfl, by rw [show outsS (l.take 0) = ⟨#[]⟩ from rfl, append_empty]; exact HD2, HB2⟩
  case round =>
    obtain ⟨k, hk, rfl, HD, HB⟩ := hrel
    by_cases hlt : k < l.length
    · obtain ⟨b, off, rfl, c0, c1⟩ := Ous.at_ (HS.out.below HB.out) k hlt
      have hsz := HE.out k hlt
      have HT := hid (outsS_take l k hlt)
      have hz := HO.out k (by omega)
      generalize l.getD k Ou.none = x at c0 c1 hsz HT
      obtain ⟨xs, xt⟩ := x
      simp only [] at c0 c1 hsz HT
      generalize outsS (l.take k) = o at *
      have hps : (p ++ o).size ≤ 1000 := by rw [ByteArray.size_append]; omega
      have HAs : Hid (p ++ o ++ vr xs ++ piece xt = p ++ (o ++ vr xs ++ piece xt)) := by rw [Hid, append_assoc, append_assoc, append_assoc]
      generalize p ++ o = q at *
      have y1 := vr_size xs
      have y2 := piece_size xt
      have hlb := HD.out.lt
      go_wp2_with fail
      obtain ⟨wo, hwo⟩ : ∃ wo, wr.alloc (.cells #[.int .i64 xs, .string xt] 65) = wo := ⟨_, rfl⟩
      have RO : wo.heap[wr.heap.size]? = some (.cells [Value.int .i64 xs, .string xt].toArray 65 (0, 0)) := by rw [← hwo]; exact heap_alloc_new wr _
      have B0 : Below wr.heap.size wr wo := by rw [← hwo]; exact (Below.refl _ _).alloc (Nat.le_refl _) _
      have hso : wr.heap.size < wo.heap.size := by rw [← hwo]; exact lt_alloc _ _
      simp only [hwo]
      have HBo := hid (HB.out.trans (B0.mono HB.out.size))
      have HDo := hid (HD.out.below B0)
      clear hwo B0 c0 c1
      refine (iVar xs _).mono ?_
      rintro e w3 ⟨rfl, b3⟩
      have RO3 : w3.heap[wr.heap.size]? = some (.cells [Value.int .i64 xs, .string xt].toArray 65 (0, 0)) := by rw [b3.block _ hso]; exact RO
      have HB3 := hid (HBo.out.trans (b3.mono HBo.out.size))
      have HD3 := hid (HDo.out.below b3)
      have hs3 := b3.size
      clear b3 RO
      have HR3 := hid RO3
      clear RO3
      go_wp2_with fail
      refine (Build.write_others w.heap.size w.heap.size q (vr xs) w3 HD3.out (by omega) HB3.out.size).mono ?_
      rintro e w4 ⟨rfl, hD4, b4, o4⟩
      have HR4 := hid (o4.row (by omega) (by decide) HR3.out)
      have HD4 := hid hD4
      have HB4 := hid (HB3.out.trans b4)
      have d1 : w4.cell? ⟨wr.heap.size, 1, none⟩ = some (.string xt) := by rw [cell_of_row w4 wr.heap.size 1 _ _ (0, 0) HR4.out]; rfl
      have d0 : w4.cell? ⟨wr.heap.size, 0, none⟩ = some (.int .i64 xs) := by rw [cell_of_row w4 wr.heap.size 0 _ _ (0, 0) HR4.out]; rfl
      clear hD4 b4 o4
      go_wp2_with fail
      refine (showPiece xt _ (by omega)).mono ?_
      rintro e w5 ⟨rfl, b5⟩
      have HB5 := hid (HB4.out.trans (b5.mono HB4.out.size))
      have HD5 := hid (HD4.out.below b5)
      clear b5 d0 d1
      have hqv : (q ++ vr xs).size ≤ 1007 := by rw [ByteArray.size_append]; omega
      go_wp2_with fail
      refine (Build.write w.heap.size w.heap.size (q ++ vr xs) (piece xt) w5 HD5.out (by omega) HB5.out.size).mono ?_
      rintro e w6 ⟨rfl, hD6, b6⟩
      have HD6 := hid hD6
      have HB6 := hid (HB5.out.trans b6)
      clear hD6 b6
      go_wp2
      exact ⟨⟨k + 1, by omega, by go_num, by rw [HT.out, ← HAs.out]; exact HD6, HB6⟩, by simp [intOf]; omega⟩
    · obtain rfl : k = l.length := by omega
      have HD' : Hid (Build.Bd w.heap.size w.heap.size (p ++ outsS l) wr) := by have := HD.out; rwa [List.take_length] at this
      go_wp2_with fail
      refine (Build.string w.heap.size w.heap.size (p ++ outsS l) wr HD'.out HB.out.size).mono ?_
      rintro e w1 ⟨rfl, b1⟩
      have HB1 := hid (HB.out.trans b1)
      clear b1
      go_wp2
      go_ret
      exact ⟨Own.ret_str (by rw [HP.out]), HB1.out⟩

theorem vrs4 (k v t a : Int) : vrs 0 [k, v, t, a] = vr k ++ vr v ++ vr t ++ vr a := by
  unfold vrs
  simp only [List.foldl_cons, List.foldl_nil, Int.sub_zero, empty_append]

theorem head_impl (J : Jn) : (⟨#[106]⟩ : ByteArray) ++ vr J.txn ++ flag J.done ++ opS J.kind J.vol J.to J.at_ J.text ++ (vr (J.outs.length : Int) ++ outsS J.outs) = J.head ++ outsS J.outs := by
  unfold opS Jn.head
  rw [vrs4]
  simp only [append_assoc]

set_option maxRecDepth 100000 in
set_option maxHeartbeats 4000000 in
theorem iShowJournal (w : World) (J : Jn) (a : Option Addr) (cap : Nat) (S : Ous w a J.outs) (hs : J.Small) (T : Sums w) :
    Calls Tryd.prog 19 #[jnV J a cap] w fun r w' => r = .returned (.string J.show) ∧ Below w.heap.size w w' := by
  have HS := hid S
  have HSm := hid hs
  have HT := hid T
  clear S hs T
  obtain ⟨txn, dn, k, v, t, at_, s, l⟩ := J
  have HV : Hid (jnV ⟨txn, dn, k, v, t, at_, s, l⟩ a cap = .agg #[.int .i64 txn, .bool dn, .int .i64 k, .int .i64 v, .int .i64 t, .int .i64 at_, .string s, .slice a l.length cap]) := rfl
  rw [HV.out]
  obtain ⟨wa, hwa, ez, A0, B0⟩ := one_new w [.int .i64 txn, .bool dn, .int .i64 k, .int .i64 v, .int .i64 t, .int .i64 at_, .string s, .slice a l.length cap] 41
  have k0 := A0.c 0 rfl
  have k1 := A0.c 1 rfl
  have k2 := A0.c 2 rfl
  have k3 := A0.c 3 rfl
  have k4 := A0.c 4 rfl
  have k5 := A0.c 5 rfl
  have k6 := A0.c 6 rfl
  have k7 := A0.c 7 rfl
  have HA := hid A0
  have HB := hid B0
  clear A0 B0
  go_enter Tryd.func19, Tryd.ntmps19
  go_wp2_with fail
  refine (isJournal wa ⟨txn, dn, k, v, t, at_, s, l⟩ a cap (HS.out.below HB.out) HSm.out).mono ?_
  rintro r w2 ⟨rfl, b2⟩
  have HA2 := hid (HA.out.below b2 HA.out.lt)
  have HB2 := hid (HB.out.trans (b2.mono HB.out.size))
  have HT2 := hid (HT.out.below HB2.out)
  clear b2 hwa HA k0 k1 k2 k3 k4 k5 k6 k7
  cases hf : (Jn.mk txn dn k v t at_ s l).ok with
  | false =>
    have HN := hid (jn_no hf)
    clear hf
    go_wp2
    go_ret
    exact ⟨Own.ret_str HN.out.symm, HB2.out⟩
  | true =>
    have HY := hid (jn_yes hf)
    have HF := hid (Jn.fine hf)
    have HZ := hid (jn_size HF.out)
    have HI := hid (head_impl ⟨txn, dn, k, v, t, at_, s, l⟩)
    have zo : (outsS l).size ≤ 592 := by have := outsS_size l HF.out.outs HF.out.each l.length (Nat.le_refl _); rw [List.take_length] at this; have := HF.out.outs; simp only [] at *; omega
    have z0 := vr_size txn
    have z6 := vr_size (l.length : Int)
    have z7 : (flag dn).size ≤ 7 := vr_size _
    have z8 : (opS k v t at_ s).size ≤ 51 := by
      have h1 := vrs_size 0 [k, v, t, at_]
      have h2 := piece_size s
      have h3 : s.size ≤ 16 := HF.out.text
      have h4 : [k, v, t, at_].length = 4 := rfl
      unfold opS
      rw [ByteArray.size_append]; omega
    have z9 : (vr (l.length : Int) ++ outsS l).size ≤ 599 := by rw [ByteArray.size_append]; omega
    have HZ' : Hid (((⟨#[106]⟩ : ByteArray) ++ vr txn ++ flag dn ++ opS k v t at_ s ++ (vr (l.length : Int) ++ outsS l)).size ≤ 1048576) := by
      rw [Hid, show (⟨#[106]⟩ : ByteArray) ++ vr txn ++ flag dn ++ opS k v t at_ s ++ (vr (l.length : Int) ++ outsS l) = _ from HI.out]; exact HZ.out
    have HR : Hid (summed ((⟨#[106]⟩ : ByteArray) ++ vr txn ++ flag dn ++ opS k v t at_ s ++ (vr (l.length : Int) ++ outsS l)) = (Jn.mk txn dn k v t at_ s l).show) := by
      rw [Hid, show (⟨#[106]⟩ : ByteArray) ++ vr txn ++ flag dn ++ opS k v t at_ s ++ (vr (l.length : Int) ++ outsS l) = _ from HI.out]; exact HY.out
    generalize hou : vr (l.length : Int) ++ outsS l = ou at *
    have HOu := hid hou
    clear hf hou
    go_wp2
    have k0 := BW.cell (HA2.out.c 0 rfl)
    have k1 := BW.cell (HA2.out.c 1 rfl)
    have k2 := BW.cell (HA2.out.c 2 rfl)
    have k3 := BW.cell (HA2.out.c 3 rfl)
    have k4 := BW.cell (HA2.out.c 4 rfl)
    have k5 := BW.cell (HA2.out.c 5 rfl)
    have k6 := BW.cell (HA2.out.c 6 rfl)
    have k7 := BW.cell (HA2.out.c 7 rfl)
    have hne : Nonempty (BW w2) := ⟨⟨w2, Below.refl _ _⟩⟩
    refine wp_region_bw (by kernel_rfl) (by kernel_rfl) ?_
    repeat (go_big_quiet_step (first
      | (go_at_call 35; refine bw_below (iVar _ _))
      | (go_at_call 48; refine bw_below (showFlag dn _))
      | (go_at_call 49; refine bw_below (showOp k v t at_ s _ HF.out.text HF.out.kind HF.out.vol HF.out.to HF.out.at_))
      | (go_at_call 50; refine bw_below (HOu.out ▸ showOuts _ a cap l (HS.out.below (HB2.out.trans ((BW.bel _).mono HB2.out.size))) HF.out.outs HF.out.each))
      | (go_at_call 34; refine bw_below (withSum' _ _ HZ'.out (HT2.out.below (BW.bel _))))))
    refine wpQuiet_nil ?_
    intro _ hw'
    obtain ⟨u, rfl⟩ := hw'
    have HU := hid (HB2.out.trans (u.bel.mono HB2.out.size))
    clear k0 k1 k2 k3 k4 k5 k6 k7
    go_wp2
    go_ret
    exact ⟨Own.ret_str HR.out, HU.out⟩

end Go.Proofs.YtfbnnhgaedficafDoor.Sec

namespace Go.Proofs.YtfbnnhgaedficafDoor.Rd
open Go.RowKit Go.Proofs.YtfbnnhgaedficafDoor.Mem Go.Proofs.YtfbnnhgaedficafDoor.Sec
set_option linter.unusedVariables false

/-- A piece at a place: its text, and where it ends. -/
def pieceAt (R : ByteArray → Int × Nat) (s : ByteArray) (i : Nat) : Option (ByteArray × Nat) :=
  if (R (rest s i)).2 = 0 then none
  else if ((rest s (i + (R (rest s i)).2)).size : Int) < (R (rest s i)).1 then none
  else some ((rest s (i + (R (rest s i)).2)).extract 0 (R (rest s i)).1.toNat, i + (R (rest s i)).2 + (R (rest s i)).1.toNat)

theorem pieceAt_size {R : ByteArray → Int × Nat} {s : ByteArray} {i : Nat} {t : ByteArray} {z : Nat} (h : pieceAt R s i = some (t, z)) : t.size ≤ s.size := by
  unfold pieceAt at h
  split at h
  · cases h
  · split at h
    · cases h
    · simp only [Option.some.injEq, Prod.mk.injEq] at h
      rw [← h.1, ByteArray.size_extract, rest_size]
      omega

/-- Outs at a place. -/
def outsAt (R : ByteArray → Int × Nat) (s : ByteArray) (i : Nat) : Nat → Option (List Ou × Nat)
  | 0 => some ([], i)
  | k + 1 => (outsAt R s i k).bind fun p => if (R (rest s p.2)).2 = 0 then none else (pieceAt R s (p.2 + (R (rest s p.2)).2)).map fun q => (p.1 ++ [⟨(R (rest s p.2)).1, q.1⟩], q.2)

theorem outsAt_len {R : ByteArray → Int × Nat} {s : ByteArray} {i : Nat} : ∀ {k : Nat} {l : List Ou} {e : Nat}, outsAt R s i k = some (l, e) → l.length = k ∧ ∀ x ∈ l, x.text.size ≤ s.size
  | 0, l, e, h => by simp [outsAt] at h; obtain ⟨rfl, _⟩ := h; simp
  | k + 1, l, e, h => by
    unfold outsAt at h
    cases hk : outsAt R s i k with
    | none => rw [hk] at h; cases h
    | some p =>
      obtain ⟨l0, e0⟩ := p
      rw [hk] at h
      simp only [Option.bind_some] at h
      split at h
      · cases h
      · cases hp : pieceAt R s (e0 + (R (rest s e0)).2) with
        | none => rw [hp] at h; cases h
        | some q =>
          obtain ⟨t, z⟩ := q
          rw [hp] at h
          simp only [Option.map_some, Option.some.injEq, Prod.mk.injEq] at h
          obtain ⟨rfl, rfl⟩ := h
          have ih := outsAt_len hk
          refine ⟨by simp [ih.1], fun x hx => ?_⟩
          rcases List.mem_append.1 hx with hx | hx
          · exact ih.2 x hx
          · obtain rfl := List.mem_singleton.1 hx
            exact pieceAt_size hp

theorem outsAt_none {R : ByteArray → Int × Nat} {s : ByteArray} {i k : Nat} (h : outsAt R s i k = none) : ∀ n, outsAt R s i (k + n) = none
  | 0 => h
  | n + 1 => by
    show outsAt R s i ((k + n) + 1) = none
    unfold outsAt
    rw [outsAt_none h n]
    rfl

theorem outsAt_step {R : ByteArray → Int × Nat} {s : ByteArray} {i k : Nat} {l : List Ou} {e : Nat} (h : outsAt R s i k = some (l, e)) :
    outsAt R s i (k + 1) = if (R (rest s e)).2 = 0 then none else (pieceAt R s (e + (R (rest s e)).2)).map fun q => (l ++ [⟨(R (rest s e)).1, q.1⟩], q.2) := by
  conv => lhs; unfold outsAt
  rw [h]
  rfl

set_option maxRecDepth 100000 in
set_option maxHeartbeats 1000000 in
/-- A piece: how many bytes, then they; or a part lacks. -/
theorem piece (R : ByteArray → Int × Nat) (hR : Reads R) (s : ByteArray) (hs : s.size ≤ 1048576) (i : Nat) (w : World) (c : Nat) (h : Cur w c (rest s i)) (u : TypeId) (pv : Value) (hL : Lacks w u pv) (hc : 1 < c) :
    Calls Tryd.prog 107 #[.pointer (some ⟨c, 0, none⟩)] w fun e w' => (∃ t z, pieceAt R s i = some (t, z) ∧ e = .returned (.string t) ∧ Moved w w' c (rest s z)) ∨ (pieceAt R s i = none ∧ e = lack u pv ∧ Kept (fun b => b = c) w w') := by
  have HR := hid hR
  have HH := hid h
  have HL := hid hL
  have hx0 : 0 ≤ (R (rest s i)).1 := (hR (rest s i) (by rw [rest_size]; unfold maxLen; omega)).x0
  clear hR h hL
  go_enter Tryd.func107, Tryd.ntmps107
  go_wp2_with fail
  refine (number R HR.out s hs i w c HH.out u pv HL.out).mono ?_
  rintro e w1 (⟨hq, rfl, M1⟩ | ⟨hq, rfl, hw⟩)
  · obtain ⟨n, hn⟩ : ∃ n : Nat, (R (rest s i)).1 = (n : Int) := Int.eq_ofNat_of_zero_le hx0
    have HP : Hid (pieceAt R s i = if ((rest s (i + (R (rest s i)).2)).size : Int) < (n : Int) then none else some ((rest s (i + (R (rest s i)).2)).extract 0 n, i + (R (rest s i)).2 + n)) := by
      unfold Hid pieceAt; rw [if_neg hq, hn, Int.toNat_natCast]
    have HM := hid M1
    have HL1 := hid (HL.out.kept M1.2 (by omega))
    rw [hn]
    clear hq M1 hx0 hn
    generalize i + (R (rest s i)).2 = i2 at *
    have hsz : (rest s i2).size ≤ 1048576 := by rw [rest_size]; omega
    by_cases hlt : ((rest s i2).size : Int) < (n : Int)
    · have HN : Hid (pieceAt R s i = none) := by rw [Hid, HP.out, if_pos hlt]
      go_wp2_with fail
      refine (take_no w1 c (rest s i2) (n : Int) HM.out.1 hlt u pv HL1.out).mono ?_
      rintro e w2 ⟨rfl, hw⟩
      obtain rfl := hw.symm
      unfold lack
      clear hlt
      go_wp2
      exact ⟨rfl, Or.inr ⟨HN.out, rfl, HM.out.2⟩⟩
    · have HN : Hid (pieceAt R s i = some ((rest s i2).extract 0 n, i2 + n)) := by rw [Hid, HP.out, if_neg hlt]
      have HRR := hid (rest_rest s i2 n)
      go_wp2_with fail
      refine (take_yes w1 c (rest s i2) n HM.out.1 (by omega) hsz).mono ?_
      rintro e w2 ⟨rfl, hw⟩
      have HM2 : Hid (Moved w w2 c (rest s (i2 + n))) := HM.out.trans (by rw [hw, HRR.out]; exact moved_set HM.out.1 _)
      clear hw hlt
      generalize (rest s i2).extract 0 n = t at *
      go_wp2
      go_ret
      exact Or.inl ⟨t, i2 + n, HN.out, rfl, HM2.out⟩
  · have HN : Hid (pieceAt R s i = none) := by unfold Hid pieceAt; rw [if_pos hq]
    obtain rfl := hw.symm
    clear hq hw
    unfold lack
    go_wp2
    exact ⟨rfl, Or.inr ⟨HN.out, rfl, Kept.refl _ _⟩⟩

/-- The cells of a list of outs, and a row of them of its own. -/
def oc (l : List Ou) : List Value := l.flatMap Ou.cells
theorem oc_len (l : List Ou) : (oc l).length = l.length * 2 := by
  induction l with
  | nil => rfl
  | cons x l ih => simp only [oc, List.flatMap_cons, List.length_append, List.length_cons] at *; rw [ih]; simp [Ou.cells]; omega
theorem oc_app (l : List Ou) (x : Ou) : oc l ++ x.cells = oc (l ++ [x]) := by simp [oc]
theorem oc_at (l : List Ou) (i : Nat) (h : i < l.length * 2) : (oc l).getD i undef = ocell l i := by
  induction l generalizing i with
  | nil => simp at h
  | cons x l ih =>
    have e : oc (x :: l) = Value.int .i64 x.sec :: .string x.text :: oc l := rfl
    rw [e]
    match i, h with
    | 0, _ => rfl
    | 1, _ => rfl
    | i + 2, h =>
      have := ih i (by simp only [List.length_cons] at h; omega)
      show (oc l).getD i undef = _
      rw [this]
      unfold ocell
      rw [show (i + 2) / 2 = i / 2 + 1 by omega, show (i + 2) % 2 = i % 2 by omega]
      rfl

def Or2 (w : World) (B : Nat) (v : Value) (l : List Ou) : Prop := RowO w B 65 2 v l.length (oc l)

theorem Or2.w {w : World} {B : Nat} {v : Value} {l : List Ou} (h : Or2 w B v l) : ∃ a cap, v = .slice a l.length cap ∧ OusW w B a l := by
  obtain ⟨a, cap, e, hw⟩ := RowO.wr h
  exact ⟨a, cap, e, hw.congr (fun i hi => oc_at l i hi)⟩

theorem infoOut : (Tryd.prog.info? 65).map (fun i => (i.zero, i.size, i.bytes)) = some (some (.agg #[.int .i64 0, .string ByteArray.empty]), 2, 24) := by kernel_rfl

theorem one_out (w : World) (x : Int) (t : ByteArray) : Sl (w.alloc (.cells #[.int .i64 x, .string t] 65)) (some ⟨w.heap.size, 0, none⟩) (1 * 2) (fun i => [Value.int .i64 x, .string t].getD i undef) :=
  (wr_new w _ 65 2 (fun i => [Value.int .i64 x, .string t].getD i undef) (fun i hi => by
    have : i = 0 ∨ i = 1 := by omega
    rcases this with rfl | rfl <;> rfl)).sl

/-- The outs of a journal's text: how many, then they. -/
def outsAll (R : ByteArray → Int × Nat) (s : ByteArray) (i : Nat) : Option (List Ou × Nat) :=
  if (R (rest s i)).2 = 0 ∨ 8 < (R (rest s i)).1 then none else outsAt R s (i + (R (rest s i)).2) (R (rest s i)).1.toNat

set_option maxRecDepth 100000 in
set_option maxHeartbeats 2000000 in
theorem outsParts (R : ByteArray → Int × Nat) (hR : Reads R) (s : ByteArray) (hs : s.size ≤ 1048576) (i : Nat) (w : World) (c : Nat) (h : Cur w c (rest s i)) (u : TypeId) (pv : Value) (hL : Lacks w u pv) (hc : 1 < c) :
    Calls Tryd.prog 92 #[.pointer (some ⟨c, 0, none⟩)] w fun e w' => ((∃ l z a cap, outsAll R s i = some (l, z) ∧ e = .returned (.slice a l.length cap) ∧ Or2 w' w.heap.size (.slice a l.length cap) l) ∨ (outsAll R s i = none ∧ e = lack u pv)) ∧ Kept (fun b => b = c) w w' := by
  have HR := hid hR
  have HH := hid h
  have HL := hid hL
  have hcl := h.lt
  have hx0 : 0 ≤ (R (rest s i)).1 := (hR (rest s i) (by rw [rest_size]; unfold maxLen; omega)).x0
  clear hR h hL
  go_enter Tryd.func92, Tryd.ntmps92
  go_wp2_with fail
  refine (count R HR.out s hs i 8 w c HH.out u pv HL.out hc).mono ?_
  rintro e w1 (⟨hq, hm, rfl, M1⟩ | ⟨hq, rfl, k1⟩)
  · have HF : Hid (outsAll R s i = outsAt R s (i + (R (rest s i)).2) (R (rest s i)).1.toNat) := by
      unfold Hid outsAll; rw [if_neg (by omega)]
    have HM := hid M1
    have hws1 := M1.2.size
    clear M1 hq
    generalize i + (R (rest s i)).2 = i2 at *
    obtain ⟨n, hn⟩ : ∃ n : Nat, (R (rest s i)).1 = (n : Int) := Int.eq_ofNat_of_zero_le hx0
    rw [hn] at HF hm
    rw [Int.toNat_natCast] at HF
    rw [hn]
    clear hn hx0
    go_wp2
    go_loopw [3, 7] (fun v j wr => ∃ (k : Nat) (l : List Ou) (z : Nat), k ≤ n ∧ j = .int .i64 (k : Int) ∧ Hid (outsAt R s i2 k = some (l, z)) ∧ Hid (Or2 wr w.heap.size v l) ∧ Hid (Cur wr c (rest s z)) ∧ Hid (Kept (fun b => b = c) w wr)) (fun _ j _ => n - (intOf j).toNat)
    case atStart => exact ⟨0, [], i2, Nat.zero_le _, rfl, rfl, Or.inl ⟨_, rfl, rfl, rfl⟩, HM.out.1, HM.out.2⟩
    case round =>
      obtain ⟨k, l, z, hk, rfl, HN, HI, HC, HK⟩ := hrel
      have hl : l.length ≤ 8 := by have := (outsAt_len HN.out).1; omega
      obtain ⟨a, cap, rfl, _⟩ := HI.out.w
      have hws := HK.out.size
      by_cases hlt : k < n
      · have HST := hid (outsAt_step HN.out)
        have HLr := hid (HL.out.kept HK.out (by omega))
        go_wp2_with fail
        refine (number R HR.out s hs z wr c HC.out u pv HLr.out).mono ?_
        rintro e w2 (⟨hq, rfl, M2⟩ | ⟨hq, rfl, hw⟩)
        · have HX : Hid (outsAt R s i2 (k + 1) = (pieceAt R s (z + (R (rest s z)).2)).map fun q => (l ++ [⟨(R (rest s z)).1, q.1⟩], q.2)) := by rw [Hid, HST.out, if_neg hq]
          have HM2 := hid M2
          have HL2 := hid (HLr.out.kept M2.2 (by omega))
          have HI2 : Hid (Or2 w2 w.heap.size (.slice a l.length cap) l) := RowO.kept HI.out M2.2 (fun b hb x => by have := (RowO.lt HI.out hb).1; omega)
          have HK2 : Hid (Kept (fun b => b = c) w w2) := (HK.out.trans M2.2).mono (fun b _ x => by rcases x with x | x <;> exact x)
          clear M2 hq HST HLr
          generalize (R (rest s z)).1 = x at *
          generalize z + (R (rest s z)).2 = z2 at *
          go_wp2_with fail
          refine (piece R HR.out s hs z2 w2 c HM2.out.1 u pv HL2.out hc).mono ?_
          rintro e w3 (⟨t, z3, hp, rfl, M3⟩ | ⟨hp, rfl, k3⟩)
          · have HX2 : Hid (outsAt R s i2 (k + 1) = some (l ++ [⟨x, t⟩], z3)) := by rw [Hid, HX.out, hp]; rfl
            have HM3 := hid M3
            have HI3 : Hid (Or2 w3 w.heap.size (.slice a l.length cap) l) := RowO.kept HI2.out M3.2 (fun b hb x => by have := (RowO.lt HI2.out hb).1; omega)
            have HK3 : Hid (Kept (fun b => b = c) w w3) := (HK2.out.trans M3.2).mono (fun b _ x => by rcases x with x | x <;> exact x)
            have hws3 := HK3.out.size
            clear M3 hp HX HI2 HM2 HL2
            have hwb : w.heap.size ≤ (w3.alloc (.cells #[.int .i64 x, .string t] 65)).heap.size := by have := lt_alloc w3 (.cells #[.int .i64 x, .string t] 65); omega
            go_wp2_with (at_builtin; refine wpList_app 39 65 (.agg #[.int .i64 0, .string ByteArray.empty]) 2 24 Tryd.underlying39 infoOut rfl (by decide) (by decide) _ rfl (.tmp 11) (.tmp 16) rfl w.heap.size _ l.length (oc l) rfl (RowO.below HI3.out ((Below.refl _ _).alloc (Nat.le_refl _) _)) ⟨w3.heap.size, 0, none⟩ 1 1 [.int .i64 x, .string t] rfl rfl (one_out w3 x t) (by intro u hu; simp at hu; rcases hu with rfl | rfl <;> rfl) (by omega) hwb ?_; intro v2 w4 r2 kk hi2; obtain ⟨p2, d2, e2, _⟩ := r2.wr; subst e2)
            have hrb : ∀ b, rb (.slice a l.length cap) = some b → w.heap.size ≤ b := fun b hb => (RowO.lt HI3.out hb).1
            have HC2 : Cur w4 c (rest s z3) := cur_kept ((HM3.out.1).below ((Below.refl _ _).alloc (Nat.le_refl _) _)) kk (fun x => by have := hrb c x; omega)
            have HK4 : Kept (fun b => b = c) w w4 := (HK3.out.trans ((Kept.of_below (S := fun _ => False) ((Below.refl _ w3).alloc (Nat.le_refl _) (.cells #[.int .i64 x, .string t] 65))).trans kk)).mono (fun b hb x => by rcases x with x | (x | x); exact x; cases x; (have := hrb b x; omega))
            exact ⟨⟨k + 1, l ++ [⟨x, t⟩], z3, by omega, by go_num, HX2, by unfold Or2; rw [← oc_app, List.length_append]; exact r2, HC2, HK4⟩, by simp [intOf]; omega⟩
          · have HX2 : Hid (outsAll R s i = none) := by
              have hz : outsAt R s i2 (k + 1) = none := by rw [HX.out, hp]; rfl
              have := outsAt_none hz (n - (k + 1))
              rw [Hid, HF.out]
              rwa [show k + 1 + (n - (k + 1)) = n by omega] at this
            have HK3 : Hid (Kept (fun b => b = c) w w3) := (HK2.out.trans k3).mono (fun b _ x => by rcases x with x | x <;> exact x)
            clear hp k3
            unfold lack
            go_wp2
            exact ⟨rfl, Or.inr ⟨HX2.out, rfl⟩, HK3.out⟩
        · have HX2 : Hid (outsAll R s i = none) := by
            have hz : outsAt R s i2 (k + 1) = none := by rw [HST.out, if_pos hq]
            have := outsAt_none hz (n - (k + 1))
            rw [Hid, HF.out]
            rwa [show k + 1 + (n - (k + 1)) = n by omega] at this
          obtain rfl := hw.symm
          clear hq hw
          unfold lack
          go_wp2
          exact ⟨rfl, Or.inr ⟨HX2.out, rfl⟩, HK.out⟩
      · obtain rfl : k = n := by omega
        go_wp2
        go_ret
        exact ⟨Or.inl ⟨l, z, a, cap, HF.out.trans HN.out, rfl, HI.out⟩, HK.out⟩
  · have HX2 : Hid (outsAll R s i = none) := by unfold Hid outsAll; rw [if_pos hq]
    have HK1 := hid k1
    clear hq k1
    unfold lack
    go_wp2
    exact ⟨rfl, Or.inr ⟨HX2.out, rfl⟩, HK1.out⟩

end Go.Proofs.YtfbnnhgaedficafDoor.Rd

namespace Go.Proofs.YtfbnnhgaedficafDoor.Rd
open Go.RowKit Go.Proofs.YtfbnnhgaedficafDoor.Mem Go.Proofs.YtfbnnhgaedficafDoor.Sec
set_option linter.unusedVariables false

theorem nums_cons {R : ByteArray → Int × Nat} {s : ByteArray} {i : Nat} (hq : (R (rest s i)).2 ≠ 0) : ∀ k, nums R s i (k + 1) = (nums R s (i + (R (rest s i)).2) k).map (fun p => ((R (rest s i)).1 :: p.1, p.2))
  | 0 => by
    rw [nums_step (l := []) (e := i) rfl, if_neg hq]; rfl
  | k + 1 => by
    conv => lhs; unfold nums
    rw [nums_cons hq k]
    conv => rhs; unfold nums
    cases nums R s (i + (R (rest s i)).2) k with
    | none => rfl
    | some p =>
      simp only [Option.map_some, Option.bind_some]
      split <;> simp

theorem nums_first {R : ByteArray → Int × Nat} {s : ByteArray} {i : Nat} (hq : (R (rest s i)).2 = 0) (k : Nat) : nums R s i (k + 1) = none := by
  have := nums_none (R := R) (s := s) (i := i) (k := 1) (by rw [nums_step (l := []) (e := i) rfl, if_pos hq]) k
  rwa [Nat.add_comm 1 k] at this

/-- What a host's sector is read as. -/
def readHost (R : ByteArray → Int × Nat) (s : ByteArray) : Option (Int × Int × Int) :=
  match nums R s 5 3 with
  | some ([b, x, y], _) => if showHost b (x - 1) y = s then some (b, x - 1, y) else none
  | _ => none

theorem load_row {P : Program} {w : World} {g : Nat} {xs : List Value} (hr : Row w g xs) {ty : TypeId} {d : TypeDesc} (hu : P.underlying ty = some d) (hd : (match d with | .struct _ | .array _ _ => true | _ => false) = true) (hi : (P.info? ty).map (·.size) = some xs.length) :
    (loadVar ty ⟨g, 0, none⟩).run P w = .ok (.agg xs.toArray) w := by
  obtain ⟨t, hg⟩ := hr
  exact run_loadVar_row w g t ty xs.toArray (0, 0) d hg hu hd (by simpa using hi)

theorem load_bool {w : World} {k : Nat} {b : Bool} (hb : Row w k [.bool b]) : (loadVar 4 ⟨k, 0, none⟩).run Tryd.prog w = .ok (.bool b) w := by
  have hc := hb.c 0 rfl
  simp [go_sem, hc]

/-- Two results that are handed back out of their own blocks. -/
theorem results_two {fn : Func} {p q : Tmp} {ty tb : TypeId} (h : fn.results = #[.cell p ty, .cell q tb]) (tmps : Array Value) (w : World) (g k : Nat) (v b : Value)
    (hp : tmps.getD p undef = .pointer (some ⟨g, 0, none⟩)) (hq : tmps.getD q undef = .pointer (some ⟨k, 0, none⟩)) (h1 : (loadVar ty ⟨g, 0, none⟩).run Tryd.prog w = .ok v w) (h2 : (loadVar tb ⟨k, 0, none⟩).run Tryd.prog w = .ok b w) :
    (results fn tmps).run Tryd.prog w = .ok (.tuple #[v, b]) w := by
  have hp' : tmps[p]?.getD undef = .pointer (some ⟨g, 0, none⟩) := by simpa using hp
  have hq' : tmps[q]?.getD undef = .pointer (some ⟨k, 0, none⟩) := by simpa using hq
  simp [results, h, hp', hq', asAddr, h1, h2]

theorem three_any (w : World) (xs ys zs : List Value) (t u v : TypeId) :
    ∃ wc, ((w.alloc (.cells xs.toArray t)).alloc (.cells ys.toArray u)).alloc (.cells zs.toArray v) = wc ∧ wc.heap.size = w.heap.size + 1 + 1 + 1 ∧
      Row wc w.heap.size xs ∧ Row wc (w.heap.size + 1) ys ∧ wc.heap[w.heap.size + 1 + 1]? = some (.cells zs.toArray v (0, 0)) ∧ Below w.heap.size w wc := by
  have e0 : (w.alloc (.cells xs.toArray t)).heap.size = w.heap.size + 1 := by simp
  have e1 : ((w.alloc (.cells xs.toArray t)).alloc (.cells ys.toArray u)).heap.size = w.heap.size + 1 + 1 := by simp
  have r1 := Row.new (w.alloc (.cells xs.toArray t)) ys u
  have r2 := heap_alloc_new ((w.alloc (.cells xs.toArray t)).alloc (.cells ys.toArray u)) (.cells zs.toArray v (0, 0))
  rw [e0] at r1
  rw [e1] at r2
  exact ⟨_, rfl, by simp, ((Row.new w xs t).alloc _).alloc _, r1.alloc _, r2, (((Below.refl _ _).alloc (Nat.le_refl _) _).alloc (by omega) _).alloc (by omega) _⟩

theorem nums_short (R : ByteArray → Int × Nat) (hR : Reads R) (s : ByteArray) (h : s.size ≤ 5) (hs : s.size ≤ 1048576) (k : Nat) : nums R s 5 (k + 1) = none := by
  refine nums_first ?_ k
  have := (hR (rest s 5) (by rw [rest_size]; unfold maxLen; omega)).le
  rw [rest_size] at this; omega

theorem readHost_short (R : ByteArray → Int × Nat) (hR : Reads R) (s : ByteArray) (h : s.size ≤ 5) (hs : s.size ≤ 1048576) : readHost R s = none := by
  unfold readHost; rw [nums_short R hR s h hs 2]

end Go.Proofs.YtfbnnhgaedficafDoor.Rd

namespace Go.Proofs.YtfbnnhgaedficafDoor.Sec
open Go.RowKit Go.Proofs.YtfbnnhgaedficafDoor.Mem
set_option linter.unusedVariables false

/-- A volume's value. -/
def vlV (h e : Int) (on : Bool) (a : Option Addr) (n cap : Nat) : Value := .agg #[.int .i64 h, .int .i64 e, .bool on, .slice a n cap]

/-- The highest number in a map. -/
def top (on : Bool) : Int := if on then 17 else -1

theorem volOk_no1 (h e : Int) (on : Bool) (l : List Int) (x : lsOk h e = false) : volOk h e on l = false := by unfold volOk; rw [x]; rfl
theorem volOk_no2 (h e : Int) (on : Bool) (l : List Int) (x : ¬ l.length = 4) : volOk h e on l = false := by unfold volOk; rw [decide_eq_false x]; cases lsOk h e <;> rfl
theorem volOk_more (h e : Int) (on : Bool) (l : List Int) (x : lsOk h e = true) (y : l.length = 4) : volOk h e on l = between (-1) (top on) l := by unfold volOk; rw [x, decide_eq_true y]; rfl
theorem vol_no {h e : Int} {on : Bool} {l : List Int} (x : volOk h e on l = false) : showVol h e on l = ⟨#[]⟩ := by unfold showVol; rw [x]; rfl
theorem vol_yes {h e : Int} {on : Bool} {l : List Int} (x : volOk h e on l = true) : summed (⟨#[118]⟩ ++ showLs h e ++ flag on ++ vrs (-1) l) = showVol h e on l := by unfold showVol; rw [x]; rfl
theorem vol_parts {h e : Int} {on : Bool} {l : List Int} (x : volOk h e on l = true) : lsOk h e = true ∧ l.length = 4 ∧ between (-1) (top on) l = true := by
  unfold volOk at x
  rw [Bool.and_eq_true, Bool.and_eq_true] at x
  exact ⟨x.1.1, of_decide_eq_true x.1.2, x.2⟩
theorem top_bd (on : Bool) : -1 ≤ top on ∧ top on ≤ 17 := by cases on <;> decide

theorem flag_size (on : Bool) : (flag on).size ≤ 7 := vr_size _

theorem vol_size (h e : Int) (on : Bool) (l : List Int) (x : l.length = 4) : ((⟨#[118]⟩ : ByteArray) ++ showLs h e ++ flag on ++ vrs (-1) l).size ≤ 1048576 := by
  have h1 := showLs_size h e
  have h2 := vrs_size (-1) l
  have h3 := flag_size on
  rw [ByteArray.size_append, ByteArray.size_append, ByteArray.size_append]
  have : (⟨#[118]⟩ : ByteArray).size = 1 := rfl
  omega

set_option maxRecDepth 100000 in
set_option maxHeartbeats 1000000 in
theorem l4VolOk (w : World) (h e : Int) (on : Bool) (a : Option Addr) (cap : Nat) (l : List Int) (S : Ints w a l) (hl : l.length ≤ 1048576) :
    Calls Tryd.prog 95 #[vlV h e on a l.length cap] w fun r w' => r = .returned (.bool (volOk h e on l)) ∧ Below w.heap.size w w' := by
  unfold vlV
  obtain ⟨wa, hwa, ez, A0, B0⟩ := one_new w [.int .i64 h, .int .i64 e, .bool on, .slice a l.length cap] 86
  have k0 := A0.c 0 rfl
  have k1 := A0.c 1 rfl
  have k2 := A0.c 2 rfl
  have k3 := A0.c 3 rfl
  have HA := hid A0
  have HB := hid B0
  have HS := hid S
  clear A0 B0 S
  go_enter Tryd.func95, Tryd.ntmps95
  go_wp2_with fail
  refine (l4Lease h e _).mono ?_
  rintro r w2 ⟨rfl, b2⟩
  replace k2 := (HA.out.below b2 HA.out.lt).c 2 rfl
  replace k3 := (HA.out.below b2 HA.out.lt).c 3 rfl
  have HB2 := hid (HB.out.trans (b2.mono HB.out.size))
  clear b2 hwa k0 k1 HA
  cases hz : lsOk h e with
  | false =>
    have HN := hid (volOk_no1 h e on l hz)
    clear hz
    go_wp2
    go_ret
    exact ⟨by rw [HN.out]; rfl, HB2.out⟩
  | true =>
    by_cases h6 : (l.length : Int) = 4
    · have HE := hid (volOk_more h e on l hz (by omega))
      have hd : ((l.length : Int) != 4) = false := by simpa using h6
      clear hz h6
      go_wp2
      go_loop [3] (fun i => ∃ k : Nat, k ≤ l.length ∧ i = .int .i64 (k : Int) ∧ Hid (between (-1) (top on) (l.take k) = true)) (fun i => l.length - (intOf i).toNat)
      case atStart => exact ⟨0, Nat.zero_le _, rfl, rfl⟩
      case round =>
        obtain ⟨k, hk, rfl, HK⟩ := hrel
        by_cases hlt : k < l.length
        · obtain ⟨b, off, rfl, hc⟩ := (HS.out.below HB2.out) k hlt
          replace hc : w2.cell? ⟨b, off + k, none⟩ = some (.int .i64 (l.getD k 0)) := hc
          have HT := hid (between_take (-1) (top on) l k hlt)
          have HN := hid (between_no (-1) (top on) l k hlt)
          generalize l.getD k 0 = x at *
          by_cases hx : x = -1
          · have HR : Hid (between (-1) (top on) (l.take (k + 1)) = true) := by
              have := top_bd on
              rw [Hid, HT.out, HK.out, decide_eq_true (show -1 ≤ x ∧ x ≤ top on by omega)]; rfl
            have hxb : (x != -1) = false := by simpa using hx
            clear hx
            go_wp2
            exact ⟨⟨k + 1, by omega, by go_num, HR⟩, by simp [intOf]; omega⟩
          have hxb : (x != -1) = true := by simpa using hx
          cases on with
          | false =>
            have HR := hid (HN.out (show ¬ (-1 ≤ x ∧ x ≤ -1) by omega))
            clear hx
            go_wp2
            go_ret
            exact ⟨by rw [HE.out, HR.out]; rfl, HB2.out⟩
          | true =>
            by_cases hy : 0 ≤ x ∧ x ≤ 17
            · have hy' := decide_eq_true hy
              have HR : Hid (between (-1) (top true) (l.take (k + 1)) = true) := by rw [Hid, HT.out, HK.out, decide_eq_true (show -1 ≤ x ∧ x ≤ top true from ⟨by omega, hy.2⟩)]; rfl
              clear hx hy
              go_wp2_with fail
              refine (hy' ▸ l4Block x _).mono ?_
              rintro r w3 ⟨rfl, hw⟩
              subst hw
              go_wp2
              exact ⟨⟨k + 1, by omega, by go_num, HR⟩, by simp [intOf]; omega⟩
            · have hy' := decide_eq_false hy
              have HR := hid (HN.out (show ¬ (-1 ≤ x ∧ x ≤ 17) by omega))
              clear hx hy
              go_wp2_with fail
              refine (hy' ▸ l4Block x _).mono ?_
              rintro r w3 ⟨rfl, hw⟩
              subst hw
              go_wp2
              go_ret
              exact ⟨by rw [HE.out, HR.out]; rfl, HB2.out⟩
        · obtain rfl : k = l.length := by omega
          have HR : Hid (between (-1) (top on) l = true) := by have := HK.out; rwa [List.take_length] at this
          go_wp2
          go_ret
          exact ⟨by rw [HE.out, HR.out]; rfl, HB2.out⟩
    · have HN := hid (volOk_no2 h e on l (by omega))
      clear hz
      go_wp2
      go_ret
      exact ⟨by rw [HN.out]; rfl, HB2.out⟩

set_option maxRecDepth 100000 in
set_option maxHeartbeats 1000000 in
theorem isVol_true (w : World) (h e : Int) (a : Option Addr) (cap : Nat) (l : List Int) (S : Ints w a l) (hl : l.length ≤ 1048576) :
    Calls Tryd.prog 111 #[vlV h e true a l.length cap] w fun r w' => r = .returned (.bool (volOk h e true l)) ∧ Below w.heap.size w w' := by
  unfold vlV
  obtain ⟨wa, hwa, ez, A0, B0⟩ := one_new w [.int .i64 h, .int .i64 e, .bool true, .slice a l.length cap] 86
  have k0 := A0.c 0 rfl
  have k1 := A0.c 1 rfl
  have k2 := A0.c 2 rfl
  have k3 := A0.c 3 rfl
  have HA := hid A0
  have HB := hid B0
  have HS := hid S
  clear A0 B0 S
  go_enter Tryd.func111, Tryd.ntmps111
  go_wp2_with fail
  refine (isLease h e _).mono ?_
  rintro r w2 ⟨rfl, b2⟩
  replace k3 := (HA.out.below b2 HA.out.lt).c 3 rfl
  have HB2 := hid (HB.out.trans (b2.mono HB.out.size))
  clear b2 hwa k0 k1 k2 HA
  cases hz : lsOk h e with
  | false =>
    have HN := hid (volOk_no1 h e true l hz)
    clear hz
    go_wp2
    go_ret
    exact ⟨by rw [HN.out]; rfl, HB2.out⟩
  | true =>
    by_cases h6 : (l.length : Int) = 4
    · have HE := hid (volOk_more h e true l hz (by omega))
      have hd : ((l.length : Int) == 4) = true := by simpa using h6
      clear hz h6
      go_wp2_with fail
      refine (areFrom w2 a cap l (-1) 17 (HS.out.below HB2.out) hl).mono ?_
      rintro r w3 ⟨rfl, hw⟩
      subst hw
      have HE' : Hid (volOk h e true l = between (-1) 17 l) := HE
      generalize between (-1) 17 l = z at *
      go_wp2
      go_ret
      exact ⟨by rw [HE'.out]; rfl, HB2.out⟩
    · have HN := hid (volOk_no2 h e true l (by omega))
      have hd : ((l.length : Int) == 4) = false := by simpa using h6
      clear hz
      go_wp2
      go_ret
      exact ⟨by rw [HN.out]; rfl, HB2.out⟩

set_option maxRecDepth 100000 in
set_option maxHeartbeats 1000000 in
theorem isVol_false (w : World) (h e : Int) (a : Option Addr) (cap : Nat) (l : List Int) (S : Ints w a l) (hl : l.length ≤ 1048576) :
    Calls Tryd.prog 111 #[vlV h e false a l.length cap] w fun r w' => r = .returned (.bool (volOk h e false l)) ∧ Below w.heap.size w w' := by
  unfold vlV
  obtain ⟨wa, hwa, ez, A0, B0⟩ := one_new w [.int .i64 h, .int .i64 e, .bool false, .slice a l.length cap] 86
  have k0 := A0.c 0 rfl
  have k1 := A0.c 1 rfl
  have k2 := A0.c 2 rfl
  have k3 := A0.c 3 rfl
  have HA := hid A0
  have HB := hid B0
  have HS := hid S
  clear A0 B0 S
  go_enter Tryd.func111, Tryd.ntmps111
  go_wp2_with fail
  refine (isLease h e _).mono ?_
  rintro r w2 ⟨rfl, b2⟩
  replace k3 := (HA.out.below b2 HA.out.lt).c 3 rfl
  have HB2 := hid (HB.out.trans (b2.mono HB.out.size))
  clear b2 hwa k0 k1 k2 HA
  cases hz : lsOk h e with
  | false =>
    have HN := hid (volOk_no1 h e false l hz)
    clear hz
    go_wp2
    go_ret
    exact ⟨by rw [HN.out]; rfl, HB2.out⟩
  | true =>
    by_cases h6 : (l.length : Int) = 4
    · have HE := hid (volOk_more h e false l hz (by omega))
      have hd : ((l.length : Int) == 4) = true := by simpa using h6
      clear hz h6
      go_wp2_with fail
      refine (areFrom w2 a cap l (-1) (-1) (HS.out.below HB2.out) hl).mono ?_
      rintro r w3 ⟨rfl, hw⟩
      subst hw
      have HE' : Hid (volOk h e false l = between (-1) (-1) l) := HE
      generalize between (-1) (-1) l = z at *
      go_wp2
      go_ret
      exact ⟨by rw [HE'.out]; rfl, HB2.out⟩
    · have HN := hid (volOk_no2 h e false l (by omega))
      have hd : ((l.length : Int) == 4) = false := by simpa using h6
      clear hz
      go_wp2
      go_ret
      exact ⟨by rw [HN.out]; rfl, HB2.out⟩

theorem isVol (w : World) (h e : Int) (on : Bool) (a : Option Addr) (cap : Nat) (l : List Int) (S : Ints w a l) (hl : l.length ≤ 1048576) :
    Calls Tryd.prog 111 #[vlV h e on a l.length cap] w fun r w' => r = .returned (.bool (volOk h e on l)) ∧ Below w.heap.size w w' := by
  cases on
  · exact isVol_false w h e a cap l S hl
  · exact isVol_true w h e a cap l S hl

set_option maxRecDepth 100000 in
set_option maxHeartbeats 1000000 in
theorem sShowVol (w : World) (h e : Int) (on : Bool) (a : Option Addr) (cap : Nat) (l : List Int) (S : Ints w a l) (hl : l.length ≤ 1048576) :
    Calls Tryd.prog 60 #[vlV h e on a l.length cap] w fun r w' => r = .returned (.string (showVol h e on l)) ∧ Below w.heap.size w w' := by
  unfold vlV
  obtain ⟨wa, hwa, ez, A0, B0⟩ := one_new w [.int .i64 h, .int .i64 e, .bool on, .slice a l.length cap] 86
  have k0 := A0.c 0 rfl
  have k1 := A0.c 1 rfl
  have k2 := A0.c 2 rfl
  have k3 := A0.c 3 rfl
  have HA := hid A0
  have HB := hid B0
  have HS := hid S
  clear A0 B0 S
  go_enter Tryd.func60, Tryd.ntmps60
  go_wp2_with fail
  refine (l4VolOk wa h e on a cap l (HS.out.below HB.out) hl).mono ?_
  rintro r w2 ⟨rfl, b2⟩
  have HA2 := hid (HA.out.below b2 HA.out.lt)
  replace k0 := HA2.out.c 0 rfl
  replace k1 := HA2.out.c 1 rfl
  replace k2 := HA2.out.c 2 rfl
  replace k3 := HA2.out.c 3 rfl
  have HB2 := hid (HB.out.trans (b2.mono HB.out.size))
  clear b2 hwa HA
  cases hf : volOk h e on l with
  | false =>
    have HN := hid (vol_no hf)
    clear hf
    go_wp2
    go_ret
    exact ⟨Own.ret_str HN.out.symm, HB2.out⟩
  | true =>
    have HY := hid (vol_yes hf)
    obtain ⟨p1, p2, p3⟩ := vol_parts hf
    have HZ := hid (vol_size h e on l p2)
    have HV := hid (fun k => vrs_size (-1) (l.take k))
    have hbd := ls_bd p1
    have HP : Hid (∀ k, k < l.length → -1 ≤ l.getD k 0 ∧ l.getD k 0 ≤ 17) := fun k hk => by have := between_getD p3 k hk; have := top_bd on; omega
    have z1 := showLs_size h e
    have z2 := flag_size on
    have h12 : l.length ≤ 12 := by omega
    clear hf p1 p2 p3
    go_wp2
    replace k0 := BW.cell k0
    replace k1 := BW.cell k1
    replace k2 := BW.cell k2
    have hne : Nonempty (BW w2) := ⟨⟨w2, Below.refl _ _⟩⟩
    refine wp_region_bw (by kernel_rfl) (by kernel_rfl) ?_
    repeat (go_big_quiet_step (first
      | (go_at_call 94; refine bw_below (l4ShowLease h e _ hbd.1 hbd.2))
      | (go_at_call 43; refine bw_below (l4Flag on _))))
    refine wpQuiet_nil ?_
    intro w3 hw'
    obtain ⟨u, hu⟩ := hw'
    have b3 := u.bel
    rw [← hu] at b3
    clear hu
    have HA3 := hid (HA2.out.below b3 HA2.out.lt)
    have HB3 := hid (HB2.out.trans (b3.mono HB2.out.size))
    clear b3 k0 k1 k2 k3 HA2 hne
    generalize hp : (⟨#[118]⟩ : ByteArray) ++ showLs h e ++ flag on = p at *
    have zp : p.size ≤ 22 := by rw [← hp, ByteArray.size_append, ByteArray.size_append]; have : (⟨#[118]⟩ : ByteArray).size = 1 := rfl; omega
    go_wp2
    clear hp
    go_loopw [3, 4] (fun s i wr => ∃ k : Nat, k ≤ l.length ∧ i = .int .i64 (k : Int) ∧ s = .string (p ++ vrs (-1) (l.take k)) ∧ Hid (Below w3.heap.size w3 wr)) (fun _ i _ => l.length - (intOf i).toNat)
    case atStart => exact ⟨0, Nat.zero_le _, rfl, by rw [show vrs (-1) (l.take 0) = ⟨#[]⟩ from rfl, append_empty], Below.refl _ _⟩
    case round =>
      obtain ⟨k, hk, rfl, rfl, HB'⟩ := hrel
      have k2 := (HA3.out.below HB'.out HA3.out.lt).c 3 rfl
      have HBr := hid (HB3.out.trans (HB'.out.mono HB3.out.size))
      by_cases hlt : k < l.length
      · obtain ⟨b, off, rfl, hc⟩ := (HS.out.below HBr.out) k hlt
        replace hc : wr.cell? ⟨b, off + k, none⟩ = some (.int .i64 (l.getD k 0)) := hc
        have HT := hid (vrs_take (-1) l k hlt)
        have hbk := HP.out k hlt
        have hz := HV.out k
        have hzl : (l.take k).length ≤ k := List.length_take_le _ _
        generalize l.getD k 0 = x at *
        generalize vrs (-1) (l.take k) = s at *
        have hps : (p ++ s).size ≤ 1000 := by rw [ByteArray.size_append]; omega
        have HAs := hid (append_assoc p s (vr (x - -1)))
        generalize p ++ s = q at *
        go_wp2_with fail
        refine (sVar (x + 1) _).mono ?_
        rintro r w4 ⟨rfl, b4⟩
        have zx := vr_size (x + 1)
        have HB4 := hid (HB'.out.trans (b4.mono HB'.out.size))
        clear b4 hc k2
        go_wp2
        exact ⟨⟨k + 1, by omega, by go_num, by rw [HT.out, ← HAs.out, Int.sub_neg], HB4⟩, by simp [intOf]; omega⟩
      · obtain rfl : k = l.length := by omega
        have HE : Hid (vrs (-1) (l.take l.length) = vrs (-1) l) := by rw [Hid, List.take_length]
        rw [HE.out]
        generalize p ++ vrs (-1) l = q at *
        go_wp2_with fail
        refine (l4Sum q _ HZ.out).mono ?_
        rintro r w4 ⟨rfl, b4⟩
        have HB4 := hid (HBr.out.trans (b4.mono HBr.out.size))
        clear b4 k2
        go_wp2
        go_ret
        exact ⟨Own.ret_str HY.out, HB4.out⟩

set_option maxRecDepth 100000 in
set_option maxHeartbeats 1000000 in
theorem iShowVol (w : World) (h e : Int) (on : Bool) (a : Option Addr) (cap : Nat) (l : List Int) (S : Ints w a l) (hl : l.length ≤ 1048576) (T : Sums w) :
    Calls Tryd.prog 99 #[vlV h e on a l.length cap] w fun r w' => r = .returned (.string (showVol h e on l)) ∧ Below w.heap.size w w' := by
  unfold vlV
  obtain ⟨wa, hwa, ez, A0, B0⟩ := one_new w [.int .i64 h, .int .i64 e, .bool on, .slice a l.length cap] 86
  have k0 := A0.c 0 rfl
  have k1 := A0.c 1 rfl
  have k2 := A0.c 2 rfl
  have k3 := A0.c 3 rfl
  have HA := hid A0
  have HB := hid B0
  have HS := hid S
  have HT := hid T
  clear A0 B0 S T
  go_enter Tryd.func99, Tryd.ntmps99
  go_wp2_with fail
  refine (isVol wa h e on a cap l (HS.out.below HB.out) hl).mono ?_
  rintro r w2 ⟨rfl, b2⟩
  have HA2 := hid (HA.out.below b2 HA.out.lt)
  replace k0 := HA2.out.c 0 rfl
  replace k1 := HA2.out.c 1 rfl
  replace k2 := HA2.out.c 2 rfl
  replace k3 := HA2.out.c 3 rfl
  have HB2 := hid (HB.out.trans (b2.mono HB.out.size))
  have HT2 := hid (HT.out.below HB2.out)
  clear b2 hwa HA
  cases hf : volOk h e on l with
  | false =>
    have HN := hid (vol_no hf)
    clear hf
    go_wp2
    go_ret
    exact ⟨Own.ret_str HN.out.symm, HB2.out⟩
  | true =>
    have HY := hid (vol_yes hf)
    obtain ⟨p1, p2, p3⟩ := vol_parts hf
    have HZ := hid (vol_size h e on l p2)
    have hbd := ls_bd p1
    have z1 := showLs_size h e
    have z2 := vrs_size (-1) l
    have h12 : l.length ≤ 12 := by omega
    have z3 := flag_size on
    have HP : Hid (∀ k, k < l.length → -1 ≤ l.getD k 0 ∧ l.getD k 0 ≤ 17) := fun k hk => by have := between_getD p3 k hk; have := top_bd on; omega
    clear hf p1 p2 p3
    go_wp2
    replace k0 := BW.cell k0
    replace k1 := BW.cell k1
    replace k2 := BW.cell k2
    replace k3 := BW.cell k3
    have hne : Nonempty (BW w2) := ⟨⟨w2, Below.refl _ _⟩⟩
    refine wp_region_bw (by kernel_rfl) (by kernel_rfl) ?_
    repeat (go_big_quiet_step (first
      | (go_at_call 36; refine bw_below (showNumbers _ a cap l (-1) (HS.out.below (HB2.out.trans ((BW.bel _).mono HB2.out.size))) (by omega) (by decide) (fun k hk => by have := HP.out k hk; omega)))
      | (go_at_call 48; refine bw_below (showFlag on _))
      | (go_at_call 110; refine bw_below (showLease h e _ hbd.1 hbd.2))
      | (go_at_call 34; refine bw_below (withSum' _ _ HZ.out (HT2.out.below (BW.bel _))))))
    refine wpQuiet_nil ?_
    intro _ hw'
    obtain ⟨u, rfl⟩ := hw'
    have HU := hid (HB2.out.trans (u.bel.mono HB2.out.size))
    clear k0 k1 k2 k3
    go_wp2
    go_ret
    exact ⟨Own.ret_str HY.out, HU.out⟩

end Go.Proofs.YtfbnnhgaedficafDoor.Sec

namespace Go.Proofs.YtfbnnhgaedficafDoor.Sec
open Go.RowKit Go.Proofs.YtfbnnhgaedficafDoor.Mem
set_option linter.unusedVariables false

/-- A group's value. -/
def gpV (h e : Int) (a : Option Addr) (n cap : Nat) : Value := .agg #[.int .i64 h, .int .i64 e, .slice a n cap]

theorem groupOk_no1 (h e : Int) (l : List Int) (x : lsOk h e = false) : groupOk h e l = false := by unfold groupOk; rw [x]; rfl
theorem groupOk_no2 (h e : Int) (l : List Int) (x : ¬ l.length = 6) : groupOk h e l = false := by unfold groupOk; rw [decide_eq_false x]; cases lsOk h e <;> rfl
theorem groupOk_more (h e : Int) (l : List Int) (x : lsOk h e = true) (y : l.length = 6) : groupOk h e l = between 0 16 l := by unfold groupOk; rw [x, decide_eq_true y]; rfl
theorem group_no {h e : Int} {l : List Int} (x : groupOk h e l = false) : showGroup h e l = ⟨#[]⟩ := by unfold showGroup; rw [x]; rfl
theorem group_yes {h e : Int} {l : List Int} (x : groupOk h e l = true) : summed (⟨#[103]⟩ ++ showLs h e ++ vrs 0 l) = showGroup h e l := by unfold showGroup; rw [x]; rfl
theorem group_parts {h e : Int} {l : List Int} (x : groupOk h e l = true) : lsOk h e = true ∧ l.length = 6 ∧ between 0 16 l = true := by
  unfold groupOk at x
  rw [Bool.and_eq_true, Bool.and_eq_true] at x
  exact ⟨x.1.1, of_decide_eq_true x.1.2, x.2⟩

theorem group_size (h e : Int) (l : List Int) (x : l.length = 6) : ((⟨#[103]⟩ : ByteArray) ++ showLs h e ++ vrs 0 l).size ≤ 1048576 := by
  have h1 := showLs_size h e
  have h2 := vrs_size 0 l
  rw [ByteArray.size_append, ByteArray.size_append]
  have : (⟨#[103]⟩ : ByteArray).size = 1 := rfl
  omega

set_option maxRecDepth 100000 in
set_option maxHeartbeats 1000000 in
theorem l4GroupOk (w : World) (h e : Int) (a : Option Addr) (cap : Nat) (l : List Int) (S : Ints w a l) (hl : l.length ≤ 1048576) :
    Calls Tryd.prog 96 #[gpV h e a l.length cap] w fun r w' => r = .returned (.bool (groupOk h e l)) ∧ Below w.heap.size w w' := by
  unfold gpV
  obtain ⟨wa, hwa, ez, A0, B0⟩ := one_new w [.int .i64 h, .int .i64 e, .slice a l.length cap] 89
  have k0 := A0.c 0 rfl
  have k1 := A0.c 1 rfl
  have k2 := A0.c 2 rfl
  have HA := hid A0
  have HB := hid B0
  have HS := hid S
  clear A0 B0 S
  go_enter Tryd.func96, Tryd.ntmps96
  go_wp2_with fail
  refine (l4Lease h e _).mono ?_
  rintro r w2 ⟨rfl, b2⟩
  replace k2 := (HA.out.below b2 HA.out.lt).c 2 rfl
  have HB2 := hid (HB.out.trans (b2.mono HB.out.size))
  clear b2 hwa k0 k1 HA
  cases hz : lsOk h e with
  | false =>
    have HN := hid (groupOk_no1 h e l hz)
    clear hz
    go_wp2
    go_ret
    exact ⟨by rw [HN.out]; rfl, HB2.out⟩
  | true =>
    by_cases h6 : (l.length : Int) = 6
    · have HE := hid (groupOk_more h e l hz (by omega))
      have hd : ((l.length : Int) != 6) = false := by simpa using h6
      clear hz h6
      go_wp2
      go_loop [3] (fun i => ∃ k : Nat, k ≤ l.length ∧ i = .int .i64 (k : Int) ∧ Hid (between 0 16 (l.take k) = true)) (fun i => l.length - (intOf i).toNat)
      case atStart => exact ⟨0, Nat.zero_le _, rfl, rfl⟩
      case round =>
        obtain ⟨k, hk, rfl, HK⟩ := hrel
        by_cases hlt : k < l.length
        · obtain ⟨b, off, rfl, hc⟩ := (HS.out.below HB2.out) k hlt
          replace hc : w2.cell? ⟨b, off + k, none⟩ = some (.int .i64 (l.getD k 0)) := hc
          have HT := hid (between_take 0 16 l k hlt)
          have HN := hid (between_no 0 16 l k hlt)
          generalize l.getD k 0 = x at *
          by_cases hx : 0 ≤ x ∧ x ≤ 16
          · have hx' := decide_eq_true hx
            have HR : Hid (between 0 16 (l.take (k + 1)) = true) := by rw [Hid, HT.out, HK.out, hx']; rfl
            clear hx
            go_wp2_with fail
            refine (hx' ▸ l1In x 0 16 _).mono ?_
            rintro r w3 ⟨rfl, hw⟩
            subst hw
            go_wp2
            exact ⟨⟨k + 1, by omega, by go_num, HR⟩, by simp [intOf]; omega⟩
          · have hx' := decide_eq_false hx
            have HR := hid (HN.out hx)
            clear hx
            go_wp2_with fail
            refine (hx' ▸ l1In x 0 16 _).mono ?_
            rintro r w3 ⟨rfl, hw⟩
            subst hw
            go_wp2
            go_ret
            exact ⟨by rw [HE.out, HR.out]; rfl, HB2.out⟩
        · obtain rfl : k = l.length := by omega
          have HR : Hid (between 0 16 l = true) := by have := HK.out; rwa [List.take_length] at this
          go_wp2
          go_ret
          exact ⟨by rw [HE.out, HR.out]; rfl, HB2.out⟩
    · have HN := hid (groupOk_no2 h e l (by omega))
      clear hz
      go_wp2
      go_ret
      exact ⟨by rw [HN.out]; rfl, HB2.out⟩

set_option maxRecDepth 100000 in
set_option maxHeartbeats 1000000 in
theorem isGroup (w : World) (h e : Int) (a : Option Addr) (cap : Nat) (l : List Int) (S : Ints w a l) (hl : l.length ≤ 1048576) :
    Calls Tryd.prog 112 #[gpV h e a l.length cap] w fun r w' => r = .returned (.bool (groupOk h e l)) ∧ Below w.heap.size w w' := by
  unfold gpV
  obtain ⟨wa, hwa, ez, A0, B0⟩ := one_new w [.int .i64 h, .int .i64 e, .slice a l.length cap] 89
  have k0 := A0.c 0 rfl
  have k1 := A0.c 1 rfl
  have k2 := A0.c 2 rfl
  have HA := hid A0
  have HB := hid B0
  have HS := hid S
  clear A0 B0 S
  go_enter Tryd.func112, Tryd.ntmps112
  go_wp2_with fail
  refine (isLease h e _).mono ?_
  rintro r w2 ⟨rfl, b2⟩
  replace k2 := (HA.out.below b2 HA.out.lt).c 2 rfl
  have HB2 := hid (HB.out.trans (b2.mono HB.out.size))
  clear b2 hwa k0 k1 HA
  cases hz : lsOk h e with
  | false =>
    have HN := hid (groupOk_no1 h e l hz)
    clear hz
    go_wp2
    go_ret
    exact ⟨by rw [HN.out]; rfl, HB2.out⟩
  | true =>
    by_cases h6 : (l.length : Int) = 6
    · have HE := hid (groupOk_more h e l hz (by omega))
      have hd : ((l.length : Int) == 6) = true := by simpa using h6
      clear hz h6
      go_wp2_with fail
      refine (areFrom w2 a cap l 0 16 (HS.out.below HB2.out) hl).mono ?_
      rintro r w3 ⟨rfl, hw⟩
      subst hw
      generalize between 0 16 l = z at *
      go_wp2
      go_ret
      exact ⟨by rw [HE.out]; rfl, HB2.out⟩
    · have HN := hid (groupOk_no2 h e l (by omega))
      have hd : ((l.length : Int) == 6) = false := by simpa using h6
      clear hz
      go_wp2
      go_ret
      exact ⟨by rw [HN.out]; rfl, HB2.out⟩

set_option maxRecDepth 100000 in
set_option maxHeartbeats 1000000 in
theorem sShowGroup (w : World) (h e : Int) (a : Option Addr) (cap : Nat) (l : List Int) (S : Ints w a l) (hl : l.length ≤ 1048576) :
    Calls Tryd.prog 62 #[gpV h e a l.length cap] w fun r w' => r = .returned (.string (showGroup h e l)) ∧ Below w.heap.size w w' := by
  unfold gpV
  obtain ⟨wa, hwa, ez, A0, B0⟩ := one_new w [.int .i64 h, .int .i64 e, .slice a l.length cap] 89
  have k0 := A0.c 0 rfl
  have k1 := A0.c 1 rfl
  have k2 := A0.c 2 rfl
  have HA := hid A0
  have HB := hid B0
  have HS := hid S
  clear A0 B0 S
  go_enter Tryd.func62, Tryd.ntmps62
  go_wp2_with fail
  refine (l4GroupOk wa h e a cap l (HS.out.below HB.out) hl).mono ?_
  rintro r w2 ⟨rfl, b2⟩
  have HA2 := hid (HA.out.below b2 HA.out.lt)
  replace k0 := HA2.out.c 0 rfl
  replace k1 := HA2.out.c 1 rfl
  replace k2 := HA2.out.c 2 rfl
  have HB2 := hid (HB.out.trans (b2.mono HB.out.size))
  clear b2 hwa HA
  cases hf : groupOk h e l with
  | false =>
    have HN := hid (group_no hf)
    clear hf
    go_wp2
    go_ret
    exact ⟨Own.ret_str HN.out.symm, HB2.out⟩
  | true =>
    have HY := hid (group_yes hf)
    obtain ⟨p1, p2, p3⟩ := group_parts hf
    have HZ := hid (group_size h e l p2)
    have HV := hid (fun k => vrs_size 0 (l.take k))
    have hbd := ls_bd p1
    have z1 := showLs_size h e
    have h12 : l.length ≤ 12 := by omega
    clear hf p1 p2 p3
    go_wp2_with fail
    refine (l4ShowLease h e _ hbd.1 hbd.2).mono ?_
    rintro r w3 ⟨rfl, b3⟩
    have HA3 := hid (HA2.out.below b3 HA2.out.lt)
    have HB3 := hid (HB2.out.trans (b3.mono HB2.out.size))
    clear b3 k0 k1 k2 HA2
    generalize hp : (⟨#[103]⟩ : ByteArray) ++ showLs h e = p at *
    have zp : p.size ≤ 15 := by rw [← hp, ByteArray.size_append]; have : (⟨#[103]⟩ : ByteArray).size = 1 := rfl; omega
    go_wp2
    clear hp
    go_loopw [3, 4] (fun s i wr => ∃ k : Nat, k ≤ l.length ∧ i = .int .i64 (k : Int) ∧ s = .string (p ++ vrs 0 (l.take k)) ∧ Hid (Below w3.heap.size w3 wr)) (fun _ i _ => l.length - (intOf i).toNat)
    case atStart => exact ⟨0, Nat.zero_le _, rfl, by rw [show vrs 0 (l.take 0) = ⟨#[]⟩ from rfl, append_empty], Below.refl _ _⟩
    case round =>
      obtain ⟨k, hk, rfl, rfl, HB'⟩ := hrel
      have k2 := (HA3.out.below HB'.out HA3.out.lt).c 2 rfl
      have HBr := hid (HB3.out.trans (HB'.out.mono HB3.out.size))
      by_cases hlt : k < l.length
      · obtain ⟨b, off, rfl, hc⟩ := (HS.out.below HBr.out) k hlt
        replace hc : wr.cell? ⟨b, off + k, none⟩ = some (.int .i64 (l.getD k 0)) := hc
        have HT := hid (vrs_take 0 l k hlt)
        have hz := HV.out k
        have hzl : (l.take k).length ≤ k := List.length_take_le _ _
        generalize l.getD k 0 = x at *
        generalize vrs 0 (l.take k) = s at *
        have hps : (p ++ s).size ≤ 1000 := by rw [ByteArray.size_append]; omega
        have HAs := hid (append_assoc p s (vr (x - 0)))
        generalize p ++ s = q at *
        go_wp2_with fail
        refine (sVar x _).mono ?_
        rintro r w4 ⟨rfl, b4⟩
        have zx := vr_size x
        have HB4 := hid (HB'.out.trans (b4.mono HB'.out.size))
        clear b4 hc k2
        go_wp2
        exact ⟨⟨k + 1, by omega, by go_num, by rw [HT.out, ← HAs.out, Int.sub_zero], HB4⟩, by simp [intOf]; omega⟩
      · obtain rfl : k = l.length := by omega
        have HE : Hid (vrs 0 (l.take l.length) = vrs 0 l) := by rw [Hid, List.take_length]
        rw [HE.out]
        generalize p ++ vrs 0 l = q at *
        go_wp2_with fail
        refine (l4Sum q _ HZ.out).mono ?_
        rintro r w4 ⟨rfl, b4⟩
        have HB4 := hid (HBr.out.trans (b4.mono HBr.out.size))
        clear b4 k2
        go_wp2
        go_ret
        exact ⟨Own.ret_str HY.out, HB4.out⟩

set_option maxRecDepth 100000 in
set_option maxHeartbeats 1000000 in
theorem iShowGroup (w : World) (h e : Int) (a : Option Addr) (cap : Nat) (l : List Int) (S : Ints w a l) (hl : l.length ≤ 1048576) (T : Sums w) :
    Calls Tryd.prog 101 #[gpV h e a l.length cap] w fun r w' => r = .returned (.string (showGroup h e l)) ∧ Below w.heap.size w w' := by
  unfold gpV
  obtain ⟨wa, hwa, ez, A0, B0⟩ := one_new w [.int .i64 h, .int .i64 e, .slice a l.length cap] 89
  have k0 := A0.c 0 rfl
  have k1 := A0.c 1 rfl
  have k2 := A0.c 2 rfl
  have HA := hid A0
  have HB := hid B0
  have HS := hid S
  have HT := hid T
  clear A0 B0 S T
  go_enter Tryd.func101, Tryd.ntmps101
  go_wp2_with fail
  refine (isGroup wa h e a cap l (HS.out.below HB.out) hl).mono ?_
  rintro r w2 ⟨rfl, b2⟩
  have HA2 := hid (HA.out.below b2 HA.out.lt)
  replace k0 := HA2.out.c 0 rfl
  replace k1 := HA2.out.c 1 rfl
  replace k2 := HA2.out.c 2 rfl
  have HB2 := hid (HB.out.trans (b2.mono HB.out.size))
  have HT2 := hid (HT.out.below HB2.out)
  clear b2 hwa HA
  cases hf : groupOk h e l with
  | false =>
    have HN := hid (group_no hf)
    clear hf
    go_wp2
    go_ret
    exact ⟨Own.ret_str HN.out.symm, HB2.out⟩
  | true =>
    have HY := hid (group_yes hf)
    obtain ⟨p1, p2, p3⟩ := group_parts hf
    have HZ := hid (group_size h e l p2)
    have hbd := ls_bd p1
    have z1 := showLs_size h e
    have z2 := vrs_size 0 l
    have h12 : l.length ≤ 12 := by omega
    have HP := hid (between_getD p3)
    clear hf p1 p2 p3
    go_wp2
    replace k0 := BW.cell k0
    replace k1 := BW.cell k1
    replace k2 := BW.cell k2
    have hne : Nonempty (BW w2) := ⟨⟨w2, Below.refl _ _⟩⟩
    refine wp_region_bw (by kernel_rfl) (by kernel_rfl) ?_
    repeat (go_big_quiet_step (first
      | (go_at_call 36; refine bw_below (showNumbers _ a cap l 0 (HS.out.below (HB2.out.trans ((BW.bel _).mono HB2.out.size))) (by omega) (by decide) (fun k hk => by have := HP.out k hk; omega)))
      | (go_at_call 110; refine bw_below (showLease h e _ hbd.1 hbd.2))
      | (go_at_call 34; refine bw_below (withSum' _ _ HZ.out (HT2.out.below (BW.bel _))))))
    refine wpQuiet_nil ?_
    intro _ hw'
    obtain ⟨u, rfl⟩ := hw'
    have HU := hid (HB2.out.trans (u.bel.mono HB2.out.size))
    clear k0 k1 k2
    go_wp2
    go_ret
    exact ⟨Own.ret_str HY.out, HU.out⟩

end Go.Proofs.YtfbnnhgaedficafDoor.Sec

namespace Go.Proofs.YtfbnnhgaedficafDoor.Rd
open Go.RowKit Go.Proofs.YtfbnnhgaedficafDoor.Mem Go.Proofs.YtfbnnhgaedficafDoor.Sec
set_option linter.unusedVariables false

theorem Cur.drew {w : World} {c : Nat} {r : ByteArray} (h : Cur w c r) : Cur w.drew c r := h
theorem Lacks.drew {w : World} {u : TypeId} {pv : Value} (h : Lacks w u pv) : Lacks w.drew u pv := h
theorem kundrew {S : Nat → Prop} {w w' : World} (h : Kept S w.drew w') : Kept S w w' := ⟨h.os, h.tape, h.output, h.size, h.block⟩

/-- The numbers behind a lease: n of them from place i on. -/
theorem nums_split {R : ByteArray → Int × Nat} {s : ByteArray} {i : Nat} : ∀ {n : Nat} {x y : Int} {z : Nat}, nums R s i 2 = some ([x, y], z) → nums R s i (n + 2) = (nums R s z n).map (fun p => (x :: y :: p.1, p.2))
  | 0, x, y, z, h => by rw [h]; rfl
  | n + 1, x, y, z, h => by
    show nums R s i ((n + 2) + 1) = _
    conv => lhs; unfold nums
    rw [nums_split (n := n) h]
    conv => rhs; unfold nums
    cases nums R s z n with
    | none => rfl
    | some p =>
      simp only [Option.map_some, Option.bind_some]
      split <;> simp

end Go.Proofs.YtfbnnhgaedficafDoor.Rd

namespace Go.Proofs.YtfbnnhgaedficafDoor.Rd
open Go.RowKit Go.Proofs.YtfbnnhgaedficafDoor.Mem Go.Proofs.YtfbnnhgaedficafDoor.Sec
set_option linter.unusedVariables false

theorem nums_split3 {R : ByteArray → Int × Nat} {s : ByteArray} {i : Nat} : ∀ {n : Nat} {x y f : Int} {z : Nat}, nums R s i 3 = some ([x, y, f], z) → nums R s i (n + 3) = (nums R s z n).map (fun p => (x :: y :: f :: p.1, p.2))
  | 0, x, y, f, z, h => by rw [h]; rfl
  | n + 1, x, y, f, z, h => by
    show nums R s i ((n + 3) + 1) = _
    conv => lhs; unfold nums
    rw [nums_split3 (n := n) h]
    conv => rhs; unfold nums
    cases nums R s z n with
    | none => rfl
    | some p =>
      simp only [Option.map_some, Option.bind_some]
      split <;> simp

/-- The flag: a number that is 0 or 1. -/
theorem flagOf (R : ByteArray → Int × Nat) (hR : Reads R) (s : ByteArray) (hs : s.size ≤ 1048576) (i : Nat) (w : World) (c : Nat) (h : Cur w c (rest s i)) (u : TypeId) (pv : Value) (hL : Lacks w u pv) (hc : 1 < c) :
    Calls Tryd.prog 90 #[.pointer (some ⟨c, 0, none⟩)] w fun e w' => ((R (rest s i)).2 ≠ 0 ∧ (R (rest s i)).1 ≤ 1 ∧ e = .returned (.bool (decide ((R (rest s i)).1 = 1))) ∧ Moved w w' c (rest s (i + (R (rest s i)).2))) ∨ (((R (rest s i)).2 = 0 ∨ 1 < (R (rest s i)).1) ∧ e = lack u pv ∧ Kept (fun b => b = c) w w') := by
  have HR := hid hR
  have HH := hid h
  have HL := hid hL
  clear hR h hL
  go_enter Tryd.func90, Tryd.ntmps90
  go_wp2_with fail
  refine (count R HR.out s hs i 1 w c HH.out u pv HL.out hc).mono ?_
  rintro e w1 (⟨hq, hle, rfl, M1⟩ | ⟨hq, rfl, k1⟩)
  · have HM := hid M1
    have HQ := hid hq
    have HX := hid hle
    clear M1 hq hle
    generalize hx : (R (rest s i)).1 = x
    have HE := hid hx
    clear hx
    go_wp2
    go_ret
    exact Or.inl ⟨HQ.out, by have := HX.out; have := HE.out; omega, by rw [HE.out]; rfl, HM.out⟩
  · have HQ := hid hq
    have HK := hid k1
    clear hq k1
    unfold lack
    go_wp2
    exact ⟨rfl, Or.inr ⟨HQ.out, rfl, HK.out⟩⟩

/-- No volume: a number lacks, or the flag is no flag. -/
def NoVol (R : ByteArray → Int × Nat) (s : ByteArray) (i : Nat) : Prop := nums R s i 7 = none ∨ ∃ x y f l z, nums R s i 7 = some (x :: y :: f :: l, z) ∧ 1 < f

theorem noVol_flag {R : ByteArray → Int × Nat} {s : ByteArray} {i : Nat} {x y : Int} {z : Nat} (h : nums R s i 2 = some ([x, y], z)) (hq : (R (rest s z)).2 = 0 ∨ 1 < (R (rest s z)).1) : NoVol R s i := by
  have h3 := nums_step h
  by_cases h0 : (R (rest s z)).2 = 0
  · rw [if_pos h0] at h3
    exact Or.inl (nums_none (k := 3) h3 4)
  · rw [if_neg h0] at h3
    have h7 := nums_split3 (n := 4) h3
    cases hn : nums R s (z + (R (rest s z)).2) 4 with
    | none => rw [hn] at h7; exact Or.inl h7
    | some p =>
      rw [hn] at h7
      exact Or.inr ⟨x, y, (R (rest s z)).1, p.1, p.2, h7, by rcases hq with q | q; exact absurd q h0; exact q⟩

end Go.Proofs.YtfbnnhgaedficafDoor.Rd

namespace Go.Proofs.YtfbnnhgaedficafDoor.Rd
open Go.RowKit Go.Proofs.YtfbnnhgaedficafDoor.Mem Go.Proofs.YtfbnnhgaedficafDoor.Sec
set_option linter.unusedVariables false

theorem ir_cells {w : World} {B : Nat} {v : Value} {l : List Int} (h : Ir w B v l) (h0 : 0 < l.length) : ∃ g off cap, v = .slice (some ⟨g, off, none⟩) l.length cap ∧ B ≤ g ∧ g < w.heap.size ∧ ∀ i x, l[i]? = some x → w.cell? ⟨g, off + i, none⟩ = some (.int .i64 x) := by
  obtain ⟨a, cap, rfl, hW⟩ := h.w
  obtain ⟨g, off, rfl, hB, c0, _⟩ := hW 0 h0
  refine ⟨g, off, cap, rfl, hB, World.block_lt_of_cell? w _ c0, fun i x hi => ?_⟩
  obtain ⟨hi8, hv⟩ := List.getElem?_eq_some_iff.1 hi
  obtain ⟨g1, off1, e1, _, c1, _⟩ := hW i hi8
  cases e1
  rw [c1, ← hv]
  simp [List.getD, List.getElem?_eq_getElem hi8]

theorem cell_kept {S : Nat → Prop} {w w' : World} {g o : Nat} {v : Value} (h : w.cell? ⟨g, o, none⟩ = some v) (k : Kept S w w') (hn : ¬ S g) : w'.cell? ⟨g, o, none⟩ = some v := by
  rw [cell_block (p := ⟨g, o, none⟩) (k.block g (World.block_lt_of_cell? w _ h) hn)]; exact h

/-- Of what can't be, anything. -/
theorem dead (f : FuncId) (args : Array Value) (w : World) (v : Value) (hf : False) : Calls Tryd.prog f args w fun e w' => e = .returned v ∧ w' = w := hf.elim

theorem cell_set {w : World} {g o b j : Nat} {v x : Value} (h : w.cell? ⟨g, o, none⟩ = some v) (hn : ¬ g = b) : (w.setCell ⟨b, j, none⟩ x).cell? ⟨g, o, none⟩ = some v := by
  rw [World.cell?_setCell_other _ _ _ _ (fun e => hn (by injection e; simp_all))]
  exact h

theorem cell_set5 {w : World} {g o b : Nat} {v x0 x1 x2 x3 x4 : Value} (h : w.cell? ⟨g, o, none⟩ = some v) (hn : ¬ g = b) : (((((w.setCell ⟨b, 0, none⟩ x0).setCell ⟨b, 1, none⟩ x1).setCell ⟨b, 2, none⟩ x2).setCell ⟨b, 3, none⟩ x3).setCell ⟨b, 4, none⟩ x4).cell? ⟨g, o, none⟩ = some v :=
  cell_set (cell_set (cell_set (cell_set (cell_set h hn) hn) hn) hn) hn

theorem kept_set5 (w : World) (b : Nat) (x0 x1 x2 x3 x4 : Value) : Kept (fun k => k = b) w (((((w.setCell ⟨b, 0, none⟩ x0).setCell ⟨b, 1, none⟩ x1).setCell ⟨b, 2, none⟩ x2).setCell ⟨b, 3, none⟩ x3).setCell ⟨b, 4, none⟩ x4) :=
  (((((kept_set _ _ _ _).trans (kept_set _ _ _ _)).trans (kept_set _ _ _ _)).trans (kept_set _ _ _ _)).trans (kept_set _ _ _ _)).mono (fun k _ h => by rcases h with (((h | h) | h) | h) | h <;> exact h)

set_option maxRecDepth 100000 in
set_option maxHeartbeats 2000000 in
theorem opParts (R : ByteArray → Int × Nat) (hR : Reads R) (s : ByteArray) (hs : s.size ≤ 1048576) (i : Nat) (w : World) (c : Nat) (h : Cur w c (rest s i)) (u : TypeId) (pv : Value) (hL : Lacks w u pv) (hc : 1 < c) :
    Calls Tryd.prog 91 #[.pointer (some ⟨c, 0, none⟩)] w fun e w' =>
      (∃ k v t a tx z z2, nums R s i 4 = some ([k, v, t, a], z) ∧ pieceAt R s z = some (tx, z2) ∧ e = .returned (opV k v t a tx) ∧ Moved w w' c (rest s z2)) ∨
      ((nums R s i 4 = none ∨ ∃ l z, nums R s i 4 = some (l, z) ∧ pieceAt R s z = none) ∧ e = lack u pv ∧ Kept (fun b => b = c) w w') := by
  have HR := hid hR
  have HH := hid h
  have HL := hid hL
  have hlt := h.lt
  clear hR h hL
  go_enter Tryd.func91, Tryd.ntmps91
  go_wp2_with fail
  obtain ⟨wl, hwl, ez, A0, B0⟩ := one_new w [.int .i64 0, .int .i64 0, .int .i64 0, .int .i64 0, .string ⟨#[]⟩] 38
  simp only [hwl]
  have HA := hid A0
  have HKl : Hid (Kept (fun b => b = c) w wl) := (Kept.of_below B0)
  have HLl := hid (HL.out.kept (Kept.of_below (S := fun _ => False) B0) (fun x => x))
  have HHl := hid (HH.out.below B0)
  clear hwl A0 B0
  refine (numbers R HR.out s hs i 4 (by decide) 0 (by decide) wl c HHl.out u pv HLl.out hc).mono ?_
  rintro e w1 ⟨hg, k1⟩
  have HA1 := hid (HA.out.kept k1 (by omega))
  have HL1 := hid (HLl.out.kept k1 (by omega))
  have HK1 : Hid (Kept (fun b => b = c) w w1) := (HKl.out.trans k1).mono (fun b _ x => by rcases x with x | x <;> exact x)
  have hs1 := k1.size
  clear k1 HA HLl
  cases hn : nums R s i 4 with
  | none =>
    rw [hn] at hg
    obtain rfl : e = lack u pv := hg
    have HN := hid hn
    clear hn
    unfold lack
    go_wp2
    exact ⟨rfl, Or.inr ⟨Or.inl HN.out, rfl, HK1.out⟩⟩
  | some p =>
    obtain ⟨l, z⟩ := p
    rw [hn] at hg
    obtain ⟨vv, rfl, hI, hC⟩ := hg
    rw [map_zero] at hI
    have hl := nums_len hn
    obtain ⟨g, off, cap, rfl, hgB, hgl, hcell⟩ := ir_cells hI (by omega)
    match l, hl with
    | [k, v, t, a], hl =>
    have c0 := hcell 0 k rfl
    have c1 := hcell 1 v rfl
    have c2 := hcell 2 t rfl
    have c3 := hcell 3 a rfl
    rw [Nat.add_zero] at c0
    have HN := hid hn
    have HC := hid hC
    have hgc : ¬ g = c := by omega
    clear hn hI hC hcell hl
    have e0 : w1.drew.cell? ⟨g, off, none⟩ = some (.int .i64 k) := c0
    have e1 : w1.drew.cell? ⟨g, off + 1, none⟩ = some (.int .i64 v) := c1
    have e2 : w1.drew.cell? ⟨g, off + 2, none⟩ = some (.int .i64 t) := c2
    have e3 : w1.drew.cell? ⟨g, off + 3, none⟩ = some (.int .i64 a) := c3
    have HE := hid (And.intro e0 (And.intro e1 (And.intro e2 e3)))
    clear e0 e1 e2 e3
    go_wp2_with fail
    have hP := piece R HR.out s hs z w1.drew c HC.out.drew u pv HL1.out.drew hc
    cases hp : pieceAt R s z with
    | none =>
      have hP' : Calls Tryd.prog 107 #[.pointer (some ⟨c, 0, none⟩)] w1.drew fun e w' => e = .panicked [{ v := .iface u pv, recovered := false }] ∧ Kept (fun b => b = c) w1.drew w' := hP.mono (fun e w' hh => by
        rcases hh with ⟨t, z, q, _⟩ | ⟨_, he, hk⟩
        · rw [hp] at q; cases q
        · exact ⟨he, hk⟩)
      have HQ := hid hP'
      have HNP : Hid (nums R s i 4 = none ∨ ∃ l z, nums R s i 4 = some (l, z) ∧ pieceAt R s z = none) := Or.inr ⟨_, z, HN.out, hp⟩
      have HKx : Hid (∀ w3, Kept (fun b => b = c) w1.drew w3 → Kept (fun b => b = c) w w3) := fun w3 k => (HK1.out.trans (kundrew k)).mono (fun b _ x => by rcases x with x | x <;> exact x)
      clear hP hP' hp HN
      have q0 := HA1.out.c 0 rfl
      have q1 := HA1.out.c 1 rfl
      have q2 := HA1.out.c 2 rfl
      have q3 := HA1.out.c 3 rfl
      have q4 := HA1.out.c 4 rfl
      have f0 := HA1.out.f 0
      have f1 := HA1.out.f 1
      have f2 := HA1.out.f 2
      have f3 := HA1.out.f 3
      have f4 := HA1.out.f 4
      go_region_held_law (fun w' => w'.cell? ⟨g, off, none⟩ = some (.int .i64 k) ∧ w'.cell? ⟨g, off + 1, none⟩ = some (.int .i64 v) ∧ w'.cell? ⟨g, off + 2, none⟩ = some (.int .i64 t) ∧ w'.cell? ⟨g, off + 3, none⟩ = some (.int .i64 a))
        (first | with_reducible exact HE.out | exact hf.out.elim)
        ((go_at_call 107; rcases Classical.em (Hid False) with hf | hnf; rotate_left; (refine HQ.out.mono ?_; rintro e w3 ⟨rfl, k3'⟩; exact ⟨rfl, Or.inr ⟨HNP.out, rfl, HKx.out w3 k3'⟩⟩); (refine (dead 107 #[.pointer (some ⟨c, 0, none⟩)] w1.drew (.string ⟨#[]⟩) hf.out).mono ?_; rintro e w3 ⟨rfl, rfl⟩)))
      all_goals exact hf.out.elim
    | some q =>
      obtain ⟨tx, z2⟩ := q
      have hP' : Calls Tryd.prog 107 #[.pointer (some ⟨c, 0, none⟩)] w1.drew fun e w' => e = .returned (.string tx) ∧ Moved w1.drew w' c (rest s z2) := hP.mono (fun e w' hh => by
        rcases hh with ⟨t, z', q, he, hm⟩ | ⟨q, _⟩
        · rw [hp] at q
          simp only [Option.some.injEq, Prod.mk.injEq] at q
          obtain ⟨rfl, rfl⟩ := q
          exact ⟨he, hm⟩
        · rw [hp] at q; cases q)
      have HQ := hid hP'
      have HP := hid hp
      clear hP hP' hp
      have hgA : ¬ g = w.heap.size := by omega
      have hs1' := HK1.out.size
      go_region_held_law (fun w' => w'.cell? ⟨g, off, none⟩ = some (.int .i64 k) ∧ w'.cell? ⟨g, off + 1, none⟩ = some (.int .i64 v) ∧ w'.cell? ⟨g, off + 2, none⟩ = some (.int .i64 t) ∧ w'.cell? ⟨g, off + 3, none⟩ = some (.int .i64 a))
        (first | with_reducible exact HE.out | with_reducible exact HD.out | with_reducible exact ⟨cell_set5 HD.out.1 hgA, cell_set5 HD.out.2.1 hgA, cell_set5 HD.out.2.2.1 hgA, cell_set5 HD.out.2.2.2 hgA⟩)
        ((go_at_call 107; refine HQ.out.mono ?_; rintro e w3 ⟨rfl, M3⟩; have k3 := kundrew M3.2; have HD := hid (And.intro (cell_kept c0 k3 hgc) (And.intro (cell_kept c1 k3 hgc) (And.intro (cell_kept c2 k3 hgc) (cell_kept c3 k3 hgc)))); have RB := HA1.out.kept k3 (by omega); have q0 := RB.c 0 rfl; have q1 := RB.c 1 rfl; have q2 := RB.c 2 rfl; have q3 := RB.c 3 rfl; have q4 := RB.c 4 rfl; have f0 := RB.f 0; have f1 := RB.f 1; have f2 := RB.f 2; have f3 := RB.f 3; have f4 := RB.f 4))
      have hcw : ¬ c = w.heap.size := by omega
      have HRw := hid (((((RB.set 0 (.int .i64 k)).set 1 (.int .i64 v)).set 2 (.int .i64 t)).set 3 (.int .i64 a)).set 4 (.string tx))
      have HM : Hid (Moved w (((((w3.setCell ⟨w.heap.size, 0, none⟩ (.int .i64 k)).setCell ⟨w.heap.size, 1, none⟩ (.int .i64 v)).setCell ⟨w.heap.size, 2, none⟩ (.int .i64 t)).setCell ⟨w.heap.size, 3, none⟩ (.int .i64 a)).setCell ⟨w.heap.size, 4, none⟩ (.string tx)) c (rest s z2)) :=
        ⟨cur_kept M3.1 (kept_set5 w3 w.heap.size _ _ _ _ _) hcw, ((HK1.out.trans k3).trans (kept_set5 w3 w.heap.size _ _ _ _ _)).mono (fun b hb x => by rcases x with (x | x) | x; exact x; exact x; omega)⟩
      clear M3 k3 HD RB q0 q1 q2 q3 q4 f0 f1 f2 f3 f4 c0 c1 c2 c3 HE HQ
      go_wp2
      refine bodyPost_ret (results_row rfl _ _ w.heap.size [.int .i64 k, .int .i64 v, .int .i64 t, .int .i64 a, .string tx] _ rfl HRw.out Tryd.underlying38 rfl (by kernel_rfl)) rfl ?_
      exact Or.inl ⟨k, v, t, a, tx, z, z2, HN.out, HP.out, rfl, HM.out⟩

/-- The parts of a journal's text: the numbers, the text, the outs. -/
def jnAt (R : ByteArray → Int × Nat) (s : ByteArray) : Option (List Int × ByteArray × List Ou) :=
  match nums R s 5 6 with
  | some (l, z) => match pieceAt R s z with
    | some (tx, z1) => match outsAll R s z1 with
      | some (o, _) => some (l, tx, o)
      | none => none
    | none => none
  | none => none

theorem nums_split2 {R : ByteArray → Int × Nat} {s : ByteArray} {i : Nat} : ∀ {n : Nat} {x y : Int} {z : Nat}, nums R s i 2 = some ([x, y], z) → nums R s i (n + 2) = (nums R s z n).map (fun p => (x :: y :: p.1, p.2))
  | 0, x, y, z, h => by rw [h]; rfl
  | n + 1, x, y, z, h => by
    show nums R s i ((n + 2) + 1) = _
    conv => lhs; unfold nums
    rw [nums_split2 (n := n) h]
    conv => rhs; unfold nums
    cases nums R s z n with
    | none => rfl
    | some p =>
      simp only [Option.map_some, Option.bind_some]
      split <;> simp

/-- No journal: a part lacks, or the flag is no flag. -/
def NoJn (R : ByteArray → Int × Nat) (s : ByteArray) : Prop := jnAt R s = none ∨ ∃ x f l z tx o, nums R s 5 6 = some (x :: f :: l, z) ∧ 1 < f ∧ jnAt R s = some (x :: f :: l, tx, o)

theorem jnAt_no1 {R : ByteArray → Int × Nat} {s : ByteArray} (h : nums R s 5 6 = none) : jnAt R s = none := by unfold jnAt; rw [h]
theorem jnAt_no2 {R : ByteArray → Int × Nat} {s : ByteArray} {l : List Int} {z : Nat} (h : nums R s 5 6 = some (l, z)) (h2 : pieceAt R s z = none) : jnAt R s = none := by unfold jnAt; rw [h]; simp only []; rw [h2]
theorem jnAt_no3 {R : ByteArray → Int × Nat} {s : ByteArray} {l : List Int} {z z1 : Nat} {tx : ByteArray} (h : nums R s 5 6 = some (l, z)) (h2 : pieceAt R s z = some (tx, z1)) (h3 : outsAll R s z1 = none) : jnAt R s = none := by unfold jnAt; rw [h]; simp only []; rw [h2]; simp only []; rw [h3]
theorem jnAt_yes {R : ByteArray → Int × Nat} {s : ByteArray} {l : List Int} {z z1 z2 : Nat} {tx : ByteArray} {o : List Ou} (h : nums R s 5 6 = some (l, z)) (h2 : pieceAt R s z = some (tx, z1)) (h3 : outsAll R s z1 = some (o, z2)) : jnAt R s = some (l, tx, o) := by unfold jnAt; rw [h]; simp only []; rw [h2]; simp only []; rw [h3]

theorem noJn_flag {R : ByteArray → Int × Nat} {s : ByteArray} {x : Int} {z : Nat} (h : nums R s 5 1 = some ([x], z)) (hq : (R (rest s z)).2 = 0 ∨ 1 < (R (rest s z)).1) : NoJn R s := by
  have h2 := nums_step h
  by_cases h0 : (R (rest s z)).2 = 0
  · rw [if_pos h0] at h2
    exact Or.inl (jnAt_no1 (nums_none (k := 2) h2 4))
  · rw [if_neg h0] at h2
    have h6 := nums_split2 (n := 4) h2
    have hf : 1 < (R (rest s z)).1 := by rcases hq with q | q; exact absurd q h0; exact q
    cases hn : nums R s (z + (R (rest s z)).2) 4 with
    | none => rw [hn] at h6; exact Or.inl (jnAt_no1 h6)
    | some p =>
      rw [hn] at h6
      have h6' : nums R s 5 6 = some (x :: (R (rest s z)).1 :: p.1, p.2) := h6
      cases hp : pieceAt R s p.2 with
      | none => exact Or.inl (jnAt_no2 h6' hp)
      | some q =>
        obtain ⟨tx, z1⟩ := q
        cases ho : outsAll R s z1 with
        | none => exact Or.inl (jnAt_no3 h6' hp ho)
        | some r =>
          obtain ⟨o, z2⟩ := r
          exact Or.inr ⟨x, _, p.1, p.2, tx, o, h6', hf, jnAt_yes h6' hp ho⟩

end Go.Proofs.YtfbnnhgaedficafDoor.Rd
