/-
  The walks of small parts of chapter 4: bounds, leases, Vars, sums, on both sides. Condition for impl's sum: the table of sixteen sums holds what the program's text lays.
-/
import Derived.Test.YtogebppolkfldaaGreatDoorSecNum
import Derived.Test.YtogebppolkfldaaGreatDoorVarWalks
import Derived.Test.YtogebppolkfldaaGreatDoorFixedLaw
import Derived.Test.YtogebppolkfldaaGreatDoorCrcImpl
import Derived.Test.YtogebppolkfldaaGreatDoorQuietB
import Derived.Test.YtogebppolkfldaaGreatDoorSectorWalks
namespace Go.Proofs.YtogebppolkfldaaGreatDoor.Sec
open Go.RowKit Go.Proofs.YtogebppolkfldaaGreatDoor.Mem
set_option linter.unusedVariables false

theorem l1In (x lo hi : Int) (w : World) :
    Calls Tryz.prog 42 #[.int .i64 x, .int .i64 lo, .int .i64 hi] w fun e w' => e = .returned (.bool (decide (lo ≤ x ∧ x ≤ hi))) ∧ w' = w := Sector.l1In x lo hi w

set_option maxHeartbeats 400000 in
theorem isFrom (x lo hi : Int) (w : World) :
    Calls Tryz.prog 93 #[.int .i64 x, .int .i64 lo, .int .i64 hi] w fun e w' => e = .returned (.bool (decide (lo ≤ x ∧ x ≤ hi))) ∧ w' = w := by
  by_cases h1 : lo ≤ x
  · by_cases h2 : x ≤ hi
    · rw [decide_eq_true (And.intro h1 h2)]
      go_enter Tryz.func93, Tryz.ntmps93
      go_wp2
      go_ret
      exact ⟨rfl, rfl⟩
    · rw [decide_eq_false (fun h => h2 h.2)]
      go_enter Tryz.func93, Tryz.ntmps93
      go_wp2
      go_ret
      exact ⟨rfl, rfl⟩
  · rw [decide_eq_false (fun h => h1 h.1)]
    go_enter Tryz.func93, Tryz.ntmps93
    go_wp2
    go_ret
    exact ⟨rfl, rfl⟩

set_option maxHeartbeats 400000 in
theorem l3Host (x : Int) (w : World) :
    Calls Tryz.prog 43 #[.int .i64 x] w fun e w' => e = .returned (.bool (decide (0 ≤ x ∧ x < 3))) ∧ w' = w := by
  by_cases h1 : 0 ≤ x
  · by_cases h2 : x < 3
    · rw [decide_eq_true (And.intro h1 h2)]
      go_enter Tryz.func43, Tryz.ntmps43
      go_wp2
      go_ret
      exact ⟨rfl, rfl⟩
    · rw [decide_eq_false (fun h => h2 h.2)]
      go_enter Tryz.func43, Tryz.ntmps43
      go_wp2
      go_ret
      exact ⟨rfl, rfl⟩
  · rw [decide_eq_false (fun h => h1 h.1)]
    go_enter Tryz.func43, Tryz.ntmps43
    go_wp2
    go_ret
    exact ⟨rfl, rfl⟩

set_option maxHeartbeats 400000 in
theorem isHost (x : Int) (w : World) :
    Calls Tryz.prog 89 #[.int .i64 x] w fun e w' => e = .returned (.bool (decide (0 ≤ x ∧ x < 3))) ∧ w' = w := by
  by_cases h1 : 0 ≤ x
  · by_cases h2 : x < 3
    · rw [decide_eq_true (And.intro h1 h2)]
      go_enter Tryz.func89, Tryz.ntmps89
      go_wp2
      go_ret
      exact ⟨rfl, rfl⟩
    · rw [decide_eq_false (fun h => h2 h.2)]
      go_enter Tryz.func89, Tryz.ntmps89
      go_wp2
      go_ret
      exact ⟨rfl, rfl⟩
  · rw [decide_eq_false (fun h => h1 h.1)]
    go_enter Tryz.func89, Tryz.ntmps89
    go_wp2
    go_ret
    exact ⟨rfl, rfl⟩

/-- Var, on both sides. -/
theorem sVar (n : Int) (w : World) : Calls Tryz.prog 82 #[.int .i64 n] w fun e w' => e = .returned (.string (vr n)) ∧ Below w.heap.size w w' := by
  unfold vr
  by_cases h : 0 ≤ n ∧ n ≤ 562949953421311
  · rw [if_pos h]; exact Var.spec_yes n w h.1 h.2
  · rw [if_neg h]; exact Var.spec_no n w (by omega)
theorem iVar (n : Int) (w : World) : Calls Tryz.prog 159 #[.int .i64 n] w fun e w' => e = .returned (.string (vr n)) ∧ Below w.heap.size w w' := by
  unfold vr
  by_cases h : 0 ≤ n ∧ n ≤ 562949953421311
  · rw [if_pos h]; exact Var.impl_yes n w h.1 h.2
  · rw [if_neg h]; exact Var.impl_no n w (by omega)

theorem fixed_crc (s : ByteArray) : Fix.fixed (crc s) 4 = Fix.fxS (crc s) 4 := by
  have h := crc_bd s
  unfold Fix.fixed
  rw [if_neg]
  have : (256 : Int) ^ 4 = 4294967296 := by decide
  rw [this]; omega

set_option maxHeartbeats 400000 in
theorem l4Sum (s : ByteArray) (w : World) (hs : s.size ≤ 1048576) :
    Calls Tryz.prog 83 #[.string s] w fun e w' => e = .returned (.string (summed s)) ∧ Below w.heap.size w w' := by
  have hb := crc_bd s
  have HF := hid (fixed_crc s)
  have hz := Fix.fxS_size (crc s) 4
  have HD : Hid (Fix.fxS (crc s) 4 ++ s = summed s) := rfl
  go_enter Tryz.func83, Tryz.ntmps83
  go_wp2_with fail
  refine (Crc.spec_crc s w (by unfold maxLen; omega)).mono ?_
  rintro e w1 ⟨rfl, hw⟩
  subst hw
  rw [show ((4294967295 - Crc.sumAt s s.size : Nat) : Int) = crc s from rfl]
  generalize crc s = c at *
  go_wp2_with fail
  refine (Fix.spec_yes c 4 _ (by decide) (by decide) hb.1 (by omega)).mono ?_
  rintro e w2 ⟨rfl, hb2⟩
  rw [HF.out]
  have HB := hid hb2
  clear hb2
  go_wp2
  go_ret
  exact ⟨Own.ret_str HD.out, HB.out⟩

set_option maxHeartbeats 400000 in
theorem withSum (s : ByteArray) (w : World) (hs : s.size ≤ 1048576) (T : Crc.Tab w) (hg : 2 < w.heap.size) :
    Calls Tryz.prog 130 #[.string s] w fun e w' => e = .returned (.string (summed s)) ∧ Below w.heap.size w w' := by
  have hb := crc_bd s
  have HF := hid (fixed_crc s)
  have hz := Fix.fxS_size (crc s) 4
  have HD : Hid (Fix.fxS (crc s) 4 ++ s = summed s) := rfl
  have HT := hid T
  have HG := hid hg
  clear T hg
  go_enter Tryz.func130, Tryz.ntmps130
  go_wp2_with fail
  refine (Crc.impl_crc s w (by unfold maxLen; omega) HT.out HG.out).mono ?_
  rintro e w1 ⟨rfl, hb1⟩
  have HB1 := hid hb1
  clear hb1
  rw [show ((4294967295 - Crc.sumAt s s.size : Nat) : Int) = crc s from rfl]
  generalize crc s = c at *
  go_wp2_with fail
  refine (Fix.impl_yes c 4 _ (by decide) (by decide) hb.1 (by omega)).mono ?_
  rintro e w2 ⟨rfl, hb2⟩
  rw [HF.out]
  have HB := hid (HB1.out.trans (hb2.mono HB1.out.size))
  clear hb2
  go_wp2
  go_ret
  exact ⟨Own.ret_str HD.out, HB.out⟩

/-- A lease's value. -/
def lsV (h e : Int) : Value := .agg #[.int .i64 h, .int .i64 e]

set_option maxHeartbeats 400000 in
theorem l4Nobody (w : World) : Calls Tryz.prog 141 #[] w fun e w' => e = .returned (lsV (-1) 0) ∧ Below w.heap.size w w' := by
  unfold lsV
  go_enter Tryz.func141, Tryz.ntmps141
  go_wp2
  go_returns
  exact ⟨rfl, by go_grown⟩

set_option maxHeartbeats 400000 in
theorem nobody (w : World) : Calls Tryz.prog 176 #[] w fun e w' => e = .returned (lsV (-1) 0) ∧ Below w.heap.size w w' := by
  unfold lsV
  go_enter Tryz.func176, Tryz.ntmps176
  go_wp2
  go_returns
  exact ⟨rfl, by go_grown⟩

end Go.Proofs.YtogebppolkfldaaGreatDoor.Sec
