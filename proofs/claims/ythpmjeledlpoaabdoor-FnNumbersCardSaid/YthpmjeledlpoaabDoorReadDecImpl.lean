/-
  The walks of impl.ReadDec: it takes one to nine digits behind a minus or none, no nought ahead of others; else 0 and false. No condition.
-/
import Derived.Test.YthpmjeledlpoaabDoorCutWalks
import Derived.WalkMore
namespace Go.Proofs.YthpmjeledlpoaabDoor.Dec
open Go.RowKit
open Go.Proofs.YthpmjeledlpoaabDoor.Var (bl bl_length bl_getD bl_bd bl_inj bl_str)
open Go.Proofs.YthpmjeledlpoaabDoor.Hex (bt bt_eq bt_bd)
set_option linter.unusedVariables false

theorem pow9 (k : Nat) (h : k ≤ 9) : 10 ^ k ≤ 1000000000 := by
  have : k = 0 ∨ k = 1 ∨ k = 2 ∨ k = 3 ∨ k = 4 ∨ k = 5 ∨ k = 6 ∨ k = 7 ∨ k = 8 ∨ k = 9 := by omega
  rcases this with rfl | rfl | rfl | rfl | rfl | rfl | rfl | rfl | rfl | rfl <;> decide

theorem dv_small (d : ByteArray) (k : Nat) (h : k ≤ 9) (hd : ∀ j, j < k → 48 ≤ bt d j ∧ bt d j ≤ 57) : dv d k < 1000000000 := Nat.lt_of_lt_of_le (dv_lt d k hd) (pow9 k h)

set_option maxRecDepth 100000 in
set_option maxHeartbeats 1000000 in
/-- No digit, or more than nine. -/
theorem impl_len (s d : ByteArray) (b : Bool) (w : World) (hs : s.size ≤ maxLen) (hd : d.size ≤ s.size)
    (hcut : ∀ w : World, Calls Tryd.prog 20 #[.string s, .string { data := #[45] }] w fun e w' => e = .returned (.tuple #[.string d, .bool b]) ∧ w' = w)
    (hl : d.size = 0 ∨ 9 < d.size) :
    Calls Tryd.prog 11 #[.string s] w fun e w' => e = .returned (.tuple #[.int .i64 0, .bool false]) ∧ w' = w := by
  unfold maxLen at hs
  have Hcut : Hid _ := hcut
  clear hcut
  by_cases h0 : d.size = 0
  · have h0' : ((d.size : Int) == 0) = true := by simpa using h0
    clear hl h0
    go_enter Tryd.func11, Tryd.ntmps11
    go_wp2
    go_step3
    go_wp2_with (go_at_call 20; refine (Hcut.out _).mono ?_; rintro e w' ⟨rfl, hw⟩; obtain rfl : w = w' := hw.symm)
    rw [Exit.noGoto_ret]
    go_ret2
    exact ⟨rfl, rfl⟩
  · have h0' : ((d.size : Int) == 0) = false := by simpa using h0
    have h9 : (9 : Int) < (d.size : Int) := by omega
    clear hl h0
    go_enter Tryd.func11, Tryd.ntmps11
    go_wp2
    go_step3
    go_wp2_with (go_at_call 20; refine (Hcut.out _).mono ?_; rintro e w' ⟨rfl, hw⟩; obtain rfl : w = w' := hw.symm)
    rw [Exit.noGoto_ret]
    go_ret2
    exact ⟨rfl, rfl⟩

set_option maxRecDepth 100000 in
set_option maxHeartbeats 2000000 in
theorem impl_take (s d : ByteArray) (b : Bool) (h1 : 1 ≤ d.size) (h9 : d.size ≤ 9) (h3 : ∀ j, j < d.size → 48 ≤ bt d j ∧ bt d j ≤ 57) (h4 : ¬ (bt d 0 = 48 ∧ 1 < s.size)) (w : World) (hs : s.size ≤ maxLen) (hd : d.size ≤ s.size)
    (hcut : ∀ w : World, Calls Tryd.prog 20 #[.string s, .string { data := #[45] }] w fun e w' => e = .returned (.tuple #[.string d, .bool b]) ∧ w' = w) :
    Calls Tryd.prog 11 #[.string s] w fun e w' => e = .returned (.tuple #[.int .i64 (if b = true then - ((dv d d.size : Nat) : Int) else ((dv d d.size : Nat) : Int)), .bool true]) ∧ w' = w := by
  unfold maxLen at hs
  have Hcut : Hid _ := hcut
  clear hcut
  have Hdig : Hid (∀ j, j < d.size → 48 ≤ bt d j ∧ bt d j ≤ 57) := h3
  have Hfst : Hid (¬ (bt d 0 = 48 ∧ 1 < s.size)) := h4
  clear h3 h4
  have h0' : ((d.size : Int) == 0) = false := beq_eq_false_iff_ne.2 (by omega)
  have h9' : (d.size : Int) ≤ 9 := by omega
  go_enter Tryd.func11, Tryd.ntmps11
  go_wp2
  go_step3
  go_wp2_with (go_at_call 20; refine (Hcut.out _).mono ?_; rintro e w' ⟨rfl, hw⟩; obtain rfl : w = w' := hw.symm)
  go_step3
  go_wp2
  go_loop [6, 7, 25] (fun x r i => ∃ k : Nat, k ≤ d.size ∧ i = .int .i64 (k : Int) ∧ x = .int .i64 ((dv d k : Nat) : Int) ∧ r = .int .i64 (k : Int)) (fun _ _ i => 9 - (intOf i).toNat)
  case atStart => exact ⟨0, Nat.zero_le _, rfl, rfl, rfl⟩
  case round =>
    obtain ⟨k, hk, rfl, rfl, rfl⟩ := hrel
    by_cases hlt : k < d.size
    · have hks : k < d.size := by omega
      have e0 := bt_eq d k hks
      have hdg := Hdig.out k hlt
      have hv := dv_small d k (by omega) (fun j hj => Hdig.out j (by omega))
      have HS : Hid (((dv d (k + 1) : Nat) : Int) = 10 * ((dv d k : Nat) : Int) + (bt d k - 48)) := by show _ = _; rw [dv]; omega
      by_cases hk0 : k = 0
      · have t1 : ((k : Int) == 0) = true := by simpa using hk0
        by_cases h48 : bt d k = 48
        · have t2 : (bt d k == 48) = true := by simpa using h48
          have t3 : (s.size : Int) ≤ 1 := by
            have := Hfst.out
            rw [hk0] at h48
            by_cases hh : 1 < s.size
            · exact absurd ⟨h48, hh⟩ this
            · omega
          clear hk0 h48
          go_wp2
          go_round
          case rel => exact ⟨k + 1, by omega, by go_num, by rw [HS.out], by go_num⟩
          case measure => simp [intOf]; omega
        · have t2 : (bt d k == 48) = false := by simpa using h48
          clear hk0 h48
          go_wp2
          go_round
          case rel => exact ⟨k + 1, by omega, by go_num, by rw [HS.out], by go_num⟩
          case measure => simp [intOf]; omega
      · have t1 : ((k : Int) == 0) = false := by simpa using hk0
        clear hk0
        go_wp2
        go_round
        case rel => exact ⟨k + 1, by omega, by go_num, by rw [HS.out], by go_num⟩
        case measure => simp [intOf]; omega

    · obtain rfl : k = d.size := by omega
      have hv := dv_small d d.size h9 Hdig.out
      cases b
      · go_wp2
        try rw [Exit.noGoto_ret]
        go_ret2
        exact ⟨rfl, rfl⟩
      · go_wp2
        try rw [Exit.noGoto_ret]
        go_ret2
        exact ⟨rfl, rfl⟩

set_option maxRecDepth 100000 in
set_option maxHeartbeats 2000000 in
theorem impl_bad (s d : ByteArray) (b : Bool) (m : Nat) (h9 : d.size ≤ 9) (hm : m < d.size) (h3 : ∀ j, j < m → 48 ≤ bt d j ∧ bt d j ≤ 57) (h4 : 0 < m → ¬ (bt d 0 = 48 ∧ 1 < s.size)) (h5 : bt d m < 48 ∨ 57 < bt d m ∨ (m = 0 ∧ bt d m = 48 ∧ 1 < s.size)) (w : World) (hs : s.size ≤ maxLen) (hd : d.size ≤ s.size)
    (hcut : ∀ w : World, Calls Tryd.prog 20 #[.string s, .string { data := #[45] }] w fun e w' => e = .returned (.tuple #[.string d, .bool b]) ∧ w' = w) :
    Calls Tryd.prog 11 #[.string s] w fun e w' => e = .returned (.tuple #[.int .i64 0, .bool false]) ∧ w' = w := by
  unfold maxLen at hs
  have Hcut : Hid _ := hcut
  clear hcut
  have Hdig : Hid (∀ j, j < m → 48 ≤ bt d j ∧ bt d j ≤ 57) := h3
  have Hfst : Hid (0 < m → ¬ (bt d 0 = 48 ∧ 1 < s.size)) := h4
  have Hbad : Hid (bt d m < 48 ∨ 57 < bt d m ∨ (m = 0 ∧ bt d m = 48 ∧ 1 < s.size)) := h5
  clear h3 h4 h5
  have h0' : ((d.size : Int) == 0) = false := beq_eq_false_iff_ne.2 (by omega)
  have h9' : (d.size : Int) ≤ 9 := by omega
  go_enter Tryd.func11, Tryd.ntmps11
  go_wp2
  go_step3
  go_wp2_with (go_at_call 20; refine (Hcut.out _).mono ?_; rintro e w' ⟨rfl, hw⟩; obtain rfl : w = w' := hw.symm)
  go_step3
  go_wp2
  go_loop [6, 7, 25] (fun x r i => ∃ k : Nat, k ≤ m ∧ i = .int .i64 (k : Int) ∧ x = .int .i64 ((dv d k : Nat) : Int) ∧ r = .int .i64 (k : Int)) (fun _ _ i => 9 - (intOf i).toNat)
  case atStart => exact ⟨0, Nat.zero_le _, rfl, rfl, rfl⟩
  case round =>
    obtain ⟨k, hk, rfl, rfl, rfl⟩ := hrel
    by_cases hlt : k < m
    · have hks : k < d.size := by omega
      have e0 := bt_eq d k hks
      have hdg := Hdig.out k hlt
      have hv := dv_small d k (by omega) (fun j hj => Hdig.out j (by omega))
      have HS : Hid (((dv d (k + 1) : Nat) : Int) = 10 * ((dv d k : Nat) : Int) + (bt d k - 48)) := by show _ = _; rw [dv]; omega
      by_cases hk0 : k = 0
      · have t1 : ((k : Int) == 0) = true := by simpa using hk0
        by_cases h48 : bt d k = 48
        · have t2 : (bt d k == 48) = true := by simpa using h48
          have t3 : (s.size : Int) ≤ 1 := by
            have := Hfst.out
            rw [hk0] at h48
            by_cases hh : 1 < s.size
            · exact absurd ⟨h48, hh⟩ (this (by omega))
            · omega
          omega
        · have t2 : (bt d k == 48) = false := by simpa using h48
          clear hk0 h48
          go_wp2
          go_round
          case rel => exact ⟨k + 1, by omega, by go_num, by rw [HS.out], by go_num⟩
          case measure => simp [intOf]; omega
      · have t1 : ((k : Int) == 0) = false := by simpa using hk0
        clear hk0
        go_wp2
        go_round
        case rel => exact ⟨k + 1, by omega, by go_num, by rw [HS.out], by go_num⟩
        case measure => simp [intOf]; omega

    · obtain rfl : k = m := by omega
      have hks : k < d.size := by omega
      have e0 := bt_eq d k hks
      have h5 := Hbad.out
      by_cases hlo : bt d k < 48
      · clear h5
        go_wp2
        try rw [Exit.noGoto_ret]
        go_ret2
        exact ⟨rfl, rfl⟩
      · by_cases hhi : 57 < bt d k
        · clear h5
          go_wp2
          try rw [Exit.noGoto_ret]
          go_ret2
          exact ⟨rfl, rfl⟩
        · have t1 : ((k : Int) == 0) = true := by simp; omega
          have t2 : (bt d k == 48) = true := by simp; omega
          have t3 : (1 : Int) < (s.size : Int) := by omega
          clear h5
          go_wp2
          try rw [Exit.noGoto_ret]
          go_ret2
          exact ⟨rfl, rfl⟩

end Go.Proofs.YthpmjeledlpoaabDoor.Dec
