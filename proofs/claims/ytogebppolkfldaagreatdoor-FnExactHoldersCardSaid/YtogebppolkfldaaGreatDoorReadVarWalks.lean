/-
  The walks of impl.ReadVar in its three ways: a number is read; a byte that is not needed ends it; no byte below 128 among the first seven. No condition.
-/
import Derived.Test.YtogebppolkfldaaGreatDoorVarWalks
import Derived.Test.YtogebppolkfldaaGreatDoorRvNum
import Derived.WalkMore
namespace Go.Proofs.YtogebppolkfldaaGreatDoor.Var
open Go.RowKit
set_option linter.unusedVariables false

/-- The walk's facts of byte k. -/
theorem byte_at (s : ByteArray) (k : Nat) (h : k < s.size) : (0 : Int) ≤ (s[k].toNat : Int) ∧ (s[k].toNat : Int) ≤ 255 := by have := s[k].toNat_lt; omega

set_option maxRecDepth 100000 in
set_option maxHeartbeats 1000000 in
theorem impl_read (s : ByteArray) (m : Nat) (w : World) (hs : s.size ≤ maxLen) (hm : m < s.size) (h7 : m < 7) (h1 : ∀ j, j < m → 128 ≤ (bl s).getD j 0) (h2 : (bl s).getD m 0 < 128) (h3 : m = 0 ∨ (bl s).getD m 0 ≠ 0) :
    Calls Tryz.prog 175 #[.string s] w fun e w' => e = .returned (.tuple #[.int .i64 (val ((bl s).take (m + 1))), .int .i64 ((m : Int) + 1)]) ∧ w' = w := by
  unfold maxLen at hs
  have H1 : Hid (∀ j, j < m → 128 ≤ (bl s).getD j 0) := h1
  have H2 : Hid ((bl s).getD m 0 < 128) := h2
  have H3 : Hid (m = 0 ∨ (bl s).getD m 0 ≠ 0) := h3
  clear h1 h2 h3
  by_cases hc : (7 : Int) < (s.size : Int)
  all_goals
    go_enter Tryz.func175, Tryz.ntmps175
    go_wp2
    go_step3
    go_wp2
    go_step3
    go_wp2
    go_loop [4, 10] (fun x i => ∃ k : Nat, k ≤ m ∧ i = .int .i64 k ∧ x = .int .i64 (val ((bl s).take k))) (fun _ i => 7 - (intOf i).toNat)
    case atStart => exact ⟨0, Nat.zero_le _, rfl, rfl⟩
    case round =>
      obtain ⟨k, hk, rfl, rfl⟩ := hrel
      have hks : k < s.size := by omega
      have hb := byte_at s k hks
      have hp := pow7 k
      have HS : Hid (RowKit.wrap64 (val ((bl s).take k) + RowKit.wrap64 ((s[k].toNat : Int) % 128 * 128 ^ k)) = val ((bl s).take (k + 1))) := step_eq s k hks (by omega)
      by_cases hkm : k < m
      · have h128 : (128 : Int) ≤ (s[k].toNat : Int) := by rw [← bl_getD s k hks]; exact H1.out k hkm
        go_wp2
        go_round
        case rel => exact ⟨k + 1, by omega, by go_num, by rw [HS.out]⟩
        case measure => simp [intOf]; omega
      · obtain rfl : k = m := by omega
        have h128 : (s[k].toNat : Int) < 128 := by rw [← bl_getD s k hks]; exact H2.out
        have h0 := H3.out
        rw [bl_getD s k hks] at h0
        by_cases hz : (s[k].toNat : Int) = 0
        · have hk0 : (k : Int) ≤ 0 := by omega
          have hne : ((s[k].toNat : Int) == 0) = true := by simpa using hz
          have Hk : Hid (k = 0) := by show k = 0; omega
          clear h0 hz
          go_wp2
          go_ret2
          exact ⟨by rw [HS.out]; rfl, rfl⟩
        · have hne : ((s[k].toNat : Int) == 0) = false := by simpa using hz
          clear h0 hz
          go_wp2
          go_ret2
          exact ⟨by rw [HS.out]; rfl, rfl⟩

set_option maxRecDepth 100000 in
set_option maxHeartbeats 1000000 in
theorem impl_cut (s : ByteArray) (m : Nat) (w : World) (hs : s.size ≤ maxLen) (hm : m < s.size) (h7 : m < 7) (h1 : ∀ j, j < m → 128 ≤ (bl s).getD j 0) (h2 : (bl s).getD m 0 = 0) (h3 : m ≠ 0) :
    Calls Tryz.prog 175 #[.string s] w fun e w' => e = .returned (.tuple #[.int .i64 0, .int .i64 0]) ∧ w' = w := by
  unfold maxLen at hs
  have H1 : Hid (∀ j, j < m → 128 ≤ (bl s).getD j 0) := h1
  have H2 : Hid ((bl s).getD m 0 = 0) := h2
  clear h1 h2
  by_cases hc : (7 : Int) < (s.size : Int)
  all_goals
    go_enter Tryz.func175, Tryz.ntmps175
    go_wp2
    go_step3
    go_wp2
    go_step3
    go_wp2
    go_loop [4, 10] (fun x i => ∃ k : Nat, k ≤ m ∧ i = .int .i64 k ∧ x = .int .i64 (val ((bl s).take k))) (fun _ i => 7 - (intOf i).toNat)
    case atStart => exact ⟨0, Nat.zero_le _, rfl, rfl⟩
    case round =>
      obtain ⟨k, hk, rfl, rfl⟩ := hrel
      have hks : k < s.size := by omega
      have hb := byte_at s k hks
      have hp := pow7 k
      have HS : Hid (RowKit.wrap64 (val ((bl s).take k) + RowKit.wrap64 ((s[k].toNat : Int) % 128 * 128 ^ k)) = val ((bl s).take (k + 1))) := step_eq s k hks (by omega)
      by_cases hkm : k < m
      · have h128 : (128 : Int) ≤ (s[k].toNat : Int) := by rw [← bl_getD s k hks]; exact H1.out k hkm
        go_wp2
        go_round
        case rel => exact ⟨k + 1, by omega, by go_num, by rw [HS.out]⟩
        case measure => simp [intOf]; omega
      · obtain rfl : k = m := by omega
        have h128 : ((s[k].toNat : Int) == 0) = true := by rw [← bl_getD s k hks]; simpa using H2.out
        have hlt : (s[k].toNat : Int) < 128 := by have := beq_iff_eq.1 h128; omega
        have hz : (0 : Int) < (k : Int) := by omega
        go_wp2
        go_ret2
        exact ⟨rfl, rfl⟩

set_option maxRecDepth 100000 in
set_option maxHeartbeats 1000000 in
theorem impl_none (s : ByteArray) (w : World) (hs : s.size ≤ maxLen) (h1 : ∀ j, j < s.size → j < 7 → 128 ≤ (bl s).getD j 0) :
    Calls Tryz.prog 175 #[.string s] w fun e w' => e = .returned (.tuple #[.int .i64 0, .int .i64 0]) ∧ w' = w := by
  unfold maxLen at hs
  have H1 : Hid (∀ j, j < s.size → j < 7 → 128 ≤ (bl s).getD j 0) := h1
  clear h1
  by_cases hc : (7 : Int) < (s.size : Int)
  all_goals
    go_enter Tryz.func175, Tryz.ntmps175
    go_wp2
    go_step3
    go_wp2
    go_step3
    go_wp2
    go_loop [4, 10] (fun x i => ∃ k : Nat, k ≤ 7 ∧ k ≤ s.size ∧ i = .int .i64 k ∧ x = .int .i64 (val ((bl s).take k))) (fun _ i => 7 - (intOf i).toNat)
    case atStart => exact ⟨0, Nat.zero_le _, Nat.zero_le _, rfl, rfl⟩
    case round =>
      obtain ⟨k, hk7, hk, rfl, rfl⟩ := hrel
      by_cases hkm : k < s.size ∧ k < 7
      · obtain ⟨hks, hk7'⟩ := hkm
        have hb := byte_at s k hks
        have hp := pow7 k
        have HS : Hid (RowKit.wrap64 (val ((bl s).take k) + RowKit.wrap64 ((s[k].toNat : Int) % 128 * 128 ^ k)) = val ((bl s).take (k + 1))) := step_eq s k hks (by omega)
        have h128 : (128 : Int) ≤ (s[k].toNat : Int) := by rw [← bl_getD s k hks]; exact H1.out k hks hk7'
        go_wp2
        go_round
        case rel => exact ⟨k + 1, by omega, by omega, by go_num, by rw [HS.out]⟩
        case measure => simp [intOf]; omega
      · first
          | (have hk' : (7 : Int) ≤ (k : Int) := by omega)
          | (have hk' : (s.size : Int) ≤ (k : Int) := by omega)
        clear hkm
        go_wp2
        try rw [Exit.noGoto_ret]
        go_ret2
        exact ⟨rfl, rfl⟩

end Go.Proofs.YtogebppolkfldaaGreatDoor.Var
