/-
  The walk of spec.ReadVar: it gives the first beginning of at most seven bytes that is what Var makes of what it says, or 0 and 0. No condition.
-/
import Derived.Test.YtogebppolkfldaaGreatDoorReadVarWalks
import Derived.Deep.RegionWith
namespace Go.Proofs.YtogebppolkfldaaGreatDoor.Var
open Go.RowKit
set_option linter.unusedVariables false

theorem drop_step (s : ByteArray) (k j : Nat) (hk : k ≤ s.size) (hj : j < k) (h : j < s.size) : val (((bl s).take k).drop (j + 1)) * 128 + (s[j].toNat : Int) % 128 = val (((bl s).take k).drop j) := by
  rw [val_drop s k j hk hj]; omega

set_option maxRecDepth 100000 in
set_option maxHeartbeats 1000000 in
theorem spec_hit (s : ByteArray) (m : Nat) (w : World) (hs : s.size ≤ maxLen) (hm : m < s.size) (h7 : m < 7) (h1 : hit s (m + 1)) (h2 : ∀ k, 1 ≤ k → k ≤ m → ¬ hit s k) :
    Calls Tryz.prog 78 #[.string s] w fun e w' => e = .returned (.tuple #[.int .i64 (val ((bl s).take (m + 1))), .int .i64 ((m : Int) + 1)]) ∧ Below w.heap.size w w' := by
  unfold maxLen at hs
  have H1 : Hid (hit s (m + 1)) := h1
  have H2 : Hid (∀ k, 1 ≤ k → k ≤ m → ¬ hit s k) := h2
  clear h1 h2
  go_enter Tryz.func78, Tryz.ntmps78
  go_wp2
  go_loopw [4] (fun i wr => ∃ k : Nat, k ≤ m ∧ i = .int .i64 ((k : Int) + 1) ∧ Below w.heap.size w wr) (fun i _ => 8 - (intOf i).toNat)
  case atStart => exact ⟨0, Nat.zero_le _, rfl, Below.refl _ _⟩
  case round =>
    obtain ⟨k, hk, rfl, hbel⟩ := hrel
    have hks : k + 1 ≤ s.size := by omega
    obtain ⟨wo, rfl⟩ : ∃ wo : World, wo = wr := ⟨_, rfl⟩
    go_wp2
    go_loop [5, 6] (fun x i => ∃ j : Nat, j ≤ k + 1 ∧ i = .int .i64 ((j : Int) - 1) ∧ x = .int .i64 (val (((bl s).take (k + 1)).drop j))) (fun _ i => (intOf i + 1).toNat)
    case atStart => exact ⟨k + 1, Nat.le_refl _, by go_num, by rw [List.drop_eq_nil_of_le (len_take s (k + 1))]; rfl⟩
    case round =>
      obtain ⟨j, hj, rfl, rfl⟩ := hrel
      by_cases hj0 : j = 0
      · subst hj0
        rw [show ((0 : Nat) : Int) - 1 = -1 from rfl, List.drop_zero]
        have hv := val_le _ (Nat.le_trans (len_take s (k + 1)) (by omega))
        generalize hN : val ((bl s).take (k + 1)) = N at *
        have HN : Hid (val ((bl s).take (k + 1)) = N) := hN
        clear hN
        by_cases hkm : k < m
        · have ht : ((varS N).toList == (s.extract 0 (k + 1)).toList) = false := Own.eqS_no (fun e => H2.out (k + 1) (by omega) (by omega) (by unfold hit; rw [HN.out]; exact e))
          go_wp2
          go_region_with (go_at_call 82; refine (spec_yes N _ hv.1 hv.2).mono ?_; rintro e w1 ⟨rfl, hb1⟩)
          all_goals
            have hb2 : Below w.heap.size w w1 := hbel.drew.trans (hb1.mono hbel.size)
            clear hb1
            go_wp2
            go_roundw
            case rel => exact ⟨k + 1, by omega, by go_num, hb2⟩
            case measure => simp [intOf]; omega
        · obtain rfl : k = m := by omega
          have ht : ((varS N).toList == (s.extract 0 (k + 1)).toList) = true := Own.eqS_yes (by have := H1.out; unfold hit at this; rw [HN.out] at this; exact this)
          go_wp2
          go_region_with (go_at_call 82; refine (spec_yes N _ hv.1 hv.2).mono ?_; rintro e w1 ⟨rfl, hb1⟩)
          all_goals
            have hb2 : Below w.heap.size w w1 := hbel.drew.trans (hb1.mono hbel.size)
            clear hb1
            go_wp2
            go_ret2
            exact ⟨by rw [HN.out]; rfl, hb2⟩
      · obtain ⟨i, rfl⟩ : ∃ i, j = i + 1 := ⟨j - 1, by omega⟩
        rw [show ((i + 1 : Nat) : Int) - 1 = (i : Int) from by omega]
        have his : i < s.size := by omega
        have hb := byte_at s i his
        have hv := val_le6 _ (Nat.le_trans (len_drop s (k + 1) (i + 1)) (by omega))
        have HS : Hid (val (((bl s).take (k + 1)).drop (i + 1)) * 128 + (s[i].toNat : Int) % 128 = val (((bl s).take (k + 1)).drop i)) := drop_step s (k + 1) i hks (by omega) his
        go_wp2
        go_round
        case rel => exact ⟨i, by omega, rfl, by rw [HS.out]⟩
        case measure => simp [intOf]

set_option maxRecDepth 100000 in
set_option maxHeartbeats 1000000 in
theorem spec_none (s : ByteArray) (w : World) (hs : s.size ≤ maxLen) (h2 : ∀ k, 1 ≤ k → k ≤ 7 → k ≤ s.size → ¬ hit s k) :
    Calls Tryz.prog 78 #[.string s] w fun e w' => e = .returned (.tuple #[.int .i64 0, .int .i64 0]) ∧ Below w.heap.size w w' := by
  unfold maxLen at hs
  have H2 : Hid (∀ k, 1 ≤ k → k ≤ 7 → k ≤ s.size → ¬ hit s k) := h2
  clear h2
  go_enter Tryz.func78, Tryz.ntmps78
  go_wp2
  go_loopw [4] (fun i wr => ∃ k : Nat, k ≤ 7 ∧ k ≤ s.size ∧ i = .int .i64 ((k : Int) + 1) ∧ Below w.heap.size w wr) (fun i _ => 8 - (intOf i).toNat)
  case atStart => exact ⟨0, Nat.zero_le _, Nat.zero_le _, rfl, Below.refl _ _⟩
  case round =>
    obtain ⟨k, hk7, hk, rfl, hbel⟩ := hrel
    by_cases hin : ¬ (k + 1 ≤ 7 ∧ k + 1 ≤ s.size)
    · by_cases hk6 : (k : Int) + 1 ≤ 7
      · have hk8 : (s.size : Int) < (k : Int) + 1 := by omega
        clear hin
        go_wp2
        go_ret2
        exact ⟨rfl, hbel⟩
      · have hk8 : (7 : Int) < (k : Int) + 1 := by omega
        clear hin
        go_wp2
        go_ret2
        exact ⟨rfl, hbel⟩
    have hk6 : k + 1 ≤ 7 := by omega
    have hks : k + 1 ≤ s.size := by omega
    clear hin
    obtain ⟨wo, rfl⟩ : ∃ wo : World, wo = wr := ⟨_, rfl⟩
    go_wp2
    go_loop [5, 6] (fun x i => ∃ j : Nat, j ≤ k + 1 ∧ i = .int .i64 ((j : Int) - 1) ∧ x = .int .i64 (val (((bl s).take (k + 1)).drop j))) (fun _ i => (intOf i + 1).toNat)
    case atStart => exact ⟨k + 1, Nat.le_refl _, by go_num, by rw [List.drop_eq_nil_of_le (len_take s (k + 1))]; rfl⟩
    case round =>
      obtain ⟨j, hj, rfl, rfl⟩ := hrel
      by_cases hj0 : j = 0
      · subst hj0
        rw [show ((0 : Nat) : Int) - 1 = -1 from rfl, List.drop_zero]
        have hv := val_le _ (Nat.le_trans (len_take s (k + 1)) (by omega))
        generalize hN : val ((bl s).take (k + 1)) = N at *
        have HN : Hid (val ((bl s).take (k + 1)) = N) := hN
        clear hN
        have ht : ((varS N).toList == (s.extract 0 (k + 1)).toList) = false := Own.eqS_no (fun e => H2.out (k + 1) (by omega) (by omega) (by omega) (by unfold hit; rw [HN.out]; exact e))
        go_wp2
        go_region_with (go_at_call 82; refine (spec_yes N _ hv.1 hv.2).mono ?_; rintro e w1 ⟨rfl, hb1⟩)
        all_goals
          have hb2 : Below w.heap.size w w1 := hbel.drew.trans (hb1.mono hbel.size)
          clear hb1
          go_wp2
          go_roundw
          case rel => exact ⟨k + 1, by omega, by omega, by go_num, hb2⟩
          case measure => simp [intOf]; omega
      · obtain ⟨i, rfl⟩ : ∃ i, j = i + 1 := ⟨j - 1, by omega⟩
        rw [show ((i + 1 : Nat) : Int) - 1 = (i : Int) from by omega]
        have his : i < s.size := by omega
        have hb := byte_at s i his
        have hv := val_le6 _ (Nat.le_trans (len_drop s (k + 1) (i + 1)) (by omega))
        have HS : Hid (val (((bl s).take (k + 1)).drop (i + 1)) * 128 + (s[i].toNat : Int) % 128 = val (((bl s).take (k + 1)).drop i)) := drop_step s (k + 1) i hks (by omega) his
        go_wp2
        go_round
        case rel => exact ⟨i, by omega, rfl, by rw [HS.out]⟩
        case measure => simp [intOf]

end Go.Proofs.YtogebppolkfldaaGreatDoor.Var
