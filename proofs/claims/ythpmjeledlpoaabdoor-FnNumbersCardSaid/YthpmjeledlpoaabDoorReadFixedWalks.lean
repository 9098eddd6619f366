/-
  The walks of spec.ReadFixed and impl.ReadFixed: both give the first width bytes as a number, or 0 and false. No condition.
-/
import Derived.Test.YthpmjeledlpoaabDoorRows
import Derived.WalkKit
import Derived.WalkSpells
import Derived.WalkLawsBesides
import Derived.Test.YthpmjeledlpoaabDoorNum
namespace Go.Proofs.YthpmjeledlpoaabDoor.ReadFixed
open Go.RowKit Go.Proofs.YthpmjeledlpoaabDoor.Num

set_option maxHeartbeats 400000 in
theorem impl_no (s : ByteArray) (n : Int) (w : World) (h : n < 1 ∨ 7 < n ∨ (s.size : Int) < n) :
    Calls Tryd.prog 10 #[.string s, .int .i64 n] w fun e w' => e = .returned (.tuple #[.int .i64 0, .bool false]) ∧ w' = w := by
  by_cases h1 : n < 1
  · have h1' : ¬ 1 ≤ n := by omega
    go_enter Tryd.func10, Tryd.ntmps10
    go_wp2
    go_ret2
    exact ⟨rfl, rfl⟩
  · have h1' : 1 ≤ n := by omega
    by_cases h2 : 7 < n
    · have h2' : ¬ n ≤ 7 := by omega
      go_enter Tryd.func10, Tryd.ntmps10
      go_wp2
      go_ret2
      exact ⟨rfl, rfl⟩
    · have h2' : n ≤ 7 := by omega
      have h3 : (s.size : Int) < n := by omega
      go_enter Tryd.func10, Tryd.ntmps10
      go_wp2
      go_ret2
      exact ⟨rfl, rfl⟩

set_option maxHeartbeats 400000 in
theorem impl_yes (s : ByteArray) (n : Nat) (w : World) (hs : s.size ≤ maxLen) (h1 : 1 ≤ (n : Int)) (h7 : (n : Int) ≤ 7) (hn : n ≤ s.size) :
    Calls Tryd.prog 10 #[.string s, .int .i64 n] w fun e w' => e = .returned (.tuple #[.int .i64 (be s n), .bool true]) ∧ w' = w := by
  unfold maxLen at hs
  go_enter Tryd.func10, Tryd.ntmps10
  go_wp2
  go_loop [6, 18] (fun x i => ∃ k : Nat, k ≤ n ∧ i = .int .i64 k ∧ x = .int .i64 (be s k)) (fun _ i => n - (intOf i).toNat)
  case atStart => exact ⟨0, Nat.zero_le _, rfl, rfl⟩
  case round =>
    obtain ⟨k, hk, rfl, rfl⟩ := hrel
    by_cases hlt : k < n
    · have hb := be_six s k (by omega) (by omega)
      have HS : Hid (be s (k + 1) = be s k * 256 + (s[k].toNat : Int)) := be_succ s k (by omega)
      have hks : k < s.size := by omega
      have hby := byte_lt s[k]
      go_wp2
      go_round
      case rel => exact ⟨k + 1, by omega, by go_num, by rw [HS.out]⟩
      case measure => simp [intOf]; omega
    · obtain rfl : k = n := by omega
      go_wp2
      go_ret2
      exact ⟨rfl, rfl⟩

end Go.Proofs.YthpmjeledlpoaabDoor.ReadFixed
