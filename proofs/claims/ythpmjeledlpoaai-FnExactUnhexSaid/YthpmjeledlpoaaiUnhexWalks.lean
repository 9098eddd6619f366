/-
  The walks of spec.l1FromHex and of strings.IndexByte at the sixteen digits. No condition.
-/
import Derived.Test.YthpmjeledlpoaaiHexWalks
import Derived.Test.YthpmjeledlpoaaiUnhexNum
namespace Go.Proofs.Ythpmjeledlpoaai.Hex
open Go.RowKit
open Go.Proofs.Ythpmjeledlpoaai.Var (bl bl_length bl_getD)
set_option linter.unusedVariables false

theorem run_ib (b : Int) (h0 : 0 ≤ b) (h1 : b ≤ 255) (w : World) :
    (callFunc 26 #[.string { data := #[48, 49, 50, 51, 52, 53, 54, 55, 56, 57, 97, 98, 99, 100, 101, 102] }, .int .u8 b]).run Try.prog w = .ok (.value (.int .i64 (ud b))) w := by
  rw [run_callFunc_extern Try.func26 (by kernel_rfl) (by kernel_rfl) (by kernel_rfl) (e := Extern.BytealgIndexByte.indexByte) (by kernel_rfl) _ w, run_indexByte_string, first_ud b h0 h1]
  rfl

set_option maxHeartbeats 400000 in
theorem ib_any (b : Int) (h0 : 0 ≤ b) (h1 : b ≤ 255) (w : World) :
    Calls Try.prog 21 #[.string { data := #[48, 49, 50, 51, 52, 53, 54, 55, 56, 57, 97, 98, 99, 100, 101, 102] }, .int .u8 b] w fun e w' => e = .returned (.int .i64 (ud b)) ∧ w' = w := by
  have hr := run_ib b h0 h1
  go_enter Try.func21, Try.ntmps21
  go_wp2
  go_ret
  exact ⟨rfl, rfl⟩

set_option maxRecDepth 100000 in
set_option maxHeartbeats 400000 in
theorem from_any (b : Int) (w : World) :
    Calls Try.prog 20 #[.int .u8 b] w fun e w' => e = .returned (.int .i64 (ud b)) ∧ w' = w := by
  go_enter Try.func20, Try.ntmps20
  go_wp2
  go_loop [3] (fun i => ∃ k : Nat, k ≤ 16 ∧ i = .int .i64 k ∧ Hid (∀ j : Nat, j < k → dg (j : Int) ≠ b)) (fun i => 16 - (intOf i).toNat)
  case atStart => exact ⟨0, Nat.zero_le _, rfl, fun j h => by omega⟩
  case round =>
    obtain ⟨k, hk, rfl, hno⟩ := hrel
    by_cases hlt : k < 16
    · have d1 : (0 : Int) ≤ (k : Int) ∧ (k : Int) < 16 := by omega
      by_cases he : dg (k : Int) = b
      · have ht : (dg (k : Int) == b) = true := by simpa using he
        have Hu : Hid (ud b = (k : Int)) := by show ud b = _; rw [← he]; exact ud_dg k d1.1 d1.2
        clear he
        go_wp2_with (go_at_call 19; refine (digit_any _ d1.1 d1.2 _).mono ?_; rintro e w' ⟨rfl, hw⟩; obtain rfl := hw)
        go_ret
        exact ⟨by rw [Hu.out]; rfl, rfl⟩
      · have ht : (dg (k : Int) == b) = false := by simpa using he
        have Hn : Hid (∀ j : Nat, j < k + 1 → dg (j : Int) ≠ b) := by
          intro j hj
          by_cases e : j = k
          · subst e; exact he
          · exact hno.out j (by omega)
        clear he
        go_wp2_with (go_at_call 19; refine (digit_any _ d1.1 d1.2 _).mono ?_; rintro e w' ⟨rfl, hw⟩; obtain rfl := hw)
        go_round
        case rel => exact ⟨k + 1, by omega, by go_num, Hn⟩
        case measure => simp [intOf]; omega
    · obtain rfl : k = 16 := by omega
      have Hu : Hid (ud b = -1) := ud_none b hno.out
      go_wp2
      go_ret
      exact ⟨by rw [Hu.out]; rfl, rfl⟩

end Go.Proofs.Ythpmjeledlpoaai.Hex
