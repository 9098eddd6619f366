/-
  The walks of spec.Fixed and impl.Fixed: both give the width lowest bytes of n, the highest first, or the empty text. No condition.
-/
import Derived.Test.YtogebppolkfldaaGreatDoorRows
import Derived.WalkKit
import Derived.WalkSpells
import Derived.WalkLawsBesides
import Derived.Outline
import Derived.Test.YtogebppolkfldaaGreatDoorFixNum
namespace Go.Proofs.YtogebppolkfldaaGreatDoor.Fix
open Go.RowKit
set_option linter.unusedVariables false

set_option maxHeartbeats 400000 in
theorem spec_no (N : Int) (n : Int) (w : World) (h : n < 1 ∨ 7 < n ∨ N < 0) :
    Calls Tryz.prog 113 #[.int .i64 N, .int .i64 n] w fun e w' => e = .returned (.string ⟨#[]⟩) ∧ Below w.heap.size w w' := by
  by_cases h1 : n < 1
  · have h1' : ¬ 1 ≤ n := by omega
    go_enter Tryz.func113, Tryz.ntmps113
    go_wp2
    go_ret
    exact ⟨rfl, Below.refl _ _⟩
  · have h1' : 1 ≤ n := by omega
    by_cases h2 : 7 < n
    · have h2' : ¬ n ≤ 7 := by omega
      go_enter Tryz.func113, Tryz.ntmps113
      go_wp2
      go_ret
      exact ⟨rfl, Below.refl _ _⟩
    · have h2' : n ≤ 7 := by omega
      have h3 : N < 0 := by omega
      go_enter Tryz.func113, Tryz.ntmps113
      go_wp2
      go_ret
      exact ⟨rfl, Below.refl _ _⟩

set_option maxHeartbeats 400000 in
theorem impl_no (N : Int) (n : Int) (w : World) (h : n < 1 ∨ 7 < n ∨ N < 0) :
    Calls Tryz.prog 157 #[.int .i64 N, .int .i64 n] w fun e w' => e = .returned (.string ⟨#[]⟩) ∧ Below w.heap.size w w' := by
  by_cases h1 : n < 1
  · have h1' : ¬ 1 ≤ n := by omega
    go_enter Tryz.func157, Tryz.ntmps157
    go_wp2
    go_ret
    exact ⟨rfl, Below.refl _ _⟩
  · have h1' : 1 ≤ n := by omega
    by_cases h2 : 7 < n
    · have h2' : ¬ n ≤ 7 := by omega
      go_enter Tryz.func157, Tryz.ntmps157
      go_wp2
      go_ret
      exact ⟨rfl, Below.refl _ _⟩
    · have h2' : n ≤ 7 := by omega
      have h3 : N < 0 := by omega
      go_enter Tryz.func157, Tryz.ntmps157
      go_wp2
      go_ret
      exact ⟨rfl, Below.refl _ _⟩

theorem ret_str {a b : ByteArray} (h : a = b) : Ending.returned (.string a) = .returned (.string b) := by rw [h]

/-- What both give within the bounds. -/
def fixed (N : Int) (n : Nat) : ByteArray := if 0 < N / 256 ^ n then ⟨#[]⟩ else fxS N n

set_option maxHeartbeats 400000 in
theorem spec_yes (N : Int) (n : Nat) (w : World) (h1 : 1 ≤ (n : Int)) (h7 : (n : Int) ≤ 7) (hN : 0 ≤ N) (hM : N ≤ 9223372036854775807) :
    Calls Tryz.prog 113 #[.int .i64 N, .int .i64 n] w fun e w' => e = .returned (.string (fixed N n)) ∧ Below w.heap.size w w' := by
  go_enter Tryz.func113, Tryz.ntmps113
  go_wp2
  go_loopw [0, 5, 6] (fun x s i wr => ∃ k : Nat, k ≤ n ∧ i = .int .i64 k ∧ s = .string (fxS N k) ∧ x = .int .i64 (N / 256 ^ k) ∧ Below w.heap.size w wr) (fun _ _ i _ => n - (intOf i).toNat)
  case atStart => exact ⟨0, Nat.zero_le _, rfl, rfl, by simp, Below.refl _ _⟩
  case round =>
    obtain ⟨k, hk, rfl, rfl, rfl, hbel⟩ := hrel
    have hq := div_bd N k hN hM
    have HS := div_succ N k
    have HT := fxS_succ N k
    generalize hx : N / 256 ^ k = q at *
    have hsz := fxS_size N k
    by_cases hlt : k < n
    · generalize hy : fxS N k = t at *
      have H1 : Hid (q / 256 = N / 256 ^ (k + 1)) := HS
      have H2 : Hid (strOfNums [q % 256] ++ t = fxS N (k + 1)) := HT
      clear HS HT hx hy
      have hcv := fun (b len : Nat) (x : Int) (wx : World) (hc : wx.cell? ⟨b, 0, none⟩ = some (.int .u8 x)) => run_convert_bytes_arg (P := Tryz.prog) wx 184 5 Tryz.underlying184 Tryz.underlying5 b 0 1 len [x] rfl (fun i hi => by obtain rfl : i = 0 := (by omega); simpa using hc) 9 Tryz.underlying9
      have hone := str_one (q % 256)
      go_wp2
      go_roundw
      case rel => exact ⟨k + 1, by omega, by go_num, by rw [H2.out], by rw [H1.out], hbel.alloc hbel.size _⟩
      case measure => simp [intOf]; omega
    · obtain rfl : k = n := by omega
      have H1 : Hid (N / 256 ^ k = q) := hx
      clear HS HT hx
      by_cases hp : 0 < q
      · have H2 : Hid (fixed N k = ⟨#[]⟩) := by show fixed N k = _; unfold fixed; rw [H1.out, if_pos hp]
        go_wp2
        go_ret
        exact ⟨ret_str H2.out.symm, hbel⟩
      · have H2 : Hid (fixed N k = fxS N k) := by show fixed N k = _; unfold fixed; rw [H1.out, if_neg hp]
        go_wp2
        go_ret
        exact ⟨ret_str H2.out.symm, hbel⟩

set_option maxHeartbeats 400000 in
theorem impl_great (N : Int) (n : Nat) (w : World) (h1 : 1 ≤ (n : Int)) (h7 : (n : Int) ≤ 7) (hN : 0 ≤ N) (hM : N ≤ 9223372036854775807) (hg : 0 < N / 256 ^ n) :
    Calls Tryz.prog 157 #[.int .i64 N, .int .i64 n] w fun e w' => e = .returned (.string ⟨#[]⟩) ∧ Below w.heap.size w w' := by
  have ht : (N / 2 ^ (8 * n) != 0) = true := by rw [pow_pow]; simp; omega
  clear hg
  go_enter Tryz.func157, Tryz.ntmps157
  go_wp2
  go_ret
  exact ⟨rfl, Below.refl _ _⟩

end Go.Proofs.YtogebppolkfldaaGreatDoor.Fix
