/-
  Plain facts on a number in bytes, the highest first: the k lowest bytes as a list and as a text. No condition.
-/
import Derived.WalkKit
import Derived.Laws.BytesArg
namespace Go.Proofs.YtogebppolkfldaaGreatDoor.Fix

/-- The k lowest bytes of N, the highest first. -/
def fxL (N : Int) : Nat → List Int
  | 0 => []
  | k + 1 => N / 256 ^ k % 256 :: fxL N k

theorem fxL_length (N : Int) : ∀ k, (fxL N k).length = k
  | 0 => rfl
  | k + 1 => by simp [fxL, fxL_length N k]

/-- The same as a text. -/
def fxS (N : Int) (k : Nat) : ByteArray := strOfNums (fxL N k)

theorem fxS_size (N : Int) (k : Nat) : (fxS N k).size = k := by rw [fxS, strOfNums_size, fxL_length]

theorem str_one (x : Int) : (strOfNums [x]).size = 1 := rfl

theorem fxS_succ (N : Int) (k : Nat) : strOfNums [N / 256 ^ k % 256] ++ fxS N k = fxS N (k + 1) := by
  apply ByteArray.ext
  simp [fxS, fxL, strOfNums, ByteArray.data_append]

theorem div_succ (N : Int) (k : Nat) : N / 256 ^ k / 256 = N / 256 ^ (k + 1) := by
  rw [Int.ediv_ediv_of_nonneg (by exact Int.le_of_lt (Int.pow_pos (by decide))), Int.pow_succ]

theorem pow_pow (k : Nat) : (2 : Int) ^ (8 * k) = 256 ^ k := by
  rw [Int.pow_mul]; rfl

theorem div_bd (N : Int) (k : Nat) (h0 : 0 ≤ N) (h1 : N ≤ 9223372036854775807) : 0 ≤ N / 256 ^ k ∧ N / 256 ^ k ≤ 9223372036854775807 := by
  have hp : (0 : Int) < 256 ^ k := Int.pow_pos (by decide)
  exact ⟨Int.ediv_nonneg h0 (Int.le_of_lt hp), Int.le_trans (Int.ediv_le_self _ h0) h1⟩

/-- The row of cells behind k rounds: noughts, then the k lowest bytes. -/
def rowL (N : Int) (n k : Nat) : List Value := List.replicate (n - k) (.int .u8 0) ++ (fxL N k).map (.int .u8)

theorem rowL_zero (N : Int) (n : Nat) : rowL N n 0 = List.replicate n (.int .u8 0) := by simp [rowL, fxL]

theorem rowL_succ (N : Int) (n k : Nat) (h : k < n) : (rowL N n k).set (n - 1 - k) (.int .u8 (N / 256 ^ k % 256)) = rowL N n (k + 1) := by
  unfold rowL
  obtain ⟨m, hm⟩ : ∃ m, n - k = m + 1 := ⟨n - k - 1, by omega⟩
  rw [hm, show n - 1 - k = m by omega, show n - (k + 1) = m by omega, List.replicate_succ']
  rw [List.append_assoc, List.set_append_right _ _ (by simp)]
  simp [fxL]

theorem rowL_end (N : Int) (n : Nat) : rowL N n n = (fxL N n).map (.int .u8) := by simp [rowL]

theorem rowL_length (N : Int) (n k : Nat) (h : k ≤ n) : (rowL N n k).length = n := by simp [rowL, fxL_length]; omega

end Go.Proofs.YtogebppolkfldaaGreatDoor.Fix
