/-
  Plain facts on bytes and numbers: what the first k bytes of a text are as a number, the highest first. No condition.
-/
import Derived.WalkKit
namespace Go.Proofs.YthpmjeledlpoaabDoor.Num

/-- The first k bytes of s as one number, the highest first. -/
def be (s : ByteArray) (k : Nat) : Int := (s.data.toList.take k).foldl (fun n c => n * 256 + (c.toNat : Int)) 0

theorem be_zero (s : ByteArray) : be s 0 = 0 := rfl

theorem take_snoc (s : ByteArray) (k : Nat) (h : k < s.size) : s.data.toList.take (k + 1) = s.data.toList.take k ++ [s[k]] := by
  rw [List.take_succ_eq_append_getElem (by simpa using h)]; rfl

theorem be_succ (s : ByteArray) (k : Nat) (h : k < s.size) : be s (k + 1) = be s k * 256 + (s[k].toNat : Int) := by
  unfold be
  rw [take_snoc s k h, List.foldl_append]; rfl

theorem byte_lt (c : UInt8) : (c.toNat : Int) ≤ 255 := by have := c.toNat_lt; omega

theorem be_bd (s : ByteArray) : ∀ k : Nat, k ≤ s.size → 0 ≤ be s k ∧ be s k < 256 ^ k := by
  intro k
  induction k with
  | zero => intro _; simp [be_zero]
  | succ k ih =>
    intro h
    have h1 := ih (by omega)
    rw [be_succ s k (by omega)]
    have hb := byte_lt s[k]
    have h0 : (0 : Int) ≤ (s[k].toNat : Int) := by omega
    rw [Int.pow_succ]
    omega

theorem be_six (s : ByteArray) (k : Nat) (h : k ≤ s.size) (h6 : k ≤ 6) : 0 ≤ be s k ∧ be s k ≤ 281474976710655 := by
  have h1 := be_bd s k h
  have h2 : (256 : Int) ^ k ≤ 281474976710656 := by
    have : k = 0 ∨ k = 1 ∨ k = 2 ∨ k = 3 ∨ k = 4 ∨ k = 5 ∨ k = 6 := by omega
    rcases this with rfl | rfl | rfl | rfl | rfl | rfl | rfl <;> decide
  omega

theorem ret2 {k : IntKind} {a b : Int} {t : Bool} (h : a = b) : Ending.returned (.tuple #[.int k a, .bool t]) = .returned (.tuple #[.int k b, .bool t]) := by rw [h]

end Go.Proofs.YthpmjeledlpoaabDoor.Num
