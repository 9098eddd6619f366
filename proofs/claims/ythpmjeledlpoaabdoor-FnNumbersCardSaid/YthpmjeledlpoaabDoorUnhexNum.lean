/-
  Plain facts on reading hexadecimal digits. No condition.
-/
import Derived.Test.YthpmjeledlpoaabDoorHexNum
import Derived.Laws.Externs
namespace Go.Proofs.YthpmjeledlpoaabDoor.Hex
open Go.Proofs.YthpmjeledlpoaabDoor.Var (bl bl_length bl_getD)

/-- The number of a digit's byte, or -1. -/
def ud (b : Int) : Int := if 48 ≤ b ∧ b ≤ 57 then b - 48 else if 97 ≤ b ∧ b ≤ 102 then b - 87 else -1

theorem ud_bd (b : Int) : -1 ≤ ud b ∧ ud b ≤ 15 := by unfold ud; split; · omega
                                                      · split <;> omega

theorem ud_dg (k : Int) (h0 : 0 ≤ k) (h1 : k < 16) : ud (dg k) = k := by
  unfold ud dg
  by_cases h : k < 10
  · rw [if_pos h, if_pos (by omega)]; omega
  · rw [if_neg h, if_neg (by omega), if_pos (by omega)]; omega

theorem ud_none (b : Int) (h : ∀ k : Nat, k < 16 → dg (k : Int) ≠ b) : ud b = -1 := by
  unfold ud
  by_cases h1 : 48 ≤ b ∧ b ≤ 57
  · exact absurd (by unfold dg; rw [if_pos (by omega)]; omega) (h (b - 48).toNat (by omega))
  · rw [if_neg h1]
    by_cases h2 : 97 ≤ b ∧ b ≤ 102
    · exact absurd (by unfold dg; rw [if_neg (by omega)]; omega) (h (b - 87).toNat (by omega))
    · rw [if_neg h2]

theorem first_ud (b : Int) (h0 : 0 ≤ b) (h1 : b ≤ 255) : firstIdx { data := #[48, 49, 50, 51, 52, 53, 54, 55, 56, 57, 97, 98, 99, 100, 101, 102] } b.toNat.toUInt8 = ud b := by
  obtain ⟨n, rfl⟩ := Int.eq_ofNat_of_zero_le h0
  have : ∀ m : Fin 256, firstIdx { data := #[48, 49, 50, 51, 52, 53, 54, 55, 56, 57, 97, 98, 99, 100, 101, 102] } (m.val : Int).toNat.toUInt8 = ud (m.val : Int) := by decide +kernel
  exact this ⟨n, by omega⟩

/-- Byte j as a number, 0 past the end. -/
def bt (s : ByteArray) (j : Nat) : Int := (bl s).getD j 0

theorem bt_eq (s : ByteArray) (j : Nat) (h : j < s.size) : (s[j].toNat : Int) = bt s j := (bl_getD s j h).symm

theorem bt_bd (s : ByteArray) (j : Nat) : 0 ≤ bt s j ∧ bt s j ≤ 255 := by
  unfold bt
  by_cases h : j < s.size
  · rw [bl_getD s j h]; have := s[j].toNat_lt; omega
  · rw [List.getD, List.getElem?_eq_none (by rw [bl_length]; omega)]; simp

/-- Are both bytes of pair k digits? -/
def okp (s : ByteArray) (k : Nat) : Prop := 0 ≤ ud (bt s (2 * k)) ∧ 0 ≤ ud (bt s (2 * k + 1))

/-- What the first k pairs say. -/
def uL (s : ByteArray) : Nat → List Int
  | 0 => []
  | k + 1 => uL s k ++ [16 * ud (bt s (2 * k)) + ud (bt s (2 * k + 1))]

theorem uL_length (s : ByteArray) : ∀ k, (uL s k).length = k
  | 0 => rfl
  | k + 1 => by simp [uL, uL_length s k]

/-- All pairs are digits, or there is a first one that is not. -/
theorem first_bad (s : ByteArray) : ∀ n : Nat, (∀ j, j < n → okp s j) ∨ ∃ m, m < n ∧ ¬ okp s m ∧ ∀ j, j < m → okp s j
  | 0 => Or.inl (fun j h => by omega)
  | n + 1 => by
    rcases first_bad s n with h | ⟨m, h1, h2, h3⟩
    · by_cases hn : okp s n
      · refine Or.inl (fun j hj => ?_)
        by_cases e : j = n
        · subst e; exact hn
        · exact h j (by omega)
      · exact Or.inr ⟨n, by omega, hn, h⟩
    · exact Or.inr ⟨m, by omega, h2, h3⟩

end Go.Proofs.YthpmjeledlpoaabDoor.Hex
