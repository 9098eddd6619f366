/-
  Plain facts on hexadecimal digits. No condition.
-/
import Derived.WalkKit
import Derived.Laws.BytesArg
import Derived.Test.YthpmjeledlpoaabDoorRvNum
namespace Go.Proofs.YthpmjeledlpoaabDoor.Hex
open Go.Proofs.YthpmjeledlpoaabDoor.Var (bl bl_length bl_getD)

/-- The digit of x from 0 to 15. -/
def dg (x : Int) : Int := if x < 10 then 48 + x else 87 + x

/-- The digits of a list of bytes, the higher one first. -/
def hexL : List Int → List Int
  | [] => []
  | c :: l => dg (c / 16) :: dg (c % 16) :: hexL l

theorem hexL_append : ∀ a b : List Int, hexL (a ++ b) = hexL a ++ hexL b
  | [], _ => rfl
  | c :: a, b => by simp [hexL, hexL_append a b]

theorem hexL_length : ∀ l : List Int, (hexL l).length = 2 * l.length
  | [] => rfl
  | c :: l => by simp [hexL, hexL_length l]; omega

theorem take_snoc (s : ByteArray) (k : Nat) (h : k < s.size) : (bl s).take (k + 1) = (bl s).take k ++ [(s[k].toNat : Int)] := by
  have hl : (bl s).length = s.size := bl_length s
  rw [List.take_succ_eq_append_getElem (by omega)]
  simp [bl]
  rfl

theorem hexL_step (s : ByteArray) (k : Nat) (h : k < s.size) : hexL ((bl s).take k) ++ [dg ((s[k].toNat : Int) / 16), dg ((s[k].toNat : Int) % 16)] = hexL ((bl s).take (k + 1)) := by
  rw [take_snoc s k h, hexL_append]; rfl

theorem hexL_take_length (s : ByteArray) (k : Nat) (h : k ≤ s.size) : (hexL ((bl s).take k)).length = 2 * k := by
  rw [hexL_length, List.length_take, bl_length]; omega

/-- What Hex makes. -/
def hexS (s : ByteArray) : ByteArray := strOfNums (hexL (bl s))

theorem take_all (s : ByteArray) (k : Nat) (h : s.size ≤ k) : (bl s).take k = bl s := List.take_of_length_le (by rw [bl_length]; exact h)

theorem and15 (x : Int) (h0 : 0 ≤ x) (h1 : x ≤ 255) : bits .and .u8 x 15 = x % 16 := by
  obtain ⟨n, rfl⟩ := Int.eq_ofNat_of_zero_le h0
  have : ∀ m : Fin 256, bits .and .u8 (m.val : Int) 15 = (m.val : Int) % 16 := by decide +kernel
  exact this ⟨n, by omega⟩

theorem quo16 (b : Int) (h0 : 0 ≤ b) (h1 : b ≤ 255) : IntKind.i64.wrap ((IntKind.i64.wrap b).tdiv 16) = b / 16 := by
  rw [IntWalk.i64_left, IntWalk.i64_left, IntWalk.wrap64_in b (by omega), Int.tdiv_eq_ediv_of_nonneg h0, IntWalk.wrap64_in _ (by omega)]

theorem rem16 (b : Int) (h0 : 0 ≤ b) (h1 : b ≤ 255) : (IntKind.i64.wrap b).tmod 16 = b % 16 := by
  rw [IntWalk.i64_left, IntWalk.wrap64_in b (by omega), Int.tmod_eq_emod_of_nonneg h0]

theorem wrap_small (b : Int) (h0 : 0 ≤ b) (h1 : b ≤ 255) : IntKind.i64.wrap b = b := by
  rw [IntWalk.i64_left, IntWalk.wrap64_in b (by omega)]

end Go.Proofs.YthpmjeledlpoaabDoor.Hex
