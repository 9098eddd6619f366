/-
  The walks of spec.Fixed and impl.Fixed: both give the width lowest bytes of n, the highest first, or the empty text. No condition.
-/
import Derived.Test.YthpmjeledlpoaabDoorRows
import Derived.WalkKit
import Derived.WalkSpells
import Derived.WalkLawsBesides
import Derived.Outline
import Derived.Test.YthpmjeledlpoaabDoorFixNum
namespace Go.Proofs.YthpmjeledlpoaabDoor.Fix
open Go.RowKit
set_option linter.unusedVariables false

set_option maxHeartbeats 400000 in
theorem impl_no (N : Int) (n : Int) (w : World) (h : n < 1 ∨ 7 < n ∨ N < 0) :
    Calls Tryd.prog 9 #[.int .i64 N, .int .i64 n] w fun e w' => e = .returned (.string ⟨#[]⟩) ∧ Below w.heap.size w w' := by
  by_cases h1 : n < 1
  · have h1' : ¬ 1 ≤ n := by omega
    go_enter Tryd.func9, Tryd.ntmps9
    go_wp2
    go_ret
    exact ⟨rfl, Below.refl _ _⟩
  · have h1' : 1 ≤ n := by omega
    by_cases h2 : 7 < n
    · have h2' : ¬ n ≤ 7 := by omega
      go_enter Tryd.func9, Tryd.ntmps9
      go_wp2
      go_ret
      exact ⟨rfl, Below.refl _ _⟩
    · have h2' : n ≤ 7 := by omega
      have h3 : N < 0 := by omega
      go_enter Tryd.func9, Tryd.ntmps9
      go_wp2
      go_ret
      exact ⟨rfl, Below.refl _ _⟩

theorem ret_str {a b : ByteArray} (h : a = b) : Ending.returned (.string a) = .returned (.string b) := by rw [h]

/-- What both give within the bounds. -/
def fixed (N : Int) (n : Nat) : ByteArray := if 0 < N / 256 ^ n then ⟨#[]⟩ else fxS N n

set_option maxHeartbeats 400000 in
theorem impl_great (N : Int) (n : Nat) (w : World) (h1 : 1 ≤ (n : Int)) (h7 : (n : Int) ≤ 7) (hN : 0 ≤ N) (hM : N ≤ 9223372036854775807) (hg : 0 < N / 256 ^ n) :
    Calls Tryd.prog 9 #[.int .i64 N, .int .i64 n] w fun e w' => e = .returned (.string ⟨#[]⟩) ∧ Below w.heap.size w w' := by
  have ht : (N / 2 ^ (8 * n) != 0) = true := by rw [pow_pow]; simp; omega
  clear hg
  go_enter Tryd.func9, Tryd.ntmps9
  go_wp2
  go_ret
  exact ⟨rfl, Below.refl _ _⟩

end Go.Proofs.YthpmjeledlpoaabDoor.Fix
