/-
  The walks of laws.toStringS and laws.toIntS: a slice of texts, of ints, laid anew. No condition but a length of at most 2^20.
-/
import Derived.Test.YtbnpnhcegoanmaaRows
import Derived.WalkKit
import Derived.WalkSpells
import Derived.WalkLawsBesides
import Derived.Test.YtbnpnhcegoanmaaMem
namespace Go.Proofs.Ytbnpnhcegoanmaa.Mem
open Go.RowKit
set_option linter.unusedVariables false

theorem info9 : (Try.prog.info? 9).map (fun i => (i.zero, i.size, i.bytes)) = some (some (.string ByteArray.empty), 1, 16) := by kernel_rfl
theorem info3 : (Try.prog.info? 3).map (fun i => (i.zero, i.size, i.bytes)) = some (some (.int .i64 0), 1, 8) := by kernel_rfl

/-- What stands in the new row behind k rounds. -/
def partS (l : List ByteArray) (k : Nat) (i : Nat) : Value := .string (if i < k then l.getD i ByteArray.empty else ByteArray.empty)
def partI (l : List Int) (k : Nat) (i : Nat) : Value := .int .i64 (if i < k then l.getD i 0 else 0)

theorem partS_succ (l : List ByteArray) (k : Nat) : (fun j => if j = k then Value.string (l.getD k ByteArray.empty) else partS l k j) = partS l (k + 1) := by
  funext j
  unfold partS
  by_cases h : j = k
  · subst h; simp
  · by_cases h2 : j < k
    · simp [h, h2, Nat.lt_succ_of_lt h2]
    · simp [h, h2, show ¬ j < k + 1 by omega]

theorem partI_succ (l : List Int) (k : Nat) : (fun j => if j = k then Value.int .i64 (l.getD k 0) else partI l k j) = partI l (k + 1) := by
  funext j
  unfold partI
  by_cases h : j = k
  · subst h; simp
  · by_cases h2 : j < k
    · simp [h, h2, Nat.lt_succ_of_lt h2]
    · simp [h, h2, show ¬ j < k + 1 by omega]

end Go.Proofs.Ytbnpnhcegoanmaa.Mem
