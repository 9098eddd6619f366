/-
  The walks of spec.Hex and impl.Hex: both give the two digits of each byte. No condition but that the text is not longer than half of what a slice may hold.
-/
import Derived.Test.YthpmjeledlpoaabDoorRows
import Derived.WalkKit
import Derived.WalkSpells
import Derived.WalkLawsBesides
import Derived.Outline
import Derived.Deep.RegionHeld3
import Derived.Deep.RegionHeldLaw
import Derived.Test.YthpmjeledlpoaabDoorOwn
import Derived.Test.YthpmjeledlpoaabDoorHexNum
namespace Go.Proofs.YthpmjeledlpoaabDoor.Hex
open Go.RowKit
open Go.Proofs.YthpmjeledlpoaabDoor.Var (bl bl_length bl_getD)
set_option linter.unusedVariables false
theorem info5 : (Tryd.prog.info? 5).map (fun i => (i.zero, i.size, i.bytes)) = some (some (.int .u8 0), 1, 1) := by kernel_rfl

theorem index_nat (k : IntKind) (hk : k = .i64 ∨ k = .u8) (n : Nat) (h : n < 16) (w : World) :
    (Instr.index 9 (.string { data := #[48, 49, 50, 51, 52, 53, 54, 55, 56, 57, 97, 98, 99, 100, 101, 102] }) (.int k (n : Int))).run Tryd.prog w = .ok (.int .u8 (dg (n : Int))) w := by
  have : n = 0 ∨ n = 1 ∨ n = 2 ∨ n = 3 ∨ n = 4 ∨ n = 5 ∨ n = 6 ∨ n = 7 ∨ n = 8 ∨ n = 9 ∨ n = 10 ∨ n = 11 ∨ n = 12 ∨ n = 13 ∨ n = 14 ∨ n = 15 := by omega
  rcases hk with rfl | rfl <;> rcases this with rfl | rfl | rfl | rfl | rfl | rfl | rfl | rfl | rfl | rfl | rfl | rfl | rfl | rfl | rfl | rfl <;> (refine (?_ : _ = _); kernel_rfl)

theorem index_dg (k : IntKind) (hk : k = .i64 ∨ k = .u8) (x : Int) (h0 : 0 ≤ x) (h : x < 16) (w : World) :
    (Instr.index 9 (.string { data := #[48, 49, 50, 51, 52, 53, 54, 55, 56, 57, 97, 98, 99, 100, 101, 102] }) (.int k x)).run Tryd.prog w = .ok (.int .u8 (dg x)) w := by
  obtain ⟨n, rfl⟩ := Int.eq_ofNat_of_zero_le h0
  exact index_nat k hk n (by omega) w

end Go.Proofs.YthpmjeledlpoaabDoor.Hex
