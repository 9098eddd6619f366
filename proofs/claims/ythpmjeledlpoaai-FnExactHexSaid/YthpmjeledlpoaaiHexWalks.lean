/-
  The walks of spec.Hex and impl.Hex: both give the two digits of each byte. No condition but that the text is not longer than half of what a slice may hold.
-/
import Derived.Test.YthpmjeledlpoaaiRows
import Derived.WalkKit
import Derived.WalkSpells
import Derived.WalkLawsBesides
import Derived.Outline
import Derived.Deep.RegionHeld3
import Derived.Deep.RegionHeldLaw
import Derived.Test.YthpmjeledlpoaaiOwn
import Derived.Test.YthpmjeledlpoaaiHexNum
namespace Go.Proofs.Ythpmjeledlpoaai.Hex
open Go.RowKit
open Go.Proofs.Ythpmjeledlpoaai.Var (bl bl_length bl_getD)
set_option linter.unusedVariables false
theorem info5 : (Try.prog.info? 5).map (fun i => (i.zero, i.size, i.bytes)) = some (some (.int .u8 0), 1, 1) := by kernel_rfl

theorem index_nat (k : IntKind) (hk : k = .i64 ∨ k = .u8) (n : Nat) (h : n < 16) (w : World) :
    (Instr.index 9 (.string { data := #[48, 49, 50, 51, 52, 53, 54, 55, 56, 57, 97, 98, 99, 100, 101, 102] }) (.int k (n : Int))).run Try.prog w = .ok (.int .u8 (dg (n : Int))) w := by
  have : n = 0 ∨ n = 1 ∨ n = 2 ∨ n = 3 ∨ n = 4 ∨ n = 5 ∨ n = 6 ∨ n = 7 ∨ n = 8 ∨ n = 9 ∨ n = 10 ∨ n = 11 ∨ n = 12 ∨ n = 13 ∨ n = 14 ∨ n = 15 := by omega
  rcases hk with rfl | rfl <;> rcases this with rfl | rfl | rfl | rfl | rfl | rfl | rfl | rfl | rfl | rfl | rfl | rfl | rfl | rfl | rfl | rfl <;> (refine (?_ : _ = _); kernel_rfl)

theorem index_dg (k : IntKind) (hk : k = .i64 ∨ k = .u8) (x : Int) (h0 : 0 ≤ x) (h : x < 16) (w : World) :
    (Instr.index 9 (.string { data := #[48, 49, 50, 51, 52, 53, 54, 55, 56, 57, 97, 98, 99, 100, 101, 102] }) (.int k x)).run Try.prog w = .ok (.int .u8 (dg x)) w := by
  obtain ⟨n, rfl⟩ := Int.eq_ofNat_of_zero_le h0
  exact index_nat k hk n (by omega) w

set_option maxHeartbeats 400000 in
theorem digit_any (x : Int) (h0 : 0 ≤ x) (h1 : x < 16) (w : World) :
    Calls Try.prog 19 #[.int .i64 x] w fun e w' => e = .returned (.int .u8 (dg x)) ∧ w' = w := by
  have hi := index_dg .i64 (Or.inl rfl) x h0 h1
  go_enter Try.func19, Try.ntmps19
  go_wp2
  go_ret
  exact ⟨rfl, rfl⟩

end Go.Proofs.Ythpmjeledlpoaai.Hex
