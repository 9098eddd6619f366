/-
  The walk of spec.l1Size: how many calls a draw makes, by the code's length. No condition but sizes.
-/
import Derived.Test.YtnkipjlkhnmilaaSomeParts
namespace Go.Proofs.Ytnkipjlkhnmilaa.Mem
open Go.RowKit
set_option linter.unusedVariables false

set_option maxRecDepth 100000 in
set_option maxHeartbeats 1000000 in
theorem sizeX (w : World) (a : Option Addr) (len cap : Nat) (m : Int) (hl : len ≤ 1048576) (h2 : 2 ≤ m) (hm : m ≤ 1000) :
    Calls Try.prog 30 #[.slice a len cap, .int .i64 m] w fun e w' => ∃ n : Int, 0 < n ∧ n ≤ m ∧ e = .returned (.int .i64 n) ∧ w' = w := by
  have hq : Int.tdiv (len : Int) 20 = (len : Int) / 20 := Int.tdiv_eq_ediv_of_nonneg (by omega)
  have hd : 0 ≤ (len : Int) / 20 ∧ (len : Int) / 20 ≤ 1048576 := by omega
  have hl' : (len : Int) ≤ 1048576 := by omega
  have hw1 : IntKind.i64.wrap ((len : Int) / 20) = (len : Int) / 20 := by rw [IntKind.wrap_i64]; omega
  have hw2 : IntKind.i64.wrap (2 + (len : Int) / 20) = 2 + (len : Int) / 20 := by rw [IntKind.wrap_i64]; omega
  by_cases g : m < 2 + (len : Int) / 20
  · go_enter Try.func30, Try.ntmps30
    go_wp2
    go_ret
    exact ⟨m, by omega, by omega, rfl, rfl⟩
  · go_enter Try.func30, Try.ntmps30
    go_wp2
    go_ret
    exact ⟨2 + (len : Int) / 20, by omega, by omega, rfl, rfl⟩

end Go.Proofs.Ytnkipjlkhnmilaa.Mem
