/-
  The walks of spec.l1FromHex and of strings.IndexByte at the sixteen digits. No condition.
-/
import Derived.Test.YthpmjeledlpoaabDoorHexWalks
import Derived.Test.YthpmjeledlpoaabDoorUnhexNum
namespace Go.Proofs.YthpmjeledlpoaabDoor.Hex
open Go.RowKit
open Go.Proofs.YthpmjeledlpoaabDoor.Var (bl bl_length bl_getD)
set_option linter.unusedVariables false

theorem run_ib (b : Int) (h0 : 0 ≤ b) (h1 : b ≤ 255) (w : World) :
    (callFunc 35 #[.string { data := #[48, 49, 50, 51, 52, 53, 54, 55, 56, 57, 97, 98, 99, 100, 101, 102] }, .int .u8 b]).run Tryd.prog w = .ok (.value (.int .i64 (ud b))) w := by
  rw [run_callFunc_extern Tryd.func35 (by kernel_rfl) (by kernel_rfl) (by kernel_rfl) (e := Extern.BytealgIndexByte.indexByte) (by kernel_rfl) _ w, run_indexByte_string, first_ud b h0 h1]
  rfl

set_option maxHeartbeats 400000 in
theorem ib_any (b : Int) (h0 : 0 ≤ b) (h1 : b ≤ 255) (w : World) :
    Calls Tryd.prog 22 #[.string { data := #[48, 49, 50, 51, 52, 53, 54, 55, 56, 57, 97, 98, 99, 100, 101, 102] }, .int .u8 b] w fun e w' => e = .returned (.int .i64 (ud b)) ∧ w' = w := by
  have hr := run_ib b h0 h1
  go_enter Tryd.func22, Tryd.ntmps22
  go_wp2
  go_ret
  exact ⟨rfl, rfl⟩

end Go.Proofs.YthpmjeledlpoaabDoor.Hex
