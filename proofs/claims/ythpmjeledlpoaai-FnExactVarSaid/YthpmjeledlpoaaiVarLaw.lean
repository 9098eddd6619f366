/-
  The walk of laws.FnExactVar: at every number the law answers true, and nothing that was there is changed. No condition.
-/
import Derived.Test.YthpmjeledlpoaaiVarWalks
namespace Go.Proofs.Ythpmjeledlpoaai.Var
open Go.RowKit

set_option maxHeartbeats 400000 in
theorem law (a0 : Int) (w : World) :
    Calls Try.prog 3 #[.int .i64 a0] w fun e w' => e = .returned (.bool true) ∧ Below w.heap.size w w' := by
  by_cases hn : a0 < 0 ∨ 562949953421311 < a0
  · go_enter Try.func3, Try.ntmps3
    go_wp2_with fail
    refine (spec_no a0 _ hn).mono ?_
    rintro e w1 ⟨rfl, hb1⟩
    go_wp2_with fail
    refine (impl_no a0 _ hn).mono ?_
    rintro e w2 ⟨rfl, hb2⟩
    go_wp2
    go_ret
    exact ⟨rfl, hb1.trans (hb2.mono hb1.size)⟩
  · have h0 : 0 ≤ a0 := by omega
    have h1 : a0 ≤ 562949953421311 := by omega
    clear hn
    go_enter Try.func3, Try.ntmps3
    go_wp2_with fail
    refine (spec_yes a0 _ h0 h1).mono ?_
    rintro e w1 ⟨rfl, hb1⟩
    go_wp2_with fail
    refine (impl_yes a0 _ h0 h1).mono ?_
    rintro e w2 ⟨rfl, hb2⟩
    go_wp2
    go_ret
    exact ⟨rfl, hb1.trans (hb2.mono hb1.size)⟩

end Go.Proofs.Ythpmjeledlpoaai.Var
