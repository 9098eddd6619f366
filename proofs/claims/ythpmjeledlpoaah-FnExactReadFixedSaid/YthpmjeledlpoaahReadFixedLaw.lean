/-
  The walk of laws.FnExactReadFixed: at every text and width the law answers true, and nothing that was there is changed. No condition.
-/
import Derived.Test.YthpmjeledlpoaahReadFixedWalks
namespace Go.Proofs.Ythpmjeledlpoaah.ReadFixed
open Go.RowKit Go.Proofs.Ythpmjeledlpoaah.Num

set_option maxHeartbeats 400000 in
theorem law (a0 : ByteArray) (a1 : Int) (w0 : a0.size ≤ maxLen) (w : World) :
    Calls Try.prog 4 #[.string a0, .int .i64 a1] w fun e w' => e = .returned (.bool true) ∧ w' = w := by
  by_cases hb : (1048576 : Int) < (a0.size : Int)
  · go_enter Try.func4, Try.ntmps4
    go_wp2
    go_ret
    exact ⟨rfl, rfl⟩
  · by_cases hn : a1 < 1 ∨ 7 < a1 ∨ (a0.size : Int) < a1
    · go_enter Try.func4, Try.ntmps4
      go_wp2_with fail
      refine (spec_no a0 a1 _ hn).mono ?_
      rintro e w' ⟨rfl, rfl⟩
      go_wp2_with fail
      refine (impl_no a0 a1 _ hn).mono ?_
      rintro e w' ⟨rfl, rfl⟩
      go_wp2
      go_ret
      exact ⟨rfl, rfl⟩
    · obtain ⟨n, rfl⟩ : ∃ n : Nat, a1 = (n : Int) := ⟨a1.toNat, by omega⟩
      have h1 : 1 ≤ (n : Int) := by omega
      have h7 : (n : Int) ≤ 7 := by omega
      have hs : n ≤ a0.size := by omega
      clear hn
      go_enter Try.func4, Try.ntmps4
      go_wp2_with fail
      refine (spec_yes a0 n _ w0 h1 h7 hs).mono ?_
      rintro e w' ⟨rfl, rfl⟩
      go_wp2_with fail
      refine (impl_yes a0 n _ w0 h1 h7 hs).mono ?_
      rintro e w' ⟨rfl, rfl⟩
      go_wp2
      go_ret
      exact ⟨rfl, rfl⟩

end Go.Proofs.Ythpmjeledlpoaah.ReadFixed
