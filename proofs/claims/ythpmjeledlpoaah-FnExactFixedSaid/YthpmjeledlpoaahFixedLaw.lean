/-
  The walk of laws.FnExactFixed: at every number and width the law answers true, and nothing that was there is changed. No condition.
-/
import Derived.Test.YthpmjeledlpoaahFixedWalks2
namespace Go.Proofs.Ythpmjeledlpoaah.Fix
open Go.RowKit

set_option maxHeartbeats 400000 in
theorem impl_yes (N : Int) (n : Nat) (w : World) (h1 : 1 ≤ (n : Int)) (h7 : (n : Int) ≤ 7) (hN : 0 ≤ N) (hM : N ≤ 9223372036854775807) :
    Calls Try.prog 6 #[.int .i64 N, .int .i64 n] w fun e w' => e = .returned (.string (fixed N n)) ∧ Below w.heap.size w w' := by
  unfold fixed
  by_cases hg : 0 < N / 256 ^ n
  · rw [if_pos hg]; exact impl_great N n w h1 h7 hN hM hg
  · rw [if_neg hg]; exact impl_fits N n w h1 h7 hN hM hg

set_option maxHeartbeats 400000 in
theorem law (a0 a1 : Int) (hM : a0 ≤ 9223372036854775807) (w : World) :
    Calls Try.prog 3 #[.int .i64 a0, .int .i64 a1] w fun e w' => e = .returned (.bool true) ∧ Below w.heap.size w w' := by
  by_cases hn : a1 < 1 ∨ 7 < a1 ∨ a0 < 0
  · go_enter Try.func3, Try.ntmps3
    go_wp2_with fail
    refine (spec_no a0 a1 _ hn).mono ?_
    rintro e w1 ⟨rfl, hb1⟩
    go_wp2_with fail
    refine (impl_no a0 a1 _ hn).mono ?_
    rintro e w2 ⟨rfl, hb2⟩
    go_wp2
    go_ret
    exact ⟨rfl, hb1.trans (hb2.mono hb1.size)⟩
  · obtain ⟨n, rfl⟩ : ∃ n : Nat, a1 = (n : Int) := ⟨a1.toNat, by omega⟩
    have h1 : 1 ≤ (n : Int) := by omega
    have h7 : (n : Int) ≤ 7 := by omega
    have hN : 0 ≤ a0 := by omega
    clear hn
    go_enter Try.func3, Try.ntmps3
    go_wp2_with fail
    refine (spec_yes a0 n _ h1 h7 hN hM).mono ?_
    rintro e w1 ⟨rfl, hb1⟩
    go_wp2_with fail
    refine (impl_yes a0 n _ h1 h7 hN hM).mono ?_
    rintro e w2 ⟨rfl, hb2⟩
    go_wp2
    go_ret
    exact ⟨rfl, hb1.trans (hb2.mono hb1.size)⟩

end Go.Proofs.Ythpmjeledlpoaah.Fix
