/-
  The walk of laws.FnExactFixed: at every number and width the law answers true, and nothing that was there is changed. No condition.
-/
import Derived.Test.YtogebppolkfldaaGreatDoorFixedWalks2
namespace Go.Proofs.YtogebppolkfldaaGreatDoor.Fix
open Go.RowKit

set_option maxHeartbeats 400000 in
theorem impl_yes (N : Int) (n : Nat) (w : World) (h1 : 1 ≤ (n : Int)) (h7 : (n : Int) ≤ 7) (hN : 0 ≤ N) (hM : N ≤ 9223372036854775807) :
    Calls Tryz.prog 157 #[.int .i64 N, .int .i64 n] w fun e w' => e = .returned (.string (fixed N n)) ∧ Below w.heap.size w w' := by
  unfold fixed
  by_cases hg : 0 < N / 256 ^ n
  · rw [if_pos hg]; exact impl_great N n w h1 h7 hN hM hg
  · rw [if_neg hg]; exact impl_fits N n w h1 h7 hN hM hg

end Go.Proofs.YtogebppolkfldaaGreatDoor.Fix
