/-
  The walk of impl.Fixed where the number fits.
-/
import Derived.Test.YtogebppolkfldaaGreatDoorFixedWalks
import Derived.Test.YtogebppolkfldaaGreatDoorOwn
namespace Go.Proofs.YtogebppolkfldaaGreatDoor.Fix
open Go.RowKit
set_option linter.unusedVariables false
theorem info5 : (Tryz.prog.info? 5).map (fun i => (i.zero, i.size, i.bytes)) = some (some (.int .u8 0), 1, 1) := by kernel_rfl

set_option maxRecDepth 100000 in
set_option maxHeartbeats 1000000 in
theorem impl_fits (N : Int) (n : Nat) (w : World) (h1 : 1 ≤ (n : Int)) (h7 : (n : Int) ≤ 7) (hN : 0 ≤ N) (hM : N ≤ 9223372036854775807) (hg : ¬ 0 < N / 256 ^ n) :
    Calls Tryz.prog 157 #[.int .i64 N, .int .i64 n] w fun e w' => e = .returned (.string (fxS N n)) ∧ Below w.heap.size w w' := by
  have ht : (N / 2 ^ (8 * n) != 0) = false := by
    have := (div_bd N n hN hM).1
    rw [pow_pow]; simp; omega
  clear hg
  obtain ⟨i5, j1, j2, j3, j4⟩ := info_parts info5
  go_enter Tryz.func157, Tryz.ntmps157
  go_wp2_with (first | (at_make; refine wpList_make_full _ rfl _ _ 184 rfl w.heap.size 5 i5 (.int .u8 0) 1 Tryz.underlying184 j1 j2 j3 .i64 .i64 n n n rfl rfl rfl rfl ?b2 ?b3 ?b4 ?_) | go_in)
  case b2 => rw [j4]; omega
  case b3 => unfold maxLen; omega
  case b4 => omega
  intro w1 hown hgr
  have hbel1 : Below w.heap.size w w1 := (Below.refl _ _).grown hgr (Nat.le_refl _) (by simp)
  rw [toList_madeCells_one, ← rowL_zero N n] at hown
  clear hgr ht
  go_wp2
  go_loopw [24] (fun i wr => ∃ k : Nat, k ≤ n ∧ i = .int .i64 k ∧ wr.ownsRow w.heap.size 5 1 (.slice (some ⟨w.heap.size, 0, none⟩) n n) n (rowL N n k) ∧ Below w.heap.size w wr) (fun i _ => n - (intOf i).toNat)
  case atStart => exact ⟨0, Nat.zero_le _, rfl, hown, hbel1⟩
  case round =>
    clear hown hbel1
    obtain ⟨k, hk, rfl, hown, hbel⟩ := hrel
    by_cases hlt : k < n
    · have hq := div_bd N k hN hM
      have hc := hown.cellAt (n - 1 - k) (by omega)
      have hf := hown.frozenAt (n - 1 - k)
      rw [List.getElem?_eq_getElem (by rw [rowL_length N n k hk]; omega)] at hc
      go_wp2
      exact ⟨⟨k + 1, by omega, by go_num, by rw [pow_pow, ← rowL_succ N n k hlt]; exact (hown.stored _ _).1, hbel.setCell (Nat.le_refl _) _⟩, by simp [intOf]; omega⟩
    · obtain rfl : k = n := by omega
      rw [rowL_end] at hown
      have hcv := Own.conv_own 184 Tryz.underlying184 Tryz.underlying5 Tryz.underlying9 hown (fxL_length N k)
      go_wp2
      go_ret
      exact ⟨rfl, hbel⟩

end Go.Proofs.YtogebppolkfldaaGreatDoor.Fix
