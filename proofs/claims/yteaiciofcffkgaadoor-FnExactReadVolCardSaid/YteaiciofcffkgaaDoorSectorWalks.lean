/-
  The walks of spec.SectorOf and impl.SectorOf: both give a sector's place, -1 where there is none. Condition: the table of the kinds' sizes holds what the program's text lays.
-/
import Derived.Test.YteaiciofcffkgaaDoorRows
import Derived.WalkKit
import Derived.WalkSpells
import Derived.WalkLawsBesides
import Derived.Test.YteaiciofcffkgaaDoorMem
namespace Go.Proofs.YteaiciofcffkgaaDoor.Sector
open Go.RowKit Go.Proofs.YteaiciofcffkgaaDoor.Mem
set_option linter.unusedVariables false

def many : List Int := [3, 3, 3, 4, 3, 18]
def S (k : Nat) : Int := (many.take k).sum
def sectorOf (kind i : Int) : Int := if (0 ≤ kind ∧ kind < 6) ∧ 0 ≤ i ∧ i < many.getD kind.toNat 0 then i + S kind.toNat else -1

theorem S_succ : ∀ k, k < 6 → S (k + 1) = S k + many.getD k 0 := by decide
theorem S_bd : ∀ k, k < 7 → 0 ≤ S k ∧ S k ≤ 34 := by decide
theorem many_bd : ∀ k, k < 6 → 3 ≤ many.getD k 0 ∧ many.getD k 0 ≤ 18 := by decide

theorem no1 (kind i : Int) (h : ¬ (0 ≤ kind ∧ kind < 6)) : sectorOf kind i = -1 := if_neg (fun x => h x.1)
theorem no2 (kind i : Int) (h : ¬ 0 ≤ i) : sectorOf kind i = -1 := if_neg (fun x => h x.2.1)
theorem no3 (k : Nat) (i : Int) (h : ¬ i < many.getD k 0) : sectorOf k i = -1 := if_neg (fun x => h (by simpa using x.2.2))
theorem yes (k : Nat) (i : Int) (hk : (k : Int) < 6) (h0 : 0 ≤ i) (h : i < many.getD k 0) : sectorOf k i = i + S k := by
  unfold sectorOf
  rw [if_pos ⟨⟨by omega, hk⟩, h0, by simpa using h⟩]; rfl

set_option maxHeartbeats 400000 in
theorem l1In (x lo hi : Int) (w : World) :
    Calls Tryd.prog 36 #[.int .i64 x, .int .i64 lo, .int .i64 hi] w fun e w' => e = .returned (.bool (decide (lo ≤ x ∧ x ≤ hi))) ∧ w' = w := by
  by_cases h1 : lo ≤ x
  · by_cases h2 : x ≤ hi
    · rw [decide_eq_true (And.intro h1 h2)]
      go_enter Tryd.func36, Tryd.ntmps36
      go_wp2
      go_ret
      exact ⟨rfl, rfl⟩
    · rw [decide_eq_false (fun h => h2 h.2)]
      go_enter Tryd.func36, Tryd.ntmps36
      go_wp2
      go_ret
      exact ⟨rfl, rfl⟩
  · rw [decide_eq_false (fun h => h1 h.1)]
    go_enter Tryd.func36, Tryd.ntmps36
    go_wp2
    go_ret
    exact ⟨rfl, rfl⟩

theorem six (w : World) : ∃ wa, w.alloc (.cells #[.int .i64 3, .int .i64 3, .int .i64 3, .int .i64 4, .int .i64 3, .int .i64 18] 3) = wa ∧ Below w.heap.size w wa ∧ ∀ k, k < 6 → wa.cell? ⟨w.heap.size, k, none⟩ = some (.int .i64 (many.getD k 0)) := by
  refine ⟨_, rfl, (Below.refl _ _).alloc (Nat.le_refl _) _, fun k hk => ?_⟩
  rw [cell_of_row _ w.heap.size k _ _ (0, 0) (heap_alloc_new w _)]
  have : k = 0 ∨ k = 1 ∨ k = 2 ∨ k = 3 ∨ k = 4 ∨ k = 5 := by omega
  rcases this with rfl | rfl | rfl | rfl | rfl | rfl <;> rfl

end Go.Proofs.YteaiciofcffkgaaDoor.Sector
