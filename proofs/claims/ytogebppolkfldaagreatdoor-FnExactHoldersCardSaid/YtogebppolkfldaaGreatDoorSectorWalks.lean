/-
  The walks of spec.SectorOf and impl.SectorOf: both give a sector's place, -1 where there is none. Condition: the table of the kinds' sizes holds what the program's text lays.
-/
import Derived.Test.YtogebppolkfldaaGreatDoorRows
import Derived.WalkKit
import Derived.WalkSpells
import Derived.WalkLawsBesides
import Derived.Test.YtogebppolkfldaaGreatDoorMem
namespace Go.Proofs.YtogebppolkfldaaGreatDoor.Sector
open Go.RowKit Go.Proofs.YtogebppolkfldaaGreatDoor.Mem
set_option linter.unusedVariables false

def many : List Int := [3, 3, 3, 4, 3, 18]
def S (k : Nat) : Int := (many.take k).sum
def sectorOf (kind i : Int) : Int := if (0 ≤ kind ∧ kind < 6) ∧ 0 ≤ i ∧ i < many.getD kind.toNat 0 then i + S kind.toNat else -1

theorem S_succ : ∀ k, k < 6 → S (k + 1) = S k + many.getD k 0 := by decide
theorem S_bd : ∀ k, k < 7 → 0 ≤ S k ∧ S k ≤ 34 := by decide
theorem many_bd : ∀ k, k < 6 → 3 ≤ many.getD k 0 ∧ many.getD k 0 ≤ 18 := by decide

theorem no1 (kind i : Int) (h : ¬ (0 ≤ kind ∧ kind < 6)) : sectorOf kind i = -1 := if_neg (fun x => h x.1)
theorem no2 (kind i : Int) (h : ¬ 0 ≤ i) : sectorOf kind i = -1 := if_neg (fun x => h x.2.1)
theorem no3 (k : Nat) (i : Int) (h : ¬ i < many.getD k 0) : sectorOf k i = -1 := if_neg (fun x => h (by simpa using x.2.2))
theorem yes (k : Nat) (i : Int) (hk : (k : Int) < 6) (h0 : 0 ≤ i) (h : i < many.getD k 0) : sectorOf k i = i + S k := by
  unfold sectorOf
  rw [if_pos ⟨⟨by omega, hk⟩, h0, by simpa using h⟩]; rfl

/-- What the table of the kinds' sizes holds, in world w. -/
def Kinds (w : World) : Prop := ∀ k, k < 6 → w.cell? ⟨0, k, none⟩ = some (.int .i64 (many.getD k 0))

set_option maxRecDepth 100000 in
set_option maxHeartbeats 1000000 in
theorem impl_sector (kind i : Int) (w : World) (T : Kinds w) :
    Calls Tryz.prog 59 #[.int .i64 kind, .int .i64 i] w fun e w' => e = .returned (.int .i64 (sectorOf kind i)) ∧ w' = w := by
  by_cases h1 : kind < 0
  · rw [no1 kind i (by omega)]
    go_enter Tryz.func59, Tryz.ntmps59
    go_wp2
    go_ret
    exact ⟨rfl, rfl⟩
  by_cases h2 : 6 ≤ kind
  · rw [no1 kind i (by omega)]
    go_enter Tryz.func59, Tryz.ntmps59
    go_wp2
    go_ret
    exact ⟨rfl, rfl⟩
  obtain ⟨n, rfl⟩ : ∃ n : Nat, kind = (n : Int) := Int.eq_ofNat_of_zero_le (by omega)
  have hn : (n : Int) < 6 := by omega
  clear h1 h2
  by_cases h3 : i < 0
  · rw [no2 n i (by omega)]
    go_enter Tryz.func59, Tryz.ntmps59
    go_wp2
    go_ret
    exact ⟨rfl, rfl⟩
  have hc := T n (by omega)
  have hb := many_bd n (by omega)
  by_cases h4 : i < many.getD n 0
  · rw [yes n i hn (by omega) h4]
    have HT := hid T
    generalize many.getD n 0 = m at *
    have hS0 : S 0 = 0 := rfl
    have H0 := hid hS0
    clear T hS0
    go_enter Tryz.func59, Tryz.ntmps59
    go_wp2
    go_loop [5, 26] (fun p j => ∃ k : Nat, k ≤ n ∧ j = .int .i64 (k : Int) ∧ p = .int .i64 (i + S k)) (fun _ j => n - (intOf j).toNat)
    case atStart => exact ⟨0, Nat.zero_le _, rfl, by rw [H0.out]; simp⟩
    case round =>
      obtain ⟨k, hk, rfl, rfl⟩ := hrel
      by_cases hlt : k < n
      · have hck := HT.out k (by omega)
        have HS := hid (S_succ k (by omega))
        have hbk := many_bd k (by omega)
        have hsk := S_bd k (by omega)
        have hk6 : (k : Int) < 6 := by omega
        generalize many.getD k 0 = y at *
        generalize S k = z at *
        go_wp2
        go_round
        case rel => exact ⟨k + 1, by omega, by go_num, by rw [HS.out]; go_num⟩
        case measure => simp [intOf]; omega
      · obtain rfl : k = n := by omega
        go_wp2
        go_ret
        exact ⟨rfl, rfl⟩
  · rw [no3 n i h4]
    generalize many.getD n 0 = m at *
    clear T
    go_enter Tryz.func59, Tryz.ntmps59
    go_wp2
    go_ret
    exact ⟨rfl, rfl⟩

set_option maxHeartbeats 400000 in
theorem l1In (x lo hi : Int) (w : World) :
    Calls Tryz.prog 42 #[.int .i64 x, .int .i64 lo, .int .i64 hi] w fun e w' => e = .returned (.bool (decide (lo ≤ x ∧ x ≤ hi))) ∧ w' = w := by
  by_cases h1 : lo ≤ x
  · by_cases h2 : x ≤ hi
    · rw [decide_eq_true (And.intro h1 h2)]
      go_enter Tryz.func42, Tryz.ntmps42
      go_wp2
      go_ret
      exact ⟨rfl, rfl⟩
    · rw [decide_eq_false (fun h => h2 h.2)]
      go_enter Tryz.func42, Tryz.ntmps42
      go_wp2
      go_ret
      exact ⟨rfl, rfl⟩
  · rw [decide_eq_false (fun h => h1 h.1)]
    go_enter Tryz.func42, Tryz.ntmps42
    go_wp2
    go_ret
    exact ⟨rfl, rfl⟩

theorem six (w : World) : ∃ wa, w.alloc (.cells #[.int .i64 3, .int .i64 3, .int .i64 3, .int .i64 4, .int .i64 3, .int .i64 18] 3) = wa ∧ Below w.heap.size w wa ∧ ∀ k, k < 6 → wa.cell? ⟨w.heap.size, k, none⟩ = some (.int .i64 (many.getD k 0)) := by
  refine ⟨_, rfl, (Below.refl _ _).alloc (Nat.le_refl _) _, fun k hk => ?_⟩
  rw [cell_of_row _ w.heap.size k _ _ (0, 0) (heap_alloc_new w _)]
  have : k = 0 ∨ k = 1 ∨ k = 2 ∨ k = 3 ∨ k = 4 ∨ k = 5 := by omega
  rcases this with rfl | rfl | rfl | rfl | rfl | rfl <;> rfl

set_option maxRecDepth 100000 in
set_option maxHeartbeats 1000000 in
theorem spec_sector (kind i : Int) (w : World) :
    Calls Tryz.prog 15 #[.int .i64 kind, .int .i64 i] w fun e w' => e = .returned (.int .i64 (sectorOf kind i)) ∧ Below w.heap.size w w' := by
  obtain ⟨wa, hwa, hB, T⟩ := six w
  have HB := hid hB
  clear hB
  by_cases h1 : ¬ (0 ≤ kind ∧ kind ≤ 5)
  · rw [no1 kind i (by omega)]
    have h1' := decide_eq_false h1
    clear h1
    go_enter Tryz.func15, Tryz.ntmps15
    go_wp2_with (go_at_call 42; refine (l1In _ _ _ _).mono ?_; rintro e w' ⟨rfl, hw⟩; subst hw)
    go_ret
    exact ⟨rfl, HB.out⟩
  replace h1 := Classical.not_not.mp h1
  have h1' := decide_eq_true h1
  obtain ⟨n, rfl⟩ : ∃ n : Nat, kind = (n : Int) := Int.eq_ofNat_of_zero_le (by omega)
  have hn : (n : Int) < 6 := by omega
  clear h1
  by_cases h3 : i < 0
  · rw [no2 n i (by omega)]
    go_enter Tryz.func15, Tryz.ntmps15
    go_wp2_with (go_at_call 42; refine (l1In _ _ _ _).mono ?_; rintro e w' ⟨rfl, hw⟩; subst hw)
    go_ret
    exact ⟨rfl, HB.out⟩
  have hc := T n (by omega)
  have hb := many_bd n (by omega)
  by_cases h4 : i < many.getD n 0
  · rw [yes n i hn (by omega) h4]
    have HT := hid T
    generalize many.getD n 0 = m at *
    have hS0 : S 0 = 0 := rfl
    have H0 := hid hS0
    clear T hS0
    go_enter Tryz.func15, Tryz.ntmps15
    go_wp2_with (go_at_call 42; refine (l1In _ _ _ _).mono ?_; rintro e w' ⟨rfl, hw⟩; subst hw)
    clear hwa
    go_loop [6, 7] (fun p j => ∃ k : Nat, k ≤ n ∧ j = .int .i64 (k : Int) ∧ p = .int .i64 (i + S k)) (fun _ j => n - (intOf j).toNat)
    case atStart => exact ⟨0, Nat.zero_le _, rfl, by rw [H0.out]; simp⟩
    case round =>
      obtain ⟨k, hk, rfl, rfl⟩ := hrel
      by_cases hlt : k < n
      · have hck := HT.out k (by omega)
        have HS := hid (S_succ k (by omega))
        have hbk := many_bd k (by omega)
        have hsk := S_bd k (by omega)
        have hk6 : (k : Int) < 6 := by omega
        generalize many.getD k 0 = y at *
        generalize S k = z at *
        go_wp2
        go_round
        case rel => exact ⟨k + 1, by omega, by go_num, by rw [HS.out]; go_num⟩
        case measure => simp [intOf]; omega
      · obtain rfl : k = n := by omega
        go_wp2
        go_ret
        exact ⟨rfl, HB.out⟩
  · rw [no3 n i h4]
    generalize many.getD n 0 = m at *
    clear T
    go_enter Tryz.func15, Tryz.ntmps15
    go_wp2_with (go_at_call 42; refine (l1In _ _ _ _).mono ?_; rintro e w' ⟨rfl, hw⟩; subst hw)
    go_ret
    exact ⟨rfl, HB.out⟩

end Go.Proofs.YtogebppolkfldaaGreatDoor.Sector
