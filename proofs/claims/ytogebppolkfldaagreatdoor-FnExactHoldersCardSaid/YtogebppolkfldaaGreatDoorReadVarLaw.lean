/-
  The walk of laws.FnExactReadVar: at every text the law answers true, and nothing that was there is changed. No condition.
-/
import Derived.Test.YtogebppolkfldaaGreatDoorReadVarSpec
namespace Go.Proofs.YtogebppolkfldaaGreatDoor.Var
open Go.RowKit
set_option linter.unusedVariables false

/-- Among the first seven bytes there is a first one below 128, or none. -/
theorem first_low (s : ByteArray) : ∀ n : Nat, n ≤ s.size → (∃ m, m < n ∧ (∀ j, j < m → 128 ≤ (bl s).getD j 0) ∧ (bl s).getD m 0 < 128) ∨ (∀ j, j < n → 128 ≤ (bl s).getD j 0)
  | 0, _ => Or.inr (fun j h => by omega)
  | n + 1, h => by
    rcases first_low s n (by omega) with ⟨m, h1, h2, h3⟩ | h1
    · exact Or.inl ⟨m, by omega, h2, h3⟩
    · by_cases hn : (bl s).getD n 0 < 128
      · exact Or.inl ⟨n, by omega, h1, hn⟩
      · refine Or.inr (fun j hj => ?_)
        by_cases e : j = n
        · subst e; omega
        · exact h1 j (by omega)

/-- The two walks in one: one value for both. -/
theorem both (s : ByteArray) (hs : s.size ≤ maxLen) : ∃ x k : Int, (∀ w : World, Calls Tryz.prog 78 #[.string s] w fun e w' => e = .returned (.tuple #[.int .i64 x, .int .i64 k]) ∧ Below w.heap.size w w') ∧
    (∀ w : World, Calls Tryz.prog 175 #[.string s] w fun e w' => e = .returned (.tuple #[.int .i64 x, .int .i64 k]) ∧ w' = w) := by
  rcases first_low s (min 7 s.size) (by omega) with ⟨m, h1, h2, h3⟩ | h1
  · by_cases hz : m = 0 ∨ (bl s).getD m 0 ≠ 0
    · refine ⟨_, _, fun w => spec_hit s m w hs (by omega) (by omega) (hit_of s m (by omega) (by omega) h2 h3 hz) ?_, fun w => impl_read s m w hs (by omega) (by omega) h2 h3 hz⟩
      intro k hk1 hkm hh
      obtain ⟨j, rfl, _, g2, _⟩ := hit_shape s k (by omega) (by omega) hh
      have := h2 j (by omega)
      omega
    · have hm : m ≠ 0 := fun e => hz (Or.inl e)
      have hb : (bl s).getD m 0 = 0 := by
        by_cases e : (bl s).getD m 0 = 0
        · exact e
        · exact absurd (Or.inr e) hz
      refine ⟨0, 0, fun w => spec_none s w hs ?_, fun w => impl_cut s m w hs (by omega) (by omega) h2 hb hm⟩
      intro k hk1 hk7 hks hh
      obtain ⟨j, rfl, g1, g2, g3⟩ := hit_shape s k hks hk7 hh
      by_cases hj : j < m
      · have := h2 j hj; omega
      · by_cases e : j = m
        · subst e
          rcases g3 with g3 | g3
          · exact hm g3
          · exact g3 hb
        · have := g1 m (by omega); omega
  · refine ⟨0, 0, fun w => spec_none s w hs ?_, fun w => impl_none s w hs (fun j a b => h1 j (by omega))⟩
    intro k hk1 hk7 hks hh
    obtain ⟨j, rfl, _, g2, _⟩ := hit_shape s k hks hk7 hh
    have := h1 j (by omega)
    omega

end Go.Proofs.YtogebppolkfldaaGreatDoor.Var
