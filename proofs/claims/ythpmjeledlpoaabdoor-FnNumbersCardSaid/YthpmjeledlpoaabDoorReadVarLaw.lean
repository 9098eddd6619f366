/-
  The walk of laws.FnExactReadVar: at every text the law answers true, and nothing that was there is changed. No condition.
-/
import Derived.Test.YthpmjeledlpoaabDoorReadVarSpec
namespace Go.Proofs.YthpmjeledlpoaabDoor.Var
open Go.RowKit
set_option linter.unusedVariables false

/-- Among the first seven bytes there is a first one below 128, or none. -/
theorem first_low (s : ByteArray) : ∀ n : Nat, n ≤ s.size → (∃ m, m < n ∧ (∀ j, j < m → 128 ≤ (bl s).getD j 0) ∧ (bl s).getD m 0 < 128) ∨ (∀ j, j < n → 128 ≤ (bl s).getD j 0)
  | 0, _ => Or.inr (fun j h => by omega)
  | n + 1, h => by
    rcases first_low s n (by omega) with ⟨m, h1, h2, h3⟩ | h1
    · exact Or.inl ⟨m, by omega, h2, h3⟩
    · by_cases hn : (bl s).getD n 0 < 128
      · exact Or.inl ⟨n, by omega, h1, hn⟩
      · refine Or.inr (fun j hj => ?_)
        by_cases e : j = n
        · subst e; omega
        · exact h1 j (by omega)

end Go.Proofs.YthpmjeledlpoaabDoor.Var
