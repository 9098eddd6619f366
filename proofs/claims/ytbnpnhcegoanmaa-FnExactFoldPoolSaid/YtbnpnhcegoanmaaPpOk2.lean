/-
  The walk of impl.ModelOk; spec.ReadOf and impl.ReadOf; the laws of ModelOk and ReadOf. No condition but lists of at most 2^20.
-/
import Derived.Test.YtbnpnhcegoanmaaPpIv
namespace Go.Proofs.Ytbnpnhcegoanmaa.Pl
open Go.RowKit Go.Proofs.Ytbnpnhcegoanmaa.Mem
set_option linter.unusedVariables false

theorem place_iv (on h : Bool) (t : ByteArray) : (!plBad on h t) = (ivPl h t && (on || decide (false = h ∧ ⟨#[]⟩ = t))) := by
  unfold plBad ivPl
  cases on <;> cases h <;> simp
  · by_cases ht : t = ⟨#[]⟩
    · subst ht; simp
    · simp [ht]
  · by_cases ht : t = ⟨#[]⟩
    · subst ht; simp
    · simp [ht]

theorem pv_iv {x : Pv} (h1 : x.hs.length = 4) (h2 : x.ts.length = 4) : x.ok = ivOk x.on x.h x.t := by
  have e : ∀ k, placeOk x k = (ivPl (x.h k) (x.t k) && (x.on || decide (false = x.h k ∧ ⟨#[]⟩ = x.t k))) := fun k => place_iv _ _ _
  unfold Pv.ok ivOk ivZ
  rw [decide_eq_true h1, decide_eq_true h2]
  simp only [show List.range 4 = [0, 1, 2, 3] from rfl, List.all_cons, List.all_nil, e]
  generalize ivPl (x.h 0) (x.t 0) = a0
  generalize ivPl (x.h 1) (x.t 1) = a1
  generalize ivPl (x.h 2) (x.t 2) = a2
  generalize ivPl (x.h 3) (x.t 3) = a3
  generalize decide (false = x.h 0 ∧ ⟨#[]⟩ = x.t 0) = b0
  generalize decide (false = x.h 1 ∧ ⟨#[]⟩ = x.t 1) = b1
  generalize decide (false = x.h 2 ∧ ⟨#[]⟩ = x.t 2) = b2
  generalize decide (false = x.h 3 ∧ ⟨#[]⟩ = x.t 3) = b3
  cases x.on <;> revert a0 a1 a2 a3 b0 b1 b2 b3 <;> decide

/-- What holds of a list and of one with the same data. -/
theorem upto_data {L M : List Pv} (h : L.map Pv.data = M.map Pv.data) (hl : L.length ≤ 1048576) (hu : ∀ x ∈ L, x.Upto 1048576) : M.length ≤ 1048576 ∧ ∀ x ∈ M, x.Upto 1048576 := by
  have hlm : L.length = M.length := by have := congrArg List.length h; simpa using this
  refine ⟨by omega, fun x hx => ?_⟩
  have h1 : x.data ∈ L.map Pv.data := by rw [h]; exact List.mem_map_of_mem hx
  obtain ⟨y, hy, e⟩ := List.mem_map.1 h1
  have h2 := hu y hy
  obtain ⟨a, b, c, d, e1, f, g⟩ := x
  obtain ⟨a', b', c', d', e1', f', g'⟩ := y
  simp only [Pv.data, Prod.mk.injEq] at e
  obtain ⟨rfl, rfl, rfl⟩ := e
  exact h2

theorem upto_max {L : List Pv} (h : ∀ x ∈ L, x.Upto 1048576) : ∀ x ∈ L, x.Upto maxLen := fun x hx => (h x hx).mono (by unfold maxLen; decide)
theorem len_max {n : Nat} (h : n ≤ 1048576) : n ≤ maxLen := Nat.le_trans h (by unfold maxLen; decide)

end Go.Proofs.Ytbnpnhcegoanmaa.Pl
