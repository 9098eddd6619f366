/-
  A log that comes in as an argument. No condition.
-/
import Derived.Test.YtbnpnhcegoanmaaEv3
namespace Go.Proofs.Ytbnpnhcegoanmaa.Pl
open Go.RowKit Go.ChangeShapes Go.WideShapes Go.ChangeAt Go.Joins Go.Deep
open Go.Proofs.Ytbnpnhcegoanmaa.Mem
set_option linter.unusedVariables false
variable {H : Type} {enc : TypeId × Value → H} {W : World} {base : Nat} {spare : Nat → Bool} {held : Bool}

set_option maxRecDepth 100000 in
theorem evs_arg {v : Value} {d : DataW H} {p : List MemPlace} {r : Reach} {b0 : Nat} (hv : Value.okWide Try.prog W r b0 22 v) (h : DataW.Trod enc Try.prog W base spare held 22 v d p) :
    ∃ a cap l, v = .slice a (l : List Ev).length cap ∧ Evs W a l ∧ l.length ≤ maxLen ∧ ∀ y ∈ l, y.s.size ≤ maxLen := by
  obtain ⟨fuel, hf⟩ := h
  obtain ⟨a, len, cap, rfl⟩ := okWide_slice Try.underlying22 hv
  exact evs_in hf

end Go.Proofs.Ytbnpnhcegoanmaa.Pl
