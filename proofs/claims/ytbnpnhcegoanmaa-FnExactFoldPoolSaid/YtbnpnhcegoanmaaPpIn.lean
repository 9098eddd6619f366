/-
  A pool that comes in as an argument: what it is in memory. No condition.
-/
import Derived.Test.YtbnpnhcegoanmaaPkIn
import Derived.Test.YtbnpnhcegoanmaaPpV
import Derived.Deep.Slices
namespace Go.Proofs.Ytbnpnhcegoanmaa.Pl
open Go.RowKit Go.ChangeShapes Go.WideShapes Go.ChangeAt Go.Joins Go.Deep
open Go.Proofs.Ytbnpnhcegoanmaa.Mem
set_option linter.unusedVariables false

variable {H : Type} {enc : TypeId × Value → H} {W : World} {base : Nat} {spare : Nat → Bool} {held : Bool}

theorem bools_in {fuel : Nat} {v : Value} {x : DataW H × List MemPlace} (h : DataW.trod enc Try.prog W base spare held fuel 64 [v] = some x) :
    ∃ a cap l, v = .slice a (l : List Bool).length cap ∧ Bls W a l ∧ l.length ≤ maxLen := by
  have c1 : Try.prog.cellsOf 4 = 1 := by kernel_rfl
  rcases open_slice Try.underlying64 h with ⟨hcs, _⟩ | ⟨a, len, cap, m, n, D, Pl, hcs, _, hl, hm, hmm, _, hx⟩
  · simp only [List.cons.injEq, and_true] at hcs
    exact ⟨none, 0, [], hcs, fun i hi => by simp at hi, by simp⟩
  · simp only [List.cons.injEq, and_true] at hcs
    have hlm : len ≤ m := by rw [hmm]; split <;> omega
    have each : ∀ i, ∃ y : Bool, i < len → W.cells? base (a.add (i * 1)) 1 = some [.bool y] := fun i => by
      by_cases hi : i < len
      · obtain ⟨cs', hc, ht⟩ := hx i (by omega)
        rw [c1] at hc
        obtain ⟨y, e, _⟩ := DataW.trod_bool Try.underlying4 ht
        exact ⟨y, fun _ => by rw [hc, e]⟩
      · exact ⟨false, fun h => absurd h hi⟩
    obtain ⟨Y, hY⟩ := Classical.axiomOfChoice each
    refine ⟨some a, cap, (List.range len).map Y, by rw [hcs]; simp, ?_, by simp; omega⟩
    unfold Bls
    rw [List.length_map, List.length_range]
    refine Pk.sl_of_add (fun i hi => ?_)
    have hc := (World.cells?_some (hY i hi)).2.2 0 (by omega)
    rw [Addr.add_add, show i * 1 + 0 = i by omega] at hc
    rw [hc]
    simp [List.getD, hi]

end Go.Proofs.Ytbnpnhcegoanmaa.Pl
