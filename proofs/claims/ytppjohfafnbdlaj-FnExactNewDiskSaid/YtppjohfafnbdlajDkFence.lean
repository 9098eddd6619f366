/-
  The walk of spec.l3Fence: a host's epoch is one more on a disk of the call's own, and its writes are gone, or a refusal. No condition but three epochs and lengths of at most 2^19.
-/
import Derived.Test.YtppjohfafnbdlajDkLand
namespace Go.Proofs.Ytppjohfafnbdlaj.Mem
open Go.RowKit
set_option linter.unusedVariables false

/-- The writes of other hosts. -/
def others (l : List Wt) (h : Int) : List Wt := l.filter (fun x => decide (x.host ≠ h))

theorem take_more (l : List Wt) (k : Nat) (h : k < l.length) : l.take (k + 1) = l.take k ++ [l.getD k Wt.none] := by
  rw [List.take_add_one, List.getElem?_eq_getElem h, List.getD_eq_getElem?_getD, List.getElem?_eq_getElem h]
  rfl
theorem others_no (l : List Wt) (h : Int) (k : Nat) (hk : k < l.length) (he : (l.getD k Wt.none).host = h) : others (l.take (k + 1)) h = others (l.take k) h := by
  unfold others
  rw [take_more l k hk, List.filter_append]
  generalize l.getD k Wt.none = y at he ⊢
  simp [he]
theorem others_yes (l : List Wt) (h : Int) (k : Nat) (hk : k < l.length) (he : ¬ (l.getD k Wt.none).host = h) : others (l.take (k + 1)) h = others (l.take k) h ++ [l.getD k Wt.none] := by
  unfold others
  rw [take_more l k hk, List.filter_append]
  generalize l.getD k Wt.none = y at he ⊢
  simp [he]
theorem others_le (l : List Wt) (h : Int) (k : Nat) : (others (l.take k) h).length ≤ l.length := by
  unfold others
  exact Nat.le_trans (List.length_filter_le _ _) (by rw [List.length_take]; omega)

/-- What Fence makes of a right disk. -/
def Dk.fence (D : Dk) (h : Int) : Dk × Bool :=
  if (0 ≤ h ∧ h < 3) ∧ D.ep.getD h.toNat 0 < 100000 then (⟨D.sec, D.ep.set h.toNat (D.ep.getD h.toNat 0 + 1), others D.pe h⟩, true) else (D, false)

theorem iCells_set (l : List Int) (i : Nat) (z : Int) : iCells (l.set i z) = (iCells l).set i (.int .i64 z) := by unfold iCells; rw [List.map_set]

/-- An epoch of a disk of the call's own is stored. -/
theorem DkO.setEp {w : World} {B : Nat} {v1 v3 : Value} {g n cap i : Nat} {D : Dk} (O : DkO w B (.agg #[v1, .slice (some ⟨g, 0, none⟩) n (cap + 1), v3]) D) (hi : i < D.ep.length) (z : Int) :
    DkO (w.setCell ⟨g, i, none⟩ (.int .i64 z)) B (.agg #[v1, .slice (some ⟨g, 0, none⟩) n (cap + 1), v3]) ⟨D.sec, D.ep.set i z, D.pe⟩ := by
  obtain ⟨_, _, _, e, r1, r2, r3, f1, f2⟩ := O
  cases e
  have hn : n = D.ep.length := by
    obtain ⟨_, _, e, _⟩ := r2.wr
    cases e; rfl
  subst hn
  refine ⟨_, _, _, rfl, r1.kept (kept_set w g i _) (fun b hb e => ?_), ?_, r3.kept (kept_set w g i _) (fun b hb e => ?_), f1, f2⟩
  · subst e; exact (f1 b hb).1 rfl
  · have h := r2.set i (by omega) (.int .i64 z)
    rw [← iCells_set] at h
    show RowO _ _ _ _ _ (D.ep.set i z).length _
    rw [List.length_set]
    exact h
  · subst e; exact f2 b rfl hb

end Go.Proofs.Ytppjohfafnbdlaj.Mem
