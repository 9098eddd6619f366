/-
  The walk of spec.l3Swap: a sector of a disk of the call's own is another text, at once, or a refusal. No condition but three epochs and lengths of at most 2^19.
-/
import Derived.Test.YtbnmcbbpbiofgaaDkPut
namespace Go.Proofs.Ytbnmcbbpbiofgaa.Mem
open Go.RowKit Classical
set_option linter.unusedVariables false

/-- A write of the host to the sector is under way. -/
def Dk.Under (D : Dk) (h s : Int) : Prop := ∃ j, j < D.pe.length ∧ (D.pe.getD j Wt.none).host = h ∧ (D.pe.getD j Wt.none).sector = s

/-- What Swap makes of a right disk. -/
def Dk.swap (D : Dk) (h e s : Int) (old t : ByteArray) : Dk × Int :=
  if ((0 ≤ h ∧ h < 3) ∧ 0 ≤ s ∧ s < (D.sec.length : Int)) ∧ (t.size : Int) ≤ 700 ∧ (old.size : Int) ≤ 700 then (if D.ep.getD h.toNat 0 = e then (if D.sec.getD s.toNat ByteArray.empty = old ∧ ¬ ∃ j, j < D.pe.length ∧ (D.pe.getD j Wt.none).host = h ∧ (D.pe.getD j Wt.none).sector = s then (⟨D.sec.set s.toNat t, D.ep, D.pe⟩, 0) else (D, 4)) else (D, 2)) else (D, 1)

/-- A cell of an owned row is stored. -/
theorem RowO.set {w : World} {B : Nat} {e : TypeId} {k : Nat} {g n cap : Nat} {xs : List Value} (h : RowO w B e k (.slice (some ⟨g, 0, none⟩) n cap) n xs) (i : Nat) (hi : i < n * k) (u : Value) :
    RowO (w.setCell ⟨g, i, none⟩ u) B e k (.slice (some ⟨g, 0, none⟩) n cap) n (xs.set i u) := by
  rcases h with ⟨_, _, rfl, _⟩ | ⟨h, hc⟩
  · omega
  · exact Or.inr ⟨(h.stored i u).1, hc⟩

theorem sCells_set (l : List ByteArray) (i : Nat) (t : ByteArray) : sCells (l.set i t) = (sCells l).set i (.string t) := by unfold sCells; rw [List.map_set]

/-- An owned row that isn't empty begins its block. -/
theorem RowO.form {w : World} {B : Nat} {e : TypeId} {k : Nat} {v : Value} {n : Nat} {xs : List Value} (h : RowO w B e k v n xs) (hn : 0 < n) : ∃ g c, v = .slice (some ⟨g, 0, none⟩) n (c + 1) := by
  rcases h with ⟨_, _, rfl, _⟩ | ⟨h, a, c, e⟩
  · omega
  · rcases h.2 with ⟨e', _⟩ | ⟨g, cap, cur, e', _⟩
    · rw [e] at e'; cases e'
    · rw [e] at e'
      cases e'
      exact ⟨g, c, e⟩

/-- A sector of a disk of the call's own is stored. -/
theorem DkO.setSec {w : World} {B : Nat} {v2 v3 : Value} {g n cap i : Nat} {D : Dk} (O : DkO w B (.agg #[.slice (some ⟨g, 0, none⟩) n (cap + 1), v2, v3]) D) (hi : i < D.sec.length) (t : ByteArray) :
    DkO (w.setCell ⟨g, i, none⟩ (.string t)) B (.agg #[.slice (some ⟨g, 0, none⟩) n (cap + 1), v2, v3]) ⟨D.sec.set i t, D.ep, D.pe⟩ := by
  obtain ⟨_, _, _, e, r1, r2, r3, f1, f2⟩ := O
  cases e
  have hn : n = D.sec.length := by
    obtain ⟨_, _, e, _⟩ := r1.wr
    cases e; rfl
  subst hn
  refine ⟨_, _, _, rfl, ?_, r2.kept (kept_set w g i _) (fun b hb e => ?_), r3.kept (kept_set w g i _) (fun b hb e => ?_), f1, f2⟩
  · have h := r1.set i (by omega) (.string t)
    rw [← sCells_set] at h
    show RowO _ _ _ _ _ (D.sec.set i t).length _
    rw [List.length_set]
    exact h
  · subst e; exact (f1 b rfl).1 hb
  · subst e; exact (f1 b rfl).2 hb

end Go.Proofs.Ytbnmcbbpbiofgaa.Mem
