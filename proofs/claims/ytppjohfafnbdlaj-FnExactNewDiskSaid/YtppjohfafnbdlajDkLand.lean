/-
  The walk of spec.l3Land: one write under way lands on a disk of the call's own, or a refusal. No condition but writes to sectors of the disk and lengths of at most 2^19.
-/
import Derived.Test.YtppjohfafnbdlajDkWithout
namespace Go.Proofs.Ytppjohfafnbdlaj.Mem
open Go.RowKit Classical
set_option linter.unusedVariables false

/-- Write i may land: it is there, and none of the same host to the same sector stands ahead of it. -/
def Dk.CanLand (D : Dk) (i : Int) : Prop := 0 ≤ i ∧ i < (D.pe.length : Int) ∧ ∀ j, j < i.toNat → ¬ ((D.pe.getD j Wt.none).host = (D.pe.getD i.toNat Wt.none).host ∧ (D.pe.getD j Wt.none).sector = (D.pe.getD i.toNat Wt.none).sector)

/-- What Land makes of a right disk. -/
def Dk.land (D : Dk) (i : Int) : Dk × Bool :=
  if 0 ≤ i ∧ i < (D.pe.length : Int) ∧ ∀ j, j < i.toNat → ¬ ((D.pe.getD j Wt.none).host = (D.pe.getD i.toNat Wt.none).host ∧ (D.pe.getD j Wt.none).sector = (D.pe.getD i.toNat Wt.none).sector) then (⟨D.sec.set (D.pe.getD i.toNat Wt.none).sector.toNat (D.pe.getD i.toNat Wt.none).text, D.ep, D.pe.eraseIdx i.toNat⟩, true) else (D, false)

/-- A disk whose third list is another row that was laid behind. -/
theorem DkO.swapped {w w2 : World} {B : Nat} {v1 v2 v3 v3' : Value} {D : Dk} {l : List Wt} (O : DkO w B (.agg #[v1, v2, v3]) D) (b : Below w.heap.size w w2) (hB : B ≤ w.heap.size) (r : RowO w2 w.heap.size 51 4 v3' l.length (wCells l)) : DkO w2 B (.agg #[v1, v2, v3']) ⟨D.sec, D.ep, l⟩ := by
  have hlt := fun b hb => O.lt (b := b) hb
  obtain ⟨_, _, _, e, r1, r2, r3, f1, f2⟩ := O
  cases e
  refine ⟨v1, v2, v3', rfl, r1.below b, r2.below b, r.mono hB, fun b h => ⟨(f1 b h).1, fun h3 => ?_⟩, fun b h h3 => ?_⟩
  · have := (hlt b ⟨_, _, _, rfl, Or.inl h⟩).2; have := (r.lt h3).1; omega
  · have := (hlt b ⟨_, _, _, rfl, Or.inr (Or.inl h)⟩).2; have := (r.lt h3).1; omega

theorem RowO.cap {w : World} {B : Nat} {e : TypeId} {k : Nat} {a : Option Addr} {n c : Nat} {xs : List Value} (h : RowO w B e k (.slice a n c) n xs) : n ≤ c ∧ c ≤ maxLen := by
  rcases h with ⟨_, e, rfl, _⟩ | ⟨h, _⟩
  · cases e; exact ⟨Nat.le_refl _, Nat.zero_le _⟩
  · rcases h.2 with ⟨e, _⟩ | ⟨g, cap, cur, e, _, _, h1, h2, _⟩
    · cases e; exact ⟨Nat.le_refl _, Nat.zero_le _⟩
    · cases e; exact ⟨h1, h2⟩

/-- Where the blocks of a disk lie whose third list was laid behind. -/
theorem swapped_far {w w2 : World} {B n z : Nat} {v1 v2 v3 v3' : Value} {D : Dk} {k : Nat} {e : TypeId} {m : Nat} {xs : List Value} (O : DkO w B (.agg #[v1, v2, v3]) D) (hn : w.heap.size ≤ n) (r : RowO w2 z e k v3' m xs) (hz : n < z) :
    ∀ b, DkB (.agg #[v1, v2, v3']) b → b ≠ n := by
  rintro b ⟨_, _, _, e, hb⟩ rfl
  cases e
  rcases hb with hb | hb | hb
  · have := (O.lt ⟨_, _, _, rfl, Or.inl hb⟩).2; omega
  · have := (O.lt ⟨_, _, _, rfl, Or.inr (Or.inl hb)⟩).2; omega
  · have := (r.lt hb).1; omega

end Go.Proofs.Ytppjohfafnbdlaj.Mem
