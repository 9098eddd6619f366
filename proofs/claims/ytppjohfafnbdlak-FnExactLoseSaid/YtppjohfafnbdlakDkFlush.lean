/-
  The walk of spec.l3Flush: all writes of a host land on a disk of the call's own, in order, or a refusal. No condition but three epochs, writes to sectors of the disk, and lengths of at most 2^19.
-/
import Derived.Test.YtppjohfafnbdlakDkFence
namespace Go.Proofs.Ytppjohfafnbdlak.Mem
open Go.RowKit
set_option linter.unusedVariables false

/-- The sectors behind the writes of a host that stand in l, landed in order. -/
def lands (s : List ByteArray) (l : List Wt) (h : Int) : List ByteArray := l.foldl (fun s x => if x.host = h then s.set x.sector.toNat x.text else s) s

theorem lands_length (s : List ByteArray) (l : List Wt) (h : Int) : (lands s l h).length = s.length := by
  unfold lands
  induction l generalizing s with
  | nil => rfl
  | cons x l ih =>
    rw [List.foldl_cons, ih]
    split
    · rw [List.length_set]
    · rfl
theorem lands_more (s : List ByteArray) (l : List Wt) (h : Int) (k : Nat) (hk : k < l.length) : lands s (l.take (k + 1)) h = if (l.getD k Wt.none).host = h then (lands s (l.take k) h).set (l.getD k Wt.none).sector.toNat (l.getD k Wt.none).text else lands s (l.take k) h := by
  unfold lands
  rw [take_more l k hk, List.foldl_append]
  rfl

/-- What Flush makes of a right disk. -/
def Dk.flush (D : Dk) (h e : Int) : Dk × Int :=
  if 0 ≤ h ∧ h < 3 then (if D.ep.getD h.toNat 0 = e then (⟨lands D.sec D.pe h, D.ep, others D.pe h⟩, 0) else (D, 2)) else (D, 1)

/-- A disk whose third list is another row, which lies behind the first two. -/
theorem DkO.third {w : World} {B z : Nat} {v1 v2 v3 v3' : Value} {D : Dk} {l : List Wt} (O : DkO w B (.agg #[v1, v2, v3]) D) (r : RowO w z 72 4 v3' l.length (wCells l)) (hz : B ≤ z) (far : ∀ b, rb v1 = some b ∨ rb v2 = some b → b < z) : DkO w B (.agg #[v1, v2, v3']) ⟨D.sec, D.ep, l⟩ := by
  obtain ⟨_, _, _, e, r1, r2, r3, f1, f2⟩ := O
  cases e
  refine ⟨v1, v2, v3', rfl, r1, r2, r.mono hz, fun b h => ⟨(f1 b h).1, fun h3 => ?_⟩, fun b h h3 => ?_⟩
  · have := far b (Or.inl h); have := (r.lt h3).1; omega
  · have := far b (Or.inr h); have := (r.lt h3).1; omega

end Go.Proofs.Ytppjohfafnbdlak.Mem
