/-
  Plain: cells stored one behind the other. No condition.
-/
import Derived.Test.YtaopkchkhdbfnaaGreatDoorMem
namespace Go.Proofs.YtaopkchkhdbfnaaGreatDoor.Pl
open Go.RowKit Go.Proofs.YtaopkchkhdbfnaaGreatDoor.Mem
set_option linter.unusedVariables false

/-- Cells stored one behind the other. -/
def puts (w : World) (g : Nat) : Nat → List Value → World
  | _, [] => w
  | i, v :: vs => puts (w.setCell ⟨g, i, none⟩ v) g (i + 1) vs

def listed (xs : List Value) : Nat → List Value → List Value
  | _, [] => xs
  | i, v :: vs => listed (xs.set i v) (i + 1) vs

theorem puts_row {w : World} {g : Nat} {xs : List Value} (h : Row w g xs) (i : Nat) (vs : List Value) : Row (puts w g i vs) g (listed xs i vs) := by
  induction vs generalizing w xs i with
  | nil => exact h
  | cons v vs ih => exact ih (h.set i v) (i + 1)

theorem puts_other {w : World} {g b : Nat} {xs : List Value} (h : Row w b xs) (hb : b ≠ g) (i : Nat) (vs : List Value) : Row (puts w g i vs) b xs := by
  induction vs generalizing w i with
  | nil => exact h
  | cons v vs ih => exact ih (h.other (p := ⟨g, i, none⟩) hb v) (i + 1)

theorem puts_kept (w : World) (g i : Nat) (vs : List Value) : Kept (fun b => b = g) w (puts w g i vs) := by
  induction vs generalizing w i with
  | nil => exact Kept.refl _ _
  | cons v vs ih => exact ((kept_set w g i v).trans (ih (w.setCell ⟨g, i, none⟩ v) (i + 1))).mono (fun b _ h => by rcases h with h | h <;> exact h)

theorem puts_below {B : Nat} {w w' : World} {g : Nat} (h : Below B w w') (hg : B ≤ g) (i : Nat) (vs : List Value) : Below B w (puts w' g i vs) := by
  induction vs generalizing w' i with
  | nil => exact h
  | cons v vs ih => exact ih (below_set h g i v hg) (i + 1)

theorem puts_size (w : World) (g i : Nat) (vs : List Value) : (puts w g i vs).heap.size = w.heap.size := by
  induction vs generalizing w i with
  | nil => rfl
  | cons v vs ih => rw [puts, ih]; simp

theorem three_news (w : World) (xs ys zs : List Value) (t u : TypeId) :
    ∃ wc, ((w.alloc (.cells xs.toArray t)).alloc (.cells ys.toArray u)).alloc (.cells zs.toArray u) = wc ∧ wc.heap.size = w.heap.size + 1 + 1 + 1 ∧
      Row wc w.heap.size xs ∧ Row wc (w.heap.size + 1) ys ∧ Row wc (w.heap.size + 1 + 1) zs ∧ Below w.heap.size w wc := by
  have e0 : (w.alloc (.cells xs.toArray t)).heap.size = w.heap.size + 1 := by simp
  have e1 : ((w.alloc (.cells xs.toArray t)).alloc (.cells ys.toArray u)).heap.size = w.heap.size + 1 + 1 := by simp
  have r1 := Row.new (w.alloc (.cells xs.toArray t)) ys u
  have r2 := Row.new ((w.alloc (.cells xs.toArray t)).alloc (.cells ys.toArray u)) zs u
  rw [e0] at r1
  rw [e1] at r2
  exact ⟨_, rfl, by simp, ((Row.new w xs t).alloc _).alloc _, r1.alloc _, r2, (((Below.refl _ _).alloc (Nat.le_refl _) _).alloc (by omega) _).alloc (by omega) _⟩

end Go.Proofs.YtaopkchkhdbfnaaGreatDoor.Pl
