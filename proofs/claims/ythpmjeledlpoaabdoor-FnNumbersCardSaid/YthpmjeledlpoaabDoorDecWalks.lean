/-
  The walk of spec.Dec: it gives the decimal digits of n. No condition but that n is an int.
-/
import Derived.Test.YthpmjeledlpoaabDoorRows
import Derived.WalkKit
import Derived.WalkSpells
import Derived.WalkLawsBesides
import Derived.Outline
import Derived.Laws.BytesArg
import Derived.Test.YthpmjeledlpoaabDoorOwn
import Derived.Test.YthpmjeledlpoaabDoorDecNum
namespace Go.Proofs.YthpmjeledlpoaabDoor.Dec
open Go.RowKit
open Go.Proofs.YthpmjeledlpoaabDoor.Var (bl bl_length bl_getD bl_bd bl_inj bl_str)
set_option linter.unusedVariables false

/-- Behind some rounds: l is made, q is left. -/
def Inv (M : Nat) (l : List Int) (q f : Nat) : Prop := q < 10 ^ f ∧ l.length + f = 20 ∧ ddF f q ++ l = ddF 20 M

theorem inv_start (M : Nat) (h : M < 100000000000000000000) : Inv M [] M 20 := ⟨by show M < 100000000000000000000; exact h, rfl, by simp⟩

theorem inv_more {M : Nat} {l : List Int} {q f : Nat} (h : Inv M l q f) (hq : q ≠ 0) : ∃ g, f = g + 1 ∧ Inv M ((48 + (q : Int) % 10) :: l) (q / 10) g := by
  obtain ⟨h1, h2, h3⟩ := h
  cases f with
  | zero => simp at h1; omega
  | succ g =>
    refine ⟨g, rfl, by rw [Nat.pow_succ] at h1; omega, by simp; omega, ?_⟩
    rw [ddF_pos g q hq] at h3
    rw [← h3]; simp

theorem inv_end {M : Nat} {l : List Int} {f : Nat} (h : Inv M l 0 f) : l = ddF 20 M := by
  have := h.2.2
  rw [ddF_zero] at this
  exact this

theorem inv_len {M : Nat} {l : List Int} {q f : Nat} (h : Inv M l q f) : l.length ≤ 20 := by have := h.2.1; omega

theorem str_cons (x : Int) (l : List Int) : strOfNums [x] ++ strOfNums l = strOfNums (x :: l) := by
  apply ByteArray.ext
  simp [strOfNums, ByteArray.data_append]

theorem str_one (x : Int) : (strOfNums [x]).size = 1 := rfl

end Go.Proofs.YthpmjeledlpoaabDoor.Dec
