/-
  Plain facts on a number seven bits to a byte, the lowest first. No condition.
-/
import Derived.WalkKit
import Derived.Laws.BytesArg
namespace Go.Proofs.YtogebppolkfldaaGreatDoor.Var

/-- The bytes of q, at most f of them. -/
def varL : Nat → Int → List Int
  | 0, _ => []
  | f + 1, q => if 128 ≤ q then (128 + q % 128) :: varL f (q / 128) else [q]

theorem varL_more (f : Nat) (q : Int) (h : 128 ≤ q) : varL (f + 1) q = (128 + q % 128) :: varL f (q / 128) := by rw [varL, if_pos h]
theorem varL_last (f : Nat) (q : Int) (h : q < 128) : varL (f + 1) q = [q] := by rw [varL, if_neg (by omega)]

/-- What Var makes of a number in its bounds. -/
def varS (N : Int) : ByteArray := strOfNums (varL 7 N)

/-- Behind some rounds: l is made, q is left, f bytes may follow. -/
def Inv (N : Int) (l : List Int) (q : Int) (f : Nat) : Prop := 0 ≤ q ∧ q < 128 ^ (f + 1) ∧ l.length + f = 6 ∧ l ++ varL (f + 1) q = varL 7 N

theorem inv_start (N : Int) (h0 : 0 ≤ N) (h1 : N ≤ 562949953421311) : Inv N [] N 6 := ⟨h0, by show N < 562949953421312; omega, rfl, rfl⟩

theorem inv_more {N : Int} {l : List Int} {q : Int} {f : Nat} (h : Inv N l q f) (hq : 128 ≤ q) : ∃ g, f = g + 1 ∧ Inv N (l ++ [128 + q % 128]) (q / 128) g := by
  obtain ⟨h0, h1, h2, h3⟩ := h
  cases f with
  | zero => simp at h1; omega
  | succ g =>
    refine ⟨g, rfl, by omega, ?_, by simp; omega, ?_⟩
    · rw [Int.pow_succ] at h1; omega
    · rw [varL_more _ _ hq] at h3
      rw [List.append_assoc]; exact h3

theorem inv_last {N : Int} {l : List Int} {q : Int} {f : Nat} (h : Inv N l q f) (hq : q < 128) : strOfNums (l ++ [q]) = varS N := by
  obtain ⟨_, _, _, h3⟩ := h
  rw [varL_last _ _ hq] at h3
  rw [h3]; rfl

theorem inv_len {N : Int} {l : List Int} {q : Int} {f : Nat} (h : Inv N l q f) : l.length ≤ 6 := by have := h.2.2.1; omega

theorem inv_q {N : Int} {l : List Int} {q : Int} {f : Nat} (h : Inv N l q f) : 0 ≤ q ∧ q ≤ 562949953421311 := by
  obtain ⟨h0, h1, h2, _⟩ := h
  refine ⟨h0, ?_⟩
  have : (128 : Int) ^ (f + 1) ≤ 562949953421312 := by
    have : f = 0 ∨ f = 1 ∨ f = 2 ∨ f = 3 ∨ f = 4 ∨ f = 5 ∨ f = 6 := by omega
    rcases this with rfl | rfl | rfl | rfl | rfl | rfl | rfl <;> decide
  omega

end Go.Proofs.YtogebppolkfldaaGreatDoor.Var
