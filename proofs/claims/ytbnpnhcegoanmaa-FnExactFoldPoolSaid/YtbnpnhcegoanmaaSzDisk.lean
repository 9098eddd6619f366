/-
  The walks of laws.szStringS, laws.szIntS, laws.szWrite, laws.szWriteS and laws.szDisk: where they leave a number that isn't below 0, all lengths are at most what was left. No condition but texts that Go can hold.
-/
import Derived.Test.YtbnpnhcegoanmaaToDisk
namespace Go.Proofs.Ytbnpnhcegoanmaa.Mem
open Go.RowKit
set_option linter.unusedVariables false

/-- What is left: a number below 0, or one not above what was, and all fits. -/
def FitS (r left : Int) (l : List ByteArray) : Prop := r < 0 ∨ (0 ≤ r ∧ r ≤ left ∧ (l.length : Int) ≤ left ∧ ∀ s ∈ l, (s.size : Int) ≤ left)
def FitN (r left : Int) (n : Nat) : Prop := r < 0 ∨ (0 ≤ r ∧ r ≤ left ∧ (n : Int) ≤ left)
def FitW (r left : Int) (l : List Wt) : Prop := r < 0 ∨ (0 ≤ r ∧ r ≤ left ∧ (l.length : Int) ≤ left ∧ ∀ s ∈ l, (s.text.size : Int) ≤ left)

/-- The sizes that Go can hold. -/
structure Dk.Held (D : Dk) : Prop where
  h1 : D.sec.length ≤ maxLen
  h2 : D.ep.length ≤ maxLen
  h3 : D.pe.length ≤ maxLen
  t1 : ∀ s ∈ D.sec, s.size ≤ maxLen
  t3 : ∀ x ∈ D.pe, x.text.size ≤ maxLen

/-- The sizes that the laws look at. -/
structure Dk.Small (D : Dk) (m : Int) : Prop where
  h1 : (D.sec.length : Int) ≤ m
  h2 : (D.ep.length : Int) ≤ m
  h3 : (D.pe.length : Int) ≤ m
  t1 : ∀ s ∈ D.sec, (s.size : Int) ≤ m
  t3 : ∀ x ∈ D.pe, (x.text.size : Int) ≤ m

def FitD (r left : Int) (D : Dk) : Prop := r < 0 ∨ (0 ≤ r ∧ r ≤ left ∧ D.Small left)

end Go.Proofs.Ytbnpnhcegoanmaa.Mem
