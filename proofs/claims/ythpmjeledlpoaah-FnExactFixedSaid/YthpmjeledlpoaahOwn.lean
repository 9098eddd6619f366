/-
  Plain facts on a slice of bytes that a call owns: what its conversion to a text gives. No condition.
-/
import Derived.WalkKit
import Derived.Laws.BytesArg
namespace Go.Proofs.Ythpmjeledlpoaah.Own
open Go.RowKit

/-- A conversion of an owned row of bytes to a text. -/
theorem conv_own {P : Program} {w : World} {base g n cap : Nat} {l : List Int} (t : TypeId) (ht : P.underlying t = some (.slice 5)) (h5 : P.underlying 5 = some (.int .u8)) (h9 : P.underlying 9 = some .string)
    (h : w.ownsRow base 5 1 (.slice (some ⟨g, 0, none⟩) n cap) n (l.map (.int .u8))) (hl : l.length = n) :
    (convert t 9 (.slice (some ⟨g, 0, none⟩) n cap)).run P w = .ok (.string (strOfNums l)) w :=
  run_convert_bytes_arg w t 5 ht h5 g 0 n cap l hl (fun i hi => by
    have hi' : i < l.length := by omega
    rw [Nat.zero_add, h.cellAt i (by omega)]
    simp [List.getD, hi']) 9 h9

theorem ret_str {a b : ByteArray} (h : a = b) : Ending.returned (.string a) = .returned (.string b) := by rw [h]

end Go.Proofs.Ythpmjeledlpoaah.Own
