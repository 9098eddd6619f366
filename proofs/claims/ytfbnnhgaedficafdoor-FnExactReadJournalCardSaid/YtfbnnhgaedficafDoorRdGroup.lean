/-
  The walks of impl.groupParts, impl.readKind at a group's sector, and impl.ReadGroup. Condition: the table of sixteen sums and the error of a part that lacks stand in their variables.
-/
import Derived.Test.YtfbnnhgaedficafDoorRdNums
import Derived.Test.YtfbnnhgaedficafDoorRdHost
import Derived.Test.YtfbnnhgaedficafDoorSecGroup
import Derived.RegionTactic
import Derived.BigRegion
import Derived.Deep.RegionWith
import Derived.RegionDies
namespace Go.Proofs.YtfbnnhgaedficafDoor.Rd
open Go.RowKit Go.Proofs.YtfbnnhgaedficafDoor.Mem Go.Proofs.YtfbnnhgaedficafDoor.Sec
set_option linter.unusedVariables false

theorem Cur.drew {w : World} {c : Nat} {r : ByteArray} (h : Cur w c r) : Cur w.drew c r := h
theorem Lacks.drew {w : World} {u : TypeId} {pv : Value} (h : Lacks w u pv) : Lacks w.drew u pv := h
theorem kundrew {S : Nat → Prop} {w w' : World} (h : Kept S w.drew w') : Kept S w w' := ⟨h.os, h.tape, h.output, h.size, h.block⟩

/-- The numbers behind a lease: n of them from place i on. -/
theorem nums_split {R : ByteArray → Int × Nat} {s : ByteArray} {i : Nat} : ∀ {n : Nat} {x y : Int} {z : Nat}, nums R s i 2 = some ([x, y], z) → nums R s i (n + 2) = (nums R s z n).map (fun p => (x :: y :: p.1, p.2))
  | 0, x, y, z, h => by rw [h]; rfl
  | n + 1, x, y, z, h => by
    show nums R s i ((n + 2) + 1) = _
    conv => lhs; unfold nums
    rw [nums_split (n := n) h]
    conv => rhs; unfold nums
    cases nums R s z n with
    | none => rfl
    | some p =>
      simp only [Option.map_some, Option.bind_some]
      split <;> simp

end Go.Proofs.YtfbnnhgaedficafDoor.Rd
