/-
  DERIVED. GIVEN WITH THE SEED: THE CARDS: each row of YteaiciofcffkgaaDoorRows.lean that lists a variable, with what it lists TIED to the program's text (the seventh form; the later family's looks); each row that meets fmt, with fmt's text TOLD by the authors' own Lean function (tested against real Go, not proved from fmt's source: count such statements apart). THE CARD IS WHAT COUNTS. Prove the row's statement (the work); the ties are given (YteaiciofcffkgaaDoorTie.lean); close each card by the builder's one call (the guide's Derived/Test/ToyasCard.lean, 'card_holds'). Laid BY PROGRAM, IN A SANDBOX (cutbox-door.mjs). By AI agents, Wed Nov 11 2026. No macro, syntax, notation, axiom, sorry.
-/
import Derived.Test.YteaiciofcffkgaaDoorRows
import GoSem.ClaimSeven
namespace Go.Proofs.YteaiciofcffkgaaDoor
namespace Rows

/-- THE TIED CARD OF 'laws.FnExactReadVol'. -/
def fnExactReadVolCard : Claim7 := { stood := { row := fnExactReadVolRow, standIns := [], harness := (true, "310a650e66ea1e2a59f5f07ada8678c42ed92a15f4c00ed7fac5f5583752d4c3"), looks := false }, kinds := [], alts := [], laidByText := true, laidKinds := [.data, .sentinel], laidTests := true, laidLooks := .later }
def FnExactReadVolCardSaid : Prop := Claim7.holds Tryd.pinned (.plain (OpenSpec.ofChange fnExactReadVolSpec)) fnExactReadVolCard

/-- THE SECOND FORM's CARD OF 'laws.FnExactReadVol'. -/
def fnExactReadVolUptoCard : Claim7 := { stood := { row := fnExactReadVolUptoRow, standIns := [], harness := (true, "310a650e66ea1e2a59f5f07ada8678c42ed92a15f4c00ed7fac5f5583752d4c3"), looks := false }, kinds := [], alts := [], laidByText := true, laidKinds := [.data, .sentinel], laidTests := true, laidLooks := .later }
def FnExactReadVolUptoCardSaid : Prop := Claim7.holds Tryd.pinned (.plain (OpenSpec.upto fnExactReadVolSpec)) fnExactReadVolUptoCard
end Rows
end Go.Proofs.YteaiciofcffkgaaDoor
