/-
  DERIVED. GIVEN WITH THE SEED: THE CARDS: each row of YtogebppolkfldaaGreatDoorRows.lean that lists a variable, with what it lists TIED to the program's text (the seventh form; the later family's looks); each row that meets fmt, with fmt's text TOLD by the authors' own Lean function (tested against real Go, not proved from fmt's source: count such statements apart). THE CARD IS WHAT COUNTS. Prove the row's statement (the work); the ties are given (YtogebppolkfldaaGreatDoorTie.lean); close each card by the builder's one call (the guide's Derived/Test/ToyasCard.lean, 'card_holds'). Laid BY PROGRAM, IN A SANDBOX (cutbox-door.mjs). By AI agents, Wed Nov 11 2026. No macro, syntax, notation, axiom, sorry.
-/
import Derived.Test.YtogebppolkfldaaGreatDoorRows
import GoSem.ClaimSeven
namespace Go.Proofs.YtogebppolkfldaaGreatDoor
namespace Rows

/-- THE TIED CARD OF 'laws.FnExactHolders'. -/
def fnExactHoldersCard : Claim7 := { stood := { row := fnExactHoldersRow, standIns := [], harness := (true, "198e5db0c31cfb90b1fd84df83a378f6dd0fe999fb31b0ddc25e2699e48d0a7b"), looks := false }, kinds := [], alts := [], laidByText := true, laidKinds := [.data, .data, .sentinel], laidTests := true, laidLooks := .later }
def FnExactHoldersCardSaid : Prop := Claim7.holds Tryz.pinned (.plain (OpenSpec.ofChange fnExactHoldersSpec)) fnExactHoldersCard

/-- THE SECOND FORM's CARD OF 'laws.FnExactHolders'. -/
def fnExactHoldersUptoCard : Claim7 := { stood := { row := fnExactHoldersUptoRow, standIns := [], harness := (true, "198e5db0c31cfb90b1fd84df83a378f6dd0fe999fb31b0ddc25e2699e48d0a7b"), looks := false }, kinds := [], alts := [], laidByText := true, laidKinds := [.data, .data, .sentinel], laidTests := true, laidLooks := .later }
def FnExactHoldersUptoCardSaid : Prop := Claim7.holds Tryz.pinned (.plain (OpenSpec.upto fnExactHoldersSpec)) fnExactHoldersUptoCard
end Rows
end Go.Proofs.YtogebppolkfldaaGreatDoor
