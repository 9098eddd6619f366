/-
  DERIVED. GIVEN WITH THE SEED: THE CARDS: each row of YtaopkchkhdbfnaaGreatDoorRows.lean that lists a variable, with what it lists TIED to the program's text (the seventh form; the later family's looks); each row that meets fmt, with fmt's text TOLD by the authors' own Lean function (tested against real Go, not proved from fmt's source: count such statements apart). THE CARD IS WHAT COUNTS. Prove the row's statement (the work); the ties are given (YtaopkchkhdbfnaaGreatDoorTie.lean); close each card by the builder's one call (the guide's Derived/Test/ToyasCard.lean, 'card_holds'). Laid BY PROGRAM, IN A SANDBOX (cutbox-door.mjs). By AI agents, Wed Nov 11 2026. No macro, syntax, notation, axiom, sorry.
-/
import Derived.Test.YtaopkchkhdbfnaaGreatDoorRows
import GoSem.ClaimSeven
namespace Go.Proofs.YtaopkchkhdbfnaaGreatDoor
namespace Rows

/-- THE TIED CARD OF 'laws.FnExactWorldOk'. -/
def fnExactWorldOkCard : Claim7 := { stood := { row := fnExactWorldOkRow, standIns := [], harness := (true, "64a9b4819490de83a646166170c9f6b9ec971831c67b34a2470997373f9dd43f"), looks := false }, kinds := [], alts := [], laidByText := true, laidKinds := [.data, .data, .sentinel], laidTests := true, laidLooks := .later }
def FnExactWorldOkCardSaid : Prop := Claim7.holds Tryz.pinned (.plain (OpenSpec.ofChange fnExactWorldOkSpec)) fnExactWorldOkCard

/-- THE TIED CARD OF 'laws.FnExactNewWorld'. -/
def fnExactNewWorldCard : Claim7 := { stood := { row := fnExactNewWorldRow, standIns := [], harness := (true, "64a9b4819490de83a646166170c9f6b9ec971831c67b34a2470997373f9dd43f"), looks := false }, kinds := [], alts := [], laidByText := true, laidKinds := [.data, .data], laidTests := true, laidLooks := .later }
def FnExactNewWorldCardSaid : Prop := Claim7.holds Tryz.pinned (.plain (OpenSpec.ofChange fnExactNewWorldSpec)) fnExactNewWorldCard

/-- THE TIED CARD OF 'laws.FnExactSettled'. -/
def fnExactSettledCard : Claim7 := { stood := { row := fnExactSettledRow, standIns := [], harness := (true, "64a9b4819490de83a646166170c9f6b9ec971831c67b34a2470997373f9dd43f"), looks := false }, kinds := [], alts := [], laidByText := true, laidKinds := [.data, .data, .sentinel], laidTests := true, laidLooks := .later }
def FnExactSettledCardSaid : Prop := Claim7.holds Tryz.pinned (.plain (OpenSpec.ofChange fnExactSettledSpec)) fnExactSettledCard

/-- THE TIED CARD OF 'laws.FnExactHolders'. -/
def fnExactHoldersCard : Claim7 := { stood := { row := fnExactHoldersRow, standIns := [], harness := (true, "64a9b4819490de83a646166170c9f6b9ec971831c67b34a2470997373f9dd43f"), looks := false }, kinds := [], alts := [], laidByText := true, laidKinds := [.data, .data, .sentinel], laidTests := true, laidLooks := .later }
def FnExactHoldersCardSaid : Prop := Claim7.holds Tryz.pinned (.plain (OpenSpec.ofChange fnExactHoldersSpec)) fnExactHoldersCard

/-- THE TIED CARD OF 'laws.FnExactExplain'. -/
def fnExactExplainCard : Claim7 := { stood := { row := fnExactExplainRow, standIns := [], harness := (true, "64a9b4819490de83a646166170c9f6b9ec971831c67b34a2470997373f9dd43f"), looks := false }, kinds := [], alts := [], laidByText := true, laidKinds := [.data, .data, .sentinel], laidTests := true, laidLooks := .later }
def FnExactExplainCardSaid : Prop := Claim7.holds Tryz.pinned (.plain (OpenSpec.ofChange fnExactExplainSpec)) fnExactExplainCard

/-- THE SECOND FORM's CARD OF 'laws.FnExactWorldOk'. -/
def fnExactWorldOkUptoCard : Claim7 := { stood := { row := fnExactWorldOkUptoRow, standIns := [], harness := (true, "64a9b4819490de83a646166170c9f6b9ec971831c67b34a2470997373f9dd43f"), looks := false }, kinds := [], alts := [], laidByText := true, laidKinds := [.data, .data, .sentinel], laidTests := true, laidLooks := .later }
def FnExactWorldOkUptoCardSaid : Prop := Claim7.holds Tryz.pinned (.plain (OpenSpec.upto fnExactWorldOkSpec)) fnExactWorldOkUptoCard

/-- THE SECOND FORM's CARD OF 'laws.FnExactNewWorld'. -/
def fnExactNewWorldUptoCard : Claim7 := { stood := { row := fnExactNewWorldUptoRow, standIns := [], harness := (true, "64a9b4819490de83a646166170c9f6b9ec971831c67b34a2470997373f9dd43f"), looks := false }, kinds := [], alts := [], laidByText := true, laidKinds := [.data, .data], laidTests := true, laidLooks := .later }
def FnExactNewWorldUptoCardSaid : Prop := Claim7.holds Tryz.pinned (.plain (OpenSpec.upto fnExactNewWorldSpec)) fnExactNewWorldUptoCard

/-- THE SECOND FORM's CARD OF 'laws.FnExactSettled'. -/
def fnExactSettledUptoCard : Claim7 := { stood := { row := fnExactSettledUptoRow, standIns := [], harness := (true, "64a9b4819490de83a646166170c9f6b9ec971831c67b34a2470997373f9dd43f"), looks := false }, kinds := [], alts := [], laidByText := true, laidKinds := [.data, .data, .sentinel], laidTests := true, laidLooks := .later }
def FnExactSettledUptoCardSaid : Prop := Claim7.holds Tryz.pinned (.plain (OpenSpec.upto fnExactSettledSpec)) fnExactSettledUptoCard

/-- THE SECOND FORM's CARD OF 'laws.FnExactHolders'. -/
def fnExactHoldersUptoCard : Claim7 := { stood := { row := fnExactHoldersUptoRow, standIns := [], harness := (true, "64a9b4819490de83a646166170c9f6b9ec971831c67b34a2470997373f9dd43f"), looks := false }, kinds := [], alts := [], laidByText := true, laidKinds := [.data, .data, .sentinel], laidTests := true, laidLooks := .later }
def FnExactHoldersUptoCardSaid : Prop := Claim7.holds Tryz.pinned (.plain (OpenSpec.upto fnExactHoldersSpec)) fnExactHoldersUptoCard

/-- THE SECOND FORM's CARD OF 'laws.FnExactExplain'. -/
def fnExactExplainUptoCard : Claim7 := { stood := { row := fnExactExplainUptoRow, standIns := [], harness := (true, "64a9b4819490de83a646166170c9f6b9ec971831c67b34a2470997373f9dd43f"), looks := false }, kinds := [], alts := [], laidByText := true, laidKinds := [.data, .data, .sentinel], laidTests := true, laidLooks := .later }
def FnExactExplainUptoCardSaid : Prop := Claim7.holds Tryz.pinned (.plain (OpenSpec.upto fnExactExplainSpec)) fnExactExplainUptoCard
end Rows
end Go.Proofs.YtaopkchkhdbfnaaGreatDoor
