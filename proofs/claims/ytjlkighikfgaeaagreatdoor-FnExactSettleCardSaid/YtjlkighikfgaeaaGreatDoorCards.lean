/-
  DERIVED. GIVEN WITH THE SEED: THE CARDS: each row of YtjlkighikfgaeaaGreatDoorRows.lean that lists a variable, with what it lists TIED to the program's text (the seventh form; the later family's looks); each row that meets fmt, with fmt's text TOLD by the authors' own Lean function (tested against real Go, not proved from fmt's source: count such statements apart). THE CARD IS WHAT COUNTS. Prove the row's statement (the work); the ties are given (YtjlkighikfgaeaaGreatDoorTie.lean); close each card by the builder's one call (the guide's Derived/Test/ToyasCard.lean, 'card_holds'). Laid BY PROGRAM, IN A SANDBOX (cutbox-door.mjs). By AI agents, Wed Nov 11 2026. No macro, syntax, notation, axiom, sorry.
-/
import Derived.Test.YtjlkighikfgaeaaGreatDoorRows
import GoSem.ClaimSeven
namespace Go.Proofs.YtjlkighikfgaeaaGreatDoor
namespace Rows

/-- THE TIED CARD OF 'laws.FnRedo'. -/
def fnRedoCard : Claim7 := { stood := { row := fnRedoRow, standIns := [], harness := (true, "97164e25040b29febf18467b447592e99e9f3a51543033214100344c3e85e374"), looks := false }, kinds := [], alts := [], laidByText := true, laidKinds := [.data, .data, .sentinel], laidTests := true, laidLooks := .later }
def FnRedoCardSaid : Prop := Claim7.holds Tryz.pinned (.plain (OpenSpec.ofChange fnRedoSpec)) fnRedoCard

/-- THE TIED CARD OF 'laws.FnExactMakePlan'. -/
def fnExactMakePlanCard : Claim7 := { stood := { row := fnExactMakePlanRow, standIns := [], harness := (true, "97164e25040b29febf18467b447592e99e9f3a51543033214100344c3e85e374"), looks := false }, kinds := [], alts := [], laidByText := true, laidKinds := [.data, .data], laidTests := true, laidLooks := .later }
def FnExactMakePlanCardSaid : Prop := Claim7.holds Tryz.pinned (.plain (OpenSpec.ofChange fnExactMakePlanSpec)) fnExactMakePlanCard

/-- THE TIED CARD OF 'laws.FnExactRedo'. -/
def fnExactRedoCard : Claim7 := { stood := { row := fnExactRedoRow, standIns := [], harness := (true, "97164e25040b29febf18467b447592e99e9f3a51543033214100344c3e85e374"), looks := false }, kinds := [], alts := [], laidByText := true, laidKinds := [.data, .data, .sentinel], laidTests := true, laidLooks := .later }
def FnExactRedoCardSaid : Prop := Claim7.holds Tryz.pinned (.plain (OpenSpec.ofChange fnExactRedoSpec)) fnExactRedoCard

/-- THE TIED CARD OF 'laws.FnExactSettle'. -/
def fnExactSettleCard : Claim7 := { stood := { row := fnExactSettleRow, standIns := [], harness := (true, "97164e25040b29febf18467b447592e99e9f3a51543033214100344c3e85e374"), looks := false }, kinds := [], alts := [], laidByText := true, laidKinds := [.data, .data, .sentinel], laidTests := true, laidLooks := .later }
def FnExactSettleCardSaid : Prop := Claim7.holds Tryz.pinned (.plain (OpenSpec.ofChange fnExactSettleSpec)) fnExactSettleCard

/-- THE SECOND FORM's CARD OF 'laws.FnRedo'. -/
def fnRedoUptoCard : Claim7 := { stood := { row := fnRedoUptoRow, standIns := [], harness := (true, "97164e25040b29febf18467b447592e99e9f3a51543033214100344c3e85e374"), looks := false }, kinds := [], alts := [], laidByText := true, laidKinds := [.data, .data, .sentinel], laidTests := true, laidLooks := .later }
def FnRedoUptoCardSaid : Prop := Claim7.holds Tryz.pinned (.plain (OpenSpec.upto fnRedoSpec)) fnRedoUptoCard

/-- THE SECOND FORM's CARD OF 'laws.FnExactMakePlan'. -/
def fnExactMakePlanUptoCard : Claim7 := { stood := { row := fnExactMakePlanUptoRow, standIns := [], harness := (true, "97164e25040b29febf18467b447592e99e9f3a51543033214100344c3e85e374"), looks := false }, kinds := [], alts := [], laidByText := true, laidKinds := [.data, .data], laidTests := true, laidLooks := .later }
def FnExactMakePlanUptoCardSaid : Prop := Claim7.holds Tryz.pinned (.plain (OpenSpec.upto fnExactMakePlanSpec)) fnExactMakePlanUptoCard

/-- THE SECOND FORM's CARD OF 'laws.FnExactRedo'. -/
def fnExactRedoUptoCard : Claim7 := { stood := { row := fnExactRedoUptoRow, standIns := [], harness := (true, "97164e25040b29febf18467b447592e99e9f3a51543033214100344c3e85e374"), looks := false }, kinds := [], alts := [], laidByText := true, laidKinds := [.data, .data, .sentinel], laidTests := true, laidLooks := .later }
def FnExactRedoUptoCardSaid : Prop := Claim7.holds Tryz.pinned (.plain (OpenSpec.upto fnExactRedoSpec)) fnExactRedoUptoCard

/-- THE SECOND FORM's CARD OF 'laws.FnExactSettle'. -/
def fnExactSettleUptoCard : Claim7 := { stood := { row := fnExactSettleUptoRow, standIns := [], harness := (true, "97164e25040b29febf18467b447592e99e9f3a51543033214100344c3e85e374"), looks := false }, kinds := [], alts := [], laidByText := true, laidKinds := [.data, .data, .sentinel], laidTests := true, laidLooks := .later }
def FnExactSettleUptoCardSaid : Prop := Claim7.holds Tryz.pinned (.plain (OpenSpec.upto fnExactSettleSpec)) fnExactSettleUptoCard
end Rows
end Go.Proofs.YtjlkighikfgaeaaGreatDoor
