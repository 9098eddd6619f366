/-
  DERIVED. GIVEN WITH THE SEED: THE CARDS: each row of YtaefafcecnpdaalDoorRows.lean that lists a variable, with what it lists TIED to the program's text (the seventh form; the later family's looks); each row that meets fmt, with fmt's text TOLD by the authors' own Lean function (tested against real Go, not proved from fmt's source: count such statements apart). THE CARD IS WHAT COUNTS. Prove the row's statement (the work); the ties are given (YtaefafcecnpdaalDoorTie.lean); close each card by the builder's one call (the guide's Derived/Test/ToyasCard.lean, 'card_holds'). Laid BY PROGRAM, IN A SANDBOX (cutbox-door.mjs). By AI agents, Wed Nov 11 2026. No macro, syntax, notation, axiom, sorry.
-/
import Derived.Test.YtaefafcecnpdaalDoorRows
import GoSem.ClaimSeven
namespace Go.Proofs.YtaefafcecnpdaalDoor
namespace Rows

/-- THE TIED CARD OF 'laws.FnExactReadVol'. -/
def fnExactReadVolCard : Claim7 := { stood := { row := fnExactReadVolRow, standIns := [], harness := (true, "d41ee52b4eaeaf69c0a26af6fa34c92509b6b82d41bcd038894244d0dccd5400"), looks := false }, kinds := [], alts := [], laidByText := true, laidKinds := [.data, .sentinel], laidTests := true, laidLooks := .later }
def FnExactReadVolCardSaid : Prop := Claim7.holds Tryd.pinned (.plain (OpenSpec.ofChange fnExactReadVolSpec)) fnExactReadVolCard

/-- THE TIED CARD OF 'laws.FnExactShowGroup'. -/
def fnExactShowGroupCard : Claim7 := { stood := { row := fnExactShowGroupRow, standIns := [], harness := (true, "d41ee52b4eaeaf69c0a26af6fa34c92509b6b82d41bcd038894244d0dccd5400"), looks := false }, kinds := [], alts := [], laidByText := true, laidKinds := [.data], laidTests := true, laidLooks := .later }
def FnExactShowGroupCardSaid : Prop := Claim7.holds Tryd.pinned (.plain (OpenSpec.ofChange fnExactShowGroupSpec)) fnExactShowGroupCard

/-- THE TIED CARD OF 'laws.FnExactReadGroup'. -/
def fnExactReadGroupCard : Claim7 := { stood := { row := fnExactReadGroupRow, standIns := [], harness := (true, "d41ee52b4eaeaf69c0a26af6fa34c92509b6b82d41bcd038894244d0dccd5400"), looks := false }, kinds := [], alts := [], laidByText := true, laidKinds := [.data, .sentinel], laidTests := true, laidLooks := .later }
def FnExactReadGroupCardSaid : Prop := Claim7.holds Tryd.pinned (.plain (OpenSpec.ofChange fnExactReadGroupSpec)) fnExactReadGroupCard

/-- THE TIED CARD OF 'laws.FnExactShowHost'. -/
def fnExactShowHostCard : Claim7 := { stood := { row := fnExactShowHostRow, standIns := [], harness := (true, "d41ee52b4eaeaf69c0a26af6fa34c92509b6b82d41bcd038894244d0dccd5400"), looks := false }, kinds := [], alts := [], laidByText := true, laidKinds := [.data], laidTests := true, laidLooks := .later }
def FnExactShowHostCardSaid : Prop := Claim7.holds Tryd.pinned (.plain (OpenSpec.ofChange fnExactShowHostSpec)) fnExactShowHostCard

/-- THE TIED CARD OF 'laws.FnExactReadHost'. -/
def fnExactReadHostCard : Claim7 := { stood := { row := fnExactReadHostRow, standIns := [], harness := (true, "d41ee52b4eaeaf69c0a26af6fa34c92509b6b82d41bcd038894244d0dccd5400"), looks := false }, kinds := [], alts := [], laidByText := true, laidKinds := [.data, .sentinel], laidTests := true, laidLooks := .later }
def FnExactReadHostCardSaid : Prop := Claim7.holds Tryd.pinned (.plain (OpenSpec.ofChange fnExactReadHostSpec)) fnExactReadHostCard

/-- THE TIED CARD OF 'laws.FnExactShowFrees'. -/
def fnExactShowFreesCard : Claim7 := { stood := { row := fnExactShowFreesRow, standIns := [], harness := (true, "d41ee52b4eaeaf69c0a26af6fa34c92509b6b82d41bcd038894244d0dccd5400"), looks := false }, kinds := [], alts := [], laidByText := true, laidKinds := [.data], laidTests := true, laidLooks := .later }
def FnExactShowFreesCardSaid : Prop := Claim7.holds Tryd.pinned (.plain (OpenSpec.ofChange fnExactShowFreesSpec)) fnExactShowFreesCard

/-- THE SECOND FORM's CARD OF 'laws.FnExactReadVol'. -/
def fnExactReadVolUptoCard : Claim7 := { stood := { row := fnExactReadVolUptoRow, standIns := [], harness := (true, "d41ee52b4eaeaf69c0a26af6fa34c92509b6b82d41bcd038894244d0dccd5400"), looks := false }, kinds := [], alts := [], laidByText := true, laidKinds := [.data, .sentinel], laidTests := true, laidLooks := .later }
def FnExactReadVolUptoCardSaid : Prop := Claim7.holds Tryd.pinned (.plain (OpenSpec.upto fnExactReadVolSpec)) fnExactReadVolUptoCard

/-- THE SECOND FORM's CARD OF 'laws.FnExactShowGroup'. -/
def fnExactShowGroupUptoCard : Claim7 := { stood := { row := fnExactShowGroupUptoRow, standIns := [], harness := (true, "d41ee52b4eaeaf69c0a26af6fa34c92509b6b82d41bcd038894244d0dccd5400"), looks := false }, kinds := [], alts := [], laidByText := true, laidKinds := [.data], laidTests := true, laidLooks := .later }
def FnExactShowGroupUptoCardSaid : Prop := Claim7.holds Tryd.pinned (.plain (OpenSpec.upto fnExactShowGroupSpec)) fnExactShowGroupUptoCard

/-- THE SECOND FORM's CARD OF 'laws.FnExactReadGroup'. -/
def fnExactReadGroupUptoCard : Claim7 := { stood := { row := fnExactReadGroupUptoRow, standIns := [], harness := (true, "d41ee52b4eaeaf69c0a26af6fa34c92509b6b82d41bcd038894244d0dccd5400"), looks := false }, kinds := [], alts := [], laidByText := true, laidKinds := [.data, .sentinel], laidTests := true, laidLooks := .later }
def FnExactReadGroupUptoCardSaid : Prop := Claim7.holds Tryd.pinned (.plain (OpenSpec.upto fnExactReadGroupSpec)) fnExactReadGroupUptoCard

/-- THE SECOND FORM's CARD OF 'laws.FnExactShowHost'. -/
def fnExactShowHostUptoCard : Claim7 := { stood := { row := fnExactShowHostUptoRow, standIns := [], harness := (true, "d41ee52b4eaeaf69c0a26af6fa34c92509b6b82d41bcd038894244d0dccd5400"), looks := false }, kinds := [], alts := [], laidByText := true, laidKinds := [.data], laidTests := true, laidLooks := .later }
def FnExactShowHostUptoCardSaid : Prop := Claim7.holds Tryd.pinned (.plain (OpenSpec.upto fnExactShowHostSpec)) fnExactShowHostUptoCard

/-- THE SECOND FORM's CARD OF 'laws.FnExactReadHost'. -/
def fnExactReadHostUptoCard : Claim7 := { stood := { row := fnExactReadHostUptoRow, standIns := [], harness := (true, "d41ee52b4eaeaf69c0a26af6fa34c92509b6b82d41bcd038894244d0dccd5400"), looks := false }, kinds := [], alts := [], laidByText := true, laidKinds := [.data, .sentinel], laidTests := true, laidLooks := .later }
def FnExactReadHostUptoCardSaid : Prop := Claim7.holds Tryd.pinned (.plain (OpenSpec.upto fnExactReadHostSpec)) fnExactReadHostUptoCard

/-- THE SECOND FORM's CARD OF 'laws.FnExactShowFrees'. -/
def fnExactShowFreesUptoCard : Claim7 := { stood := { row := fnExactShowFreesUptoRow, standIns := [], harness := (true, "d41ee52b4eaeaf69c0a26af6fa34c92509b6b82d41bcd038894244d0dccd5400"), looks := false }, kinds := [], alts := [], laidByText := true, laidKinds := [.data], laidTests := true, laidLooks := .later }
def FnExactShowFreesUptoCardSaid : Prop := Claim7.holds Tryd.pinned (.plain (OpenSpec.upto fnExactShowFreesSpec)) fnExactShowFreesUptoCard
end Rows
end Go.Proofs.YtaefafcecnpdaalDoor
