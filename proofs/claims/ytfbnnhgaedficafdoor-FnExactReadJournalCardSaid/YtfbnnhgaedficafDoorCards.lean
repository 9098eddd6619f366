/-
  DERIVED. GIVEN WITH THE SEED: THE CARDS: each row of YtfbnnhgaedficafDoorRows.lean that lists a variable, with what it lists TIED to the program's text (the seventh form; the later family's looks); each row that meets fmt, with fmt's text TOLD by the authors' own Lean function (tested against real Go, not proved from fmt's source: count such statements apart). THE CARD IS WHAT COUNTS. Prove the row's statement (the work); the ties are given (YtfbnnhgaedficafDoorTie.lean); close each card by the builder's one call (the guide's Derived/Test/ToyasCard.lean, 'card_holds'). Laid BY PROGRAM, IN A SANDBOX (cutbox-door.mjs). By AI agents, Wed Nov 11 2026. No macro, syntax, notation, axiom, sorry.
-/
import Derived.Test.YtfbnnhgaedficafDoorRows
import GoSem.ClaimSeven
namespace Go.Proofs.YtfbnnhgaedficafDoor
namespace Rows

/-- THE TIED CARD OF 'laws.FnExactShowFrees'. -/
def fnExactShowFreesCard : Claim7 := { stood := { row := fnExactShowFreesRow, standIns := [], harness := (true, "9563b3e0d44a2e6a241bff42b4a71fe5574caed3a7243bd9cddd785265275084"), looks := false }, kinds := [], alts := [], laidByText := true, laidKinds := [.data], laidTests := true, laidLooks := .later }
def FnExactShowFreesCardSaid : Prop := Claim7.holds Tryd.pinned (.plain (OpenSpec.ofChange fnExactShowFreesSpec)) fnExactShowFreesCard

/-- THE TIED CARD OF 'laws.FnExactReadFrees'. -/
def fnExactReadFreesCard : Claim7 := { stood := { row := fnExactReadFreesRow, standIns := [], harness := (true, "9563b3e0d44a2e6a241bff42b4a71fe5574caed3a7243bd9cddd785265275084"), looks := false }, kinds := [], alts := [], laidByText := true, laidKinds := [.data, .sentinel], laidTests := true, laidLooks := .later }
def FnExactReadFreesCardSaid : Prop := Claim7.holds Tryd.pinned (.plain (OpenSpec.ofChange fnExactReadFreesSpec)) fnExactReadFreesCard

/-- THE TIED CARD OF 'laws.FnExactShowJournal'. -/
def fnExactShowJournalCard : Claim7 := { stood := { row := fnExactShowJournalRow, standIns := [], harness := (true, "9563b3e0d44a2e6a241bff42b4a71fe5574caed3a7243bd9cddd785265275084"), looks := false }, kinds := [], alts := [], laidByText := true, laidKinds := [.data], laidTests := true, laidLooks := .later }
def FnExactShowJournalCardSaid : Prop := Claim7.holds Tryd.pinned (.plain (OpenSpec.ofChange fnExactShowJournalSpec)) fnExactShowJournalCard

/-- THE TIED CARD OF 'laws.FnExactReadJournal'. -/
def fnExactReadJournalCard : Claim7 := { stood := { row := fnExactReadJournalRow, standIns := [], harness := (true, "9563b3e0d44a2e6a241bff42b4a71fe5574caed3a7243bd9cddd785265275084"), looks := false }, kinds := [], alts := [], laidByText := true, laidKinds := [.data, .sentinel], laidTests := true, laidLooks := .later }
def FnExactReadJournalCardSaid : Prop := Claim7.holds Tryd.pinned (.plain (OpenSpec.ofChange fnExactReadJournalSpec)) fnExactReadJournalCard

/-- THE TIED CARD OF 'laws.FnExactFormat'. -/
def fnExactFormatCard : Claim7 := { stood := { row := fnExactFormatRow, standIns := [], harness := (true, "9563b3e0d44a2e6a241bff42b4a71fe5574caed3a7243bd9cddd785265275084"), looks := false }, kinds := [], alts := [], laidByText := true, laidKinds := [.data, .data], laidTests := true, laidLooks := .later }
def FnExactFormatCardSaid : Prop := Claim7.holds Tryd.pinned (.plain (OpenSpec.ofChange fnExactFormatSpec)) fnExactFormatCard

/-- THE SECOND FORM's CARD OF 'laws.FnExactShowFrees'. -/
def fnExactShowFreesUptoCard : Claim7 := { stood := { row := fnExactShowFreesUptoRow, standIns := [], harness := (true, "9563b3e0d44a2e6a241bff42b4a71fe5574caed3a7243bd9cddd785265275084"), looks := false }, kinds := [], alts := [], laidByText := true, laidKinds := [.data], laidTests := true, laidLooks := .later }
def FnExactShowFreesUptoCardSaid : Prop := Claim7.holds Tryd.pinned (.plain (OpenSpec.upto fnExactShowFreesSpec)) fnExactShowFreesUptoCard

/-- THE SECOND FORM's CARD OF 'laws.FnExactReadFrees'. -/
def fnExactReadFreesUptoCard : Claim7 := { stood := { row := fnExactReadFreesUptoRow, standIns := [], harness := (true, "9563b3e0d44a2e6a241bff42b4a71fe5574caed3a7243bd9cddd785265275084"), looks := false }, kinds := [], alts := [], laidByText := true, laidKinds := [.data, .sentinel], laidTests := true, laidLooks := .later }
def FnExactReadFreesUptoCardSaid : Prop := Claim7.holds Tryd.pinned (.plain (OpenSpec.upto fnExactReadFreesSpec)) fnExactReadFreesUptoCard

/-- THE SECOND FORM's CARD OF 'laws.FnExactShowJournal'. -/
def fnExactShowJournalUptoCard : Claim7 := { stood := { row := fnExactShowJournalUptoRow, standIns := [], harness := (true, "9563b3e0d44a2e6a241bff42b4a71fe5574caed3a7243bd9cddd785265275084"), looks := false }, kinds := [], alts := [], laidByText := true, laidKinds := [.data], laidTests := true, laidLooks := .later }
def FnExactShowJournalUptoCardSaid : Prop := Claim7.holds Tryd.pinned (.plain (OpenSpec.upto fnExactShowJournalSpec)) fnExactShowJournalUptoCard

/-- THE SECOND FORM's CARD OF 'laws.FnExactReadJournal'. -/
def fnExactReadJournalUptoCard : Claim7 := { stood := { row := fnExactReadJournalUptoRow, standIns := [], harness := (true, "9563b3e0d44a2e6a241bff42b4a71fe5574caed3a7243bd9cddd785265275084"), looks := false }, kinds := [], alts := [], laidByText := true, laidKinds := [.data, .sentinel], laidTests := true, laidLooks := .later }
def FnExactReadJournalUptoCardSaid : Prop := Claim7.holds Tryd.pinned (.plain (OpenSpec.upto fnExactReadJournalSpec)) fnExactReadJournalUptoCard

/-- THE SECOND FORM's CARD OF 'laws.FnExactFormat'. -/
def fnExactFormatUptoCard : Claim7 := { stood := { row := fnExactFormatUptoRow, standIns := [], harness := (true, "9563b3e0d44a2e6a241bff42b4a71fe5574caed3a7243bd9cddd785265275084"), looks := false }, kinds := [], alts := [], laidByText := true, laidKinds := [.data, .data], laidTests := true, laidLooks := .later }
def FnExactFormatUptoCardSaid : Prop := Claim7.holds Tryd.pinned (.plain (OpenSpec.upto fnExactFormatSpec)) fnExactFormatUptoCard
end Rows
end Go.Proofs.YtfbnnhgaedficafDoor
