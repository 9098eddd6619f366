/-
  DERIVED. GIVEN WITH THE SEED: THE CARDS: each row of YtlbfcnpnfoapnaaGreatDoorRows.lean that lists a variable, with what it lists TIED to the program's text (the seventh form; the later family's looks); each row that meets fmt, with fmt's text TOLD by the authors' own Lean function (tested against real Go, not proved from fmt's source: count such statements apart). THE CARD IS WHAT COUNTS. Prove the row's statement (the work); the ties are given (YtlbfcnpnfoapnaaGreatDoorTie.lean); close each card by the builder's one call (the guide's Derived/Test/ToyasCard.lean, 'card_holds'). Laid BY PROGRAM, IN A SANDBOX (cutbox-door.mjs). By AI agents, Wed Nov 11 2026. No macro, syntax, notation, axiom, sorry.
-/
import Derived.Test.YtlbfcnpnfoapnaaGreatDoorRows
import GoSem.ClaimSeven
namespace Go.Proofs.YtlbfcnpnfoapnaaGreatDoor
namespace Rows

/-- THE TIED CARD OF 'laws.FnExactCounts'. -/
def fnExactCountsCard : Claim7 := { stood := { row := fnExactCountsRow, standIns := [], harness := (true, "9aad427c2e5d745a765a82f10996d45dc010d93d396f1789efeef5d764c79359"), looks := false }, kinds := [], alts := [], laidByText := true, laidKinds := [.data, .data, .sentinel], laidTests := true, laidLooks := .later }
def FnExactCountsCardSaid : Prop := Claim7.holds Tryz.pinned (.plain (OpenSpec.ofChange fnExactCountsSpec)) fnExactCountsCard

/-- THE TIED CARD OF 'laws.FnExactRefsOk'. -/
def fnExactRefsOkCard : Claim7 := { stood := { row := fnExactRefsOkRow, standIns := [], harness := (true, "9aad427c2e5d745a765a82f10996d45dc010d93d396f1789efeef5d764c79359"), looks := false }, kinds := [], alts := [], laidByText := true, laidKinds := [.data, .data, .sentinel], laidTests := true, laidLooks := .later }
def FnExactRefsOkCardSaid : Prop := Claim7.holds Tryz.pinned (.plain (OpenSpec.ofChange fnExactRefsOkSpec)) fnExactRefsOkCard

/-- THE TIED CARD OF 'laws.FnExactAbstract'. -/
def fnExactAbstractCard : Claim7 := { stood := { row := fnExactAbstractRow, standIns := [], harness := (true, "9aad427c2e5d745a765a82f10996d45dc010d93d396f1789efeef5d764c79359"), looks := false }, kinds := [], alts := [], laidByText := true, laidKinds := [.data, .data, .sentinel], laidTests := true, laidLooks := .later }
def FnExactAbstractCardSaid : Prop := Claim7.holds Tryz.pinned (.plain (OpenSpec.ofChange fnExactAbstractSpec)) fnExactAbstractCard

/-- THE TIED CARD OF 'laws.FnFormat'. -/
def fnFormatCard : Claim7 := { stood := { row := fnFormatRow, standIns := [], harness := (true, "9aad427c2e5d745a765a82f10996d45dc010d93d396f1789efeef5d764c79359"), looks := false }, kinds := [], alts := [], laidByText := true, laidKinds := [.data, .data, .sentinel], laidTests := true, laidLooks := .later }
def FnFormatCardSaid : Prop := Claim7.holds Tryz.pinned (.plain (OpenSpec.ofChange fnFormatSpec)) fnFormatCard

/-- THE SECOND FORM's CARD OF 'laws.FnExactCounts'. -/
def fnExactCountsUptoCard : Claim7 := { stood := { row := fnExactCountsUptoRow, standIns := [], harness := (true, "9aad427c2e5d745a765a82f10996d45dc010d93d396f1789efeef5d764c79359"), looks := false }, kinds := [], alts := [], laidByText := true, laidKinds := [.data, .data, .sentinel], laidTests := true, laidLooks := .later }
def FnExactCountsUptoCardSaid : Prop := Claim7.holds Tryz.pinned (.plain (OpenSpec.upto fnExactCountsSpec)) fnExactCountsUptoCard

/-- THE SECOND FORM's CARD OF 'laws.FnExactRefsOk'. -/
def fnExactRefsOkUptoCard : Claim7 := { stood := { row := fnExactRefsOkUptoRow, standIns := [], harness := (true, "9aad427c2e5d745a765a82f10996d45dc010d93d396f1789efeef5d764c79359"), looks := false }, kinds := [], alts := [], laidByText := true, laidKinds := [.data, .data, .sentinel], laidTests := true, laidLooks := .later }
def FnExactRefsOkUptoCardSaid : Prop := Claim7.holds Tryz.pinned (.plain (OpenSpec.upto fnExactRefsOkSpec)) fnExactRefsOkUptoCard

/-- THE SECOND FORM's CARD OF 'laws.FnExactAbstract'. -/
def fnExactAbstractUptoCard : Claim7 := { stood := { row := fnExactAbstractUptoRow, standIns := [], harness := (true, "9aad427c2e5d745a765a82f10996d45dc010d93d396f1789efeef5d764c79359"), looks := false }, kinds := [], alts := [], laidByText := true, laidKinds := [.data, .data, .sentinel], laidTests := true, laidLooks := .later }
def FnExactAbstractUptoCardSaid : Prop := Claim7.holds Tryz.pinned (.plain (OpenSpec.upto fnExactAbstractSpec)) fnExactAbstractUptoCard

/-- THE SECOND FORM's CARD OF 'laws.FnFormat'. -/
def fnFormatUptoCard : Claim7 := { stood := { row := fnFormatUptoRow, standIns := [], harness := (true, "9aad427c2e5d745a765a82f10996d45dc010d93d396f1789efeef5d764c79359"), looks := false }, kinds := [], alts := [], laidByText := true, laidKinds := [.data, .data, .sentinel], laidTests := true, laidLooks := .later }
def FnFormatUptoCardSaid : Prop := Claim7.holds Tryz.pinned (.plain (OpenSpec.upto fnFormatSpec)) fnFormatUptoCard
end Rows
end Go.Proofs.YtlbfcnpnfoapnaaGreatDoor
