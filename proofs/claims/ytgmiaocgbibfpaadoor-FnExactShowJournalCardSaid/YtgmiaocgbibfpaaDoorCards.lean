/-
  DERIVED. GIVEN WITH THE SEED: THE CARDS: each row of YtgmiaocgbibfpaaDoorRows.lean that lists a variable, with what it lists TIED to the program's text (the seventh form; the later family's looks); each row that meets fmt, with fmt's text TOLD by the authors' own Lean function (tested against real Go, not proved from fmt's source: count such statements apart). THE CARD IS WHAT COUNTS. Prove the row's statement (the work); the ties are given (YtgmiaocgbibfpaaDoorTie.lean); close each card by the builder's one call (the guide's Derived/Test/ToyasCard.lean, 'card_holds'). Laid BY PROGRAM, IN A SANDBOX (cutbox-door.mjs). By AI agents, Wed Nov 11 2026. No macro, syntax, notation, axiom, sorry.
-/
import Derived.Test.YtgmiaocgbibfpaaDoorRows
import GoSem.ClaimSeven
namespace Go.Proofs.YtgmiaocgbibfpaaDoor
namespace Rows

/-- THE TIED CARD OF 'laws.FnExactSectorOf'. -/
def fnExactSectorOfCard : Claim7 := { stood := { row := fnExactSectorOfRow, standIns := [], harness := (true, "587a60948b041feee40b3ed6b6d074c4d2e356891a4bf0e7bc82698da30cef5a"), looks := false }, kinds := [], alts := [], laidByText := true, laidKinds := [.data], laidTests := true, laidLooks := .later }
def FnExactSectorOfCardSaid : Prop := Claim7.holds Tryd.pinned (.plain (OpenSpec.ofChange fnExactSectorOfSpec)) fnExactSectorOfCard

/-- THE TIED CARD OF 'laws.FnExactShowVol'. -/
def fnExactShowVolCard : Claim7 := { stood := { row := fnExactShowVolRow, standIns := [], harness := (true, "587a60948b041feee40b3ed6b6d074c4d2e356891a4bf0e7bc82698da30cef5a"), looks := false }, kinds := [], alts := [], laidByText := true, laidKinds := [.data], laidTests := true, laidLooks := .later }
def FnExactShowVolCardSaid : Prop := Claim7.holds Tryd.pinned (.plain (OpenSpec.ofChange fnExactShowVolSpec)) fnExactShowVolCard

/-- THE TIED CARD OF 'laws.FnExactShowGroup'. -/
def fnExactShowGroupCard : Claim7 := { stood := { row := fnExactShowGroupRow, standIns := [], harness := (true, "587a60948b041feee40b3ed6b6d074c4d2e356891a4bf0e7bc82698da30cef5a"), looks := false }, kinds := [], alts := [], laidByText := true, laidKinds := [.data], laidTests := true, laidLooks := .later }
def FnExactShowGroupCardSaid : Prop := Claim7.holds Tryd.pinned (.plain (OpenSpec.ofChange fnExactShowGroupSpec)) fnExactShowGroupCard

/-- THE TIED CARD OF 'laws.FnExactShowHost'. -/
def fnExactShowHostCard : Claim7 := { stood := { row := fnExactShowHostRow, standIns := [], harness := (true, "587a60948b041feee40b3ed6b6d074c4d2e356891a4bf0e7bc82698da30cef5a"), looks := false }, kinds := [], alts := [], laidByText := true, laidKinds := [.data], laidTests := true, laidLooks := .later }
def FnExactShowHostCardSaid : Prop := Claim7.holds Tryd.pinned (.plain (OpenSpec.ofChange fnExactShowHostSpec)) fnExactShowHostCard

/-- THE TIED CARD OF 'laws.FnExactShowFrees'. -/
def fnExactShowFreesCard : Claim7 := { stood := { row := fnExactShowFreesRow, standIns := [], harness := (true, "587a60948b041feee40b3ed6b6d074c4d2e356891a4bf0e7bc82698da30cef5a"), looks := false }, kinds := [], alts := [], laidByText := true, laidKinds := [.data], laidTests := true, laidLooks := .later }
def FnExactShowFreesCardSaid : Prop := Claim7.holds Tryd.pinned (.plain (OpenSpec.ofChange fnExactShowFreesSpec)) fnExactShowFreesCard

/-- THE TIED CARD OF 'laws.FnExactShowJournal'. -/
def fnExactShowJournalCard : Claim7 := { stood := { row := fnExactShowJournalRow, standIns := [], harness := (true, "587a60948b041feee40b3ed6b6d074c4d2e356891a4bf0e7bc82698da30cef5a"), looks := false }, kinds := [], alts := [], laidByText := true, laidKinds := [.data], laidTests := true, laidLooks := .later }
def FnExactShowJournalCardSaid : Prop := Claim7.holds Tryd.pinned (.plain (OpenSpec.ofChange fnExactShowJournalSpec)) fnExactShowJournalCard

/-- THE SECOND FORM's CARD OF 'laws.FnExactSectorOf'. -/
def fnExactSectorOfUptoCard : Claim7 := { stood := { row := fnExactSectorOfUptoRow, standIns := [], harness := (true, "587a60948b041feee40b3ed6b6d074c4d2e356891a4bf0e7bc82698da30cef5a"), looks := false }, kinds := [], alts := [], laidByText := true, laidKinds := [.data], laidTests := true, laidLooks := .later }
def FnExactSectorOfUptoCardSaid : Prop := Claim7.holds Tryd.pinned (.plain (OpenSpec.upto fnExactSectorOfSpec)) fnExactSectorOfUptoCard

/-- THE SECOND FORM's CARD OF 'laws.FnExactShowVol'. -/
def fnExactShowVolUptoCard : Claim7 := { stood := { row := fnExactShowVolUptoRow, standIns := [], harness := (true, "587a60948b041feee40b3ed6b6d074c4d2e356891a4bf0e7bc82698da30cef5a"), looks := false }, kinds := [], alts := [], laidByText := true, laidKinds := [.data], laidTests := true, laidLooks := .later }
def FnExactShowVolUptoCardSaid : Prop := Claim7.holds Tryd.pinned (.plain (OpenSpec.upto fnExactShowVolSpec)) fnExactShowVolUptoCard

/-- THE SECOND FORM's CARD OF 'laws.FnExactShowGroup'. -/
def fnExactShowGroupUptoCard : Claim7 := { stood := { row := fnExactShowGroupUptoRow, standIns := [], harness := (true, "587a60948b041feee40b3ed6b6d074c4d2e356891a4bf0e7bc82698da30cef5a"), looks := false }, kinds := [], alts := [], laidByText := true, laidKinds := [.data], laidTests := true, laidLooks := .later }
def FnExactShowGroupUptoCardSaid : Prop := Claim7.holds Tryd.pinned (.plain (OpenSpec.upto fnExactShowGroupSpec)) fnExactShowGroupUptoCard

/-- THE SECOND FORM's CARD OF 'laws.FnExactShowHost'. -/
def fnExactShowHostUptoCard : Claim7 := { stood := { row := fnExactShowHostUptoRow, standIns := [], harness := (true, "587a60948b041feee40b3ed6b6d074c4d2e356891a4bf0e7bc82698da30cef5a"), looks := false }, kinds := [], alts := [], laidByText := true, laidKinds := [.data], laidTests := true, laidLooks := .later }
def FnExactShowHostUptoCardSaid : Prop := Claim7.holds Tryd.pinned (.plain (OpenSpec.upto fnExactShowHostSpec)) fnExactShowHostUptoCard

/-- THE SECOND FORM's CARD OF 'laws.FnExactShowFrees'. -/
def fnExactShowFreesUptoCard : Claim7 := { stood := { row := fnExactShowFreesUptoRow, standIns := [], harness := (true, "587a60948b041feee40b3ed6b6d074c4d2e356891a4bf0e7bc82698da30cef5a"), looks := false }, kinds := [], alts := [], laidByText := true, laidKinds := [.data], laidTests := true, laidLooks := .later }
def FnExactShowFreesUptoCardSaid : Prop := Claim7.holds Tryd.pinned (.plain (OpenSpec.upto fnExactShowFreesSpec)) fnExactShowFreesUptoCard

/-- THE SECOND FORM's CARD OF 'laws.FnExactShowJournal'. -/
def fnExactShowJournalUptoCard : Claim7 := { stood := { row := fnExactShowJournalUptoRow, standIns := [], harness := (true, "587a60948b041feee40b3ed6b6d074c4d2e356891a4bf0e7bc82698da30cef5a"), looks := false }, kinds := [], alts := [], laidByText := true, laidKinds := [.data], laidTests := true, laidLooks := .later }
def FnExactShowJournalUptoCardSaid : Prop := Claim7.holds Tryd.pinned (.plain (OpenSpec.upto fnExactShowJournalSpec)) fnExactShowJournalUptoCard
end Rows
end Go.Proofs.YtgmiaocgbibfpaaDoor
