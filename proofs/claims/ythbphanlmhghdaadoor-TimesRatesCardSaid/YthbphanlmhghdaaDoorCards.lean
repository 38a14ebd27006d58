/-
  DERIVED. GIVEN WITH THE SEED: THE CARDS: each row of YthbphanlmhghdaaDoorRows.lean that lists a variable, with what it lists TIED to the program's text (the seventh form; the later family's looks); each row that meets fmt, with fmt's text TOLD by the authors' own Lean function (tested against real Go, not proved from fmt's source: count such statements apart). THE CARD IS WHAT COUNTS. Prove the row's statement (the work); the ties are given (YthbphanlmhghdaaDoorTie.lean); close each card by the builder's one call (the guide's Derived/Test/ToyasCard.lean, 'card_holds'). Laid BY PROGRAM, IN A SANDBOX (cutbox-door.mjs). By AI agents, Wed Nov 11 2026. No macro, syntax, notation, axiom, sorry.
-/
import Derived.Test.YthbphanlmhghdaaDoorRows
import GoSem.ClaimSeven
namespace Go.Proofs.YthbphanlmhghdaaDoor
namespace Rows

/-- THE TIED CARD OF 'abacuslaw02.TimesSpans'. -/
def timesSpansCard : Claim7 := { stood := { row := timesSpansRow, standIns := [], harness := (true, "0729cb19c358ad973fabe8705d64bb7f6014166b183924a73625d76f706486b4"), looks := false }, kinds := [], alts := [], laidByText := true, laidKinds := [.data, .data, .data, .data], laidTests := true, laidLooks := .later }
def TimesSpansCardSaid : Prop := Claim7.holds Tryd.pinned (.plain (OpenSpec.ofChange timesSpansSpec)) timesSpansCard

/-- THE TIED CARD OF 'abacuslaw02.TimesRates'. -/
def timesRatesCard : Claim7 := { stood := { row := timesRatesRow, standIns := [], harness := (true, "0729cb19c358ad973fabe8705d64bb7f6014166b183924a73625d76f706486b4"), looks := false }, kinds := [], alts := [], laidByText := true, laidKinds := [.data, .data, .data, .data], laidTests := true, laidLooks := .later }
def TimesRatesCardSaid : Prop := Claim7.holds Tryd.pinned (.plain (OpenSpec.ofChange timesRatesSpec)) timesRatesCard

/-- THE TIED CARD OF 'abacuslaw02.TimesAccrues'. -/
def timesAccruesCard : Claim7 := { stood := { row := timesAccruesRow, standIns := [], harness := (true, "0729cb19c358ad973fabe8705d64bb7f6014166b183924a73625d76f706486b4"), looks := false }, kinds := [], alts := [], laidByText := true, laidKinds := [.data, .data, .data, .data], laidTests := true, laidLooks := .later }
def TimesAccruesCardSaid : Prop := Claim7.holds Tryd.pinned (.plain (OpenSpec.ofChange timesAccruesSpec)) timesAccruesCard

/-- THE TIED CARD OF 'abacuslaw02.TimesWindows'. -/
def timesWindowsCard : Claim7 := { stood := { row := timesWindowsRow, standIns := [], harness := (true, "0729cb19c358ad973fabe8705d64bb7f6014166b183924a73625d76f706486b4"), looks := false }, kinds := [], alts := [], laidByText := true, laidKinds := [.data, .data, .data, .data], laidTests := true, laidLooks := .later }
def TimesWindowsCardSaid : Prop := Claim7.holds Tryd.pinned (.plain (OpenSpec.ofChange timesWindowsSpec)) timesWindowsCard

/-- THE TIED CARD OF 'abacuslaw02.TimesBack'. -/
def timesBackCard : Claim7 := { stood := { row := timesBackRow, standIns := [], harness := (true, "0729cb19c358ad973fabe8705d64bb7f6014166b183924a73625d76f706486b4"), looks := false }, kinds := [], alts := [], laidByText := true, laidKinds := [.data, .data, .data, .data], laidTests := true, laidLooks := .later }
def TimesBackCardSaid : Prop := Claim7.holds Tryd.pinned (.plain (OpenSpec.ofChange timesBackSpec)) timesBackCard

/-- THE TIED CARD OF 'abacuslaw02.TimesAdjoint'. -/
def timesAdjointCard : Claim7 := { stood := { row := timesAdjointRow, standIns := [], harness := (true, "0729cb19c358ad973fabe8705d64bb7f6014166b183924a73625d76f706486b4"), looks := false }, kinds := [], alts := [], laidByText := true, laidKinds := [.data, .data, .data, .data], laidTests := true, laidLooks := .later }
def TimesAdjointCardSaid : Prop := Claim7.holds Tryd.pinned (.plain (OpenSpec.ofChange timesAdjointSpec)) timesAdjointCard

/-- THE TIED CARD OF 'abacuslaw02.TimesParts'. -/
def timesPartsCard : Claim7 := { stood := { row := timesPartsRow, standIns := [], harness := (true, "0729cb19c358ad973fabe8705d64bb7f6014166b183924a73625d76f706486b4"), looks := false }, kinds := [], alts := [], laidByText := true, laidKinds := [.data, .data, .data, .data], laidTests := true, laidLooks := .later }
def TimesPartsCardSaid : Prop := Claim7.holds Tryd.pinned (.plain (OpenSpec.ofChange timesPartsSpec)) timesPartsCard

/-- THE TIED CARD OF 'abacuslaw02.TimesGreat'. -/
def timesGreatCard : Claim7 := { stood := { row := timesGreatRow, standIns := [], harness := (true, "0729cb19c358ad973fabe8705d64bb7f6014166b183924a73625d76f706486b4"), looks := false }, kinds := [], alts := [], laidByText := true, laidKinds := [.data, .data, .data, .data], laidTests := true, laidLooks := .later }
def TimesGreatCardSaid : Prop := Claim7.holds Tryd.pinned (.plain (OpenSpec.ofChange timesGreatSpec)) timesGreatCard

/-- THE TIED CARD OF 'abacuslaw02.TimesParted'. -/
def timesPartedCard : Claim7 := { stood := { row := timesPartedRow, standIns := [], harness := (true, "0729cb19c358ad973fabe8705d64bb7f6014166b183924a73625d76f706486b4"), looks := false }, kinds := [], alts := [], laidByText := true, laidKinds := [.data, .data, .data, .data], laidTests := true, laidLooks := .later }
def TimesPartedCardSaid : Prop := Claim7.holds Tryd.pinned (.plain (OpenSpec.ofChange timesPartedSpec)) timesPartedCard

/-- THE SECOND FORM's CARD OF 'abacuslaw02.TimesSpans'. -/
def timesSpansUptoCard : Claim7 := { stood := { row := timesSpansUptoRow, standIns := [], harness := (true, "0729cb19c358ad973fabe8705d64bb7f6014166b183924a73625d76f706486b4"), looks := false }, kinds := [], alts := [], laidByText := true, laidKinds := [.data, .data, .data, .data], laidTests := true, laidLooks := .later }
def TimesSpansUptoCardSaid : Prop := Claim7.holds Tryd.pinned (.plain (OpenSpec.upto timesSpansSpec)) timesSpansUptoCard

/-- THE SECOND FORM's CARD OF 'abacuslaw02.TimesRates'. -/
def timesRatesUptoCard : Claim7 := { stood := { row := timesRatesUptoRow, standIns := [], harness := (true, "0729cb19c358ad973fabe8705d64bb7f6014166b183924a73625d76f706486b4"), looks := false }, kinds := [], alts := [], laidByText := true, laidKinds := [.data, .data, .data, .data], laidTests := true, laidLooks := .later }
def TimesRatesUptoCardSaid : Prop := Claim7.holds Tryd.pinned (.plain (OpenSpec.upto timesRatesSpec)) timesRatesUptoCard

/-- THE SECOND FORM's CARD OF 'abacuslaw02.TimesAccrues'. -/
def timesAccruesUptoCard : Claim7 := { stood := { row := timesAccruesUptoRow, standIns := [], harness := (true, "0729cb19c358ad973fabe8705d64bb7f6014166b183924a73625d76f706486b4"), looks := false }, kinds := [], alts := [], laidByText := true, laidKinds := [.data, .data, .data, .data], laidTests := true, laidLooks := .later }
def TimesAccruesUptoCardSaid : Prop := Claim7.holds Tryd.pinned (.plain (OpenSpec.upto timesAccruesSpec)) timesAccruesUptoCard

/-- THE SECOND FORM's CARD OF 'abacuslaw02.TimesWindows'. -/
def timesWindowsUptoCard : Claim7 := { stood := { row := timesWindowsUptoRow, standIns := [], harness := (true, "0729cb19c358ad973fabe8705d64bb7f6014166b183924a73625d76f706486b4"), looks := false }, kinds := [], alts := [], laidByText := true, laidKinds := [.data, .data, .data, .data], laidTests := true, laidLooks := .later }
def TimesWindowsUptoCardSaid : Prop := Claim7.holds Tryd.pinned (.plain (OpenSpec.upto timesWindowsSpec)) timesWindowsUptoCard

/-- THE SECOND FORM's CARD OF 'abacuslaw02.TimesBack'. -/
def timesBackUptoCard : Claim7 := { stood := { row := timesBackUptoRow, standIns := [], harness := (true, "0729cb19c358ad973fabe8705d64bb7f6014166b183924a73625d76f706486b4"), looks := false }, kinds := [], alts := [], laidByText := true, laidKinds := [.data, .data, .data, .data], laidTests := true, laidLooks := .later }
def TimesBackUptoCardSaid : Prop := Claim7.holds Tryd.pinned (.plain (OpenSpec.upto timesBackSpec)) timesBackUptoCard

/-- THE SECOND FORM's CARD OF 'abacuslaw02.TimesAdjoint'. -/
def timesAdjointUptoCard : Claim7 := { stood := { row := timesAdjointUptoRow, standIns := [], harness := (true, "0729cb19c358ad973fabe8705d64bb7f6014166b183924a73625d76f706486b4"), looks := false }, kinds := [], alts := [], laidByText := true, laidKinds := [.data, .data, .data, .data], laidTests := true, laidLooks := .later }
def TimesAdjointUptoCardSaid : Prop := Claim7.holds Tryd.pinned (.plain (OpenSpec.upto timesAdjointSpec)) timesAdjointUptoCard

/-- THE SECOND FORM's CARD OF 'abacuslaw02.TimesParts'. -/
def timesPartsUptoCard : Claim7 := { stood := { row := timesPartsUptoRow, standIns := [], harness := (true, "0729cb19c358ad973fabe8705d64bb7f6014166b183924a73625d76f706486b4"), looks := false }, kinds := [], alts := [], laidByText := true, laidKinds := [.data, .data, .data, .data], laidTests := true, laidLooks := .later }
def TimesPartsUptoCardSaid : Prop := Claim7.holds Tryd.pinned (.plain (OpenSpec.upto timesPartsSpec)) timesPartsUptoCard

/-- THE SECOND FORM's CARD OF 'abacuslaw02.TimesGreat'. -/
def timesGreatUptoCard : Claim7 := { stood := { row := timesGreatUptoRow, standIns := [], harness := (true, "0729cb19c358ad973fabe8705d64bb7f6014166b183924a73625d76f706486b4"), looks := false }, kinds := [], alts := [], laidByText := true, laidKinds := [.data, .data, .data, .data], laidTests := true, laidLooks := .later }
def TimesGreatUptoCardSaid : Prop := Claim7.holds Tryd.pinned (.plain (OpenSpec.upto timesGreatSpec)) timesGreatUptoCard

/-- THE SECOND FORM's CARD OF 'abacuslaw02.TimesParted'. -/
def timesPartedUptoCard : Claim7 := { stood := { row := timesPartedUptoRow, standIns := [], harness := (true, "0729cb19c358ad973fabe8705d64bb7f6014166b183924a73625d76f706486b4"), looks := false }, kinds := [], alts := [], laidByText := true, laidKinds := [.data, .data, .data, .data], laidTests := true, laidLooks := .later }
def TimesPartedUptoCardSaid : Prop := Claim7.holds Tryd.pinned (.plain (OpenSpec.upto timesPartedSpec)) timesPartedUptoCard
end Rows
end Go.Proofs.YthbphanlmhghdaaDoor
