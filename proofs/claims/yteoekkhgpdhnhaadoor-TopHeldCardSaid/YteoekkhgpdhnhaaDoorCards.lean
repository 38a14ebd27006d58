/-
  DERIVED. GIVEN WITH THE SEED: THE CARDS: each row of YteoekkhgpdhnhaaDoorRows.lean that lists a variable, with what it lists TIED to the program's text (the seventh form; the later family's looks); each row that meets fmt, with fmt's text TOLD by the authors' own Lean function (tested against real Go, not proved from fmt's source: count such statements apart). THE CARD IS WHAT COUNTS. Prove the row's statement (the work); the ties are given (YteoekkhgpdhnhaaDoorTie.lean); close each card by the builder's one call (the guide's Derived/Test/ToyasCard.lean, 'card_holds'). Laid BY PROGRAM, IN A SANDBOX (cutbox-door.mjs). By AI agents, Wed Nov 11 2026. No macro, syntax, notation, axiom, sorry.
-/
import Derived.Test.YteoekkhgpdhnhaaDoorRows
import GoSem.ClaimSeven
namespace Go.Proofs.YteoekkhgpdhnhaaDoor
namespace Rows

/-- THE TIED CARD OF 'abacustop.TopTaken'. -/
def topTakenCard : Claim7 := { stood := { row := topTakenRow, standIns := [], harness := (true, "71d073bb8e1b92bf014aa46b2d45a6e3e89fcbf92b7f3abef32db52b83ed9c39"), looks := false }, kinds := [], alts := [], laidByText := true, laidKinds := [.data, .data, .data, .data], laidTests := true, laidLooks := .later }
def TopTakenCardSaid : Prop := Claim7.holds Tryd.pinned (.plain (OpenSpec.ofChange topTakenSpec)) topTakenCard

/-- THE TIED CARD OF 'abacustop.TopHeld'. -/
def topHeldCard : Claim7 := { stood := { row := topHeldRow, standIns := [], harness := (true, "71d073bb8e1b92bf014aa46b2d45a6e3e89fcbf92b7f3abef32db52b83ed9c39"), looks := false }, kinds := [], alts := [], laidByText := true, laidKinds := [.data, .data, .data, .data], laidTests := true, laidLooks := .later }
def TopHeldCardSaid : Prop := Claim7.holds Tryd.pinned (.plain (OpenSpec.ofChange topHeldSpec)) topHeldCard

/-- THE TIED CARD OF 'abacustop.TopLimited'. -/
def topLimitedCard : Claim7 := { stood := { row := topLimitedRow, standIns := [], harness := (true, "71d073bb8e1b92bf014aa46b2d45a6e3e89fcbf92b7f3abef32db52b83ed9c39"), looks := false }, kinds := [], alts := [], laidByText := true, laidKinds := [.data, .data, .data, .data], laidTests := true, laidLooks := .later }
def TopLimitedCardSaid : Prop := Claim7.holds Tryd.pinned (.plain (OpenSpec.ofChange topLimitedSpec)) topLimitedCard

/-- THE SECOND FORM's CARD OF 'abacustop.TopTaken'. -/
def topTakenUptoCard : Claim7 := { stood := { row := topTakenUptoRow, standIns := [], harness := (true, "71d073bb8e1b92bf014aa46b2d45a6e3e89fcbf92b7f3abef32db52b83ed9c39"), looks := false }, kinds := [], alts := [], laidByText := true, laidKinds := [.data, .data, .data, .data], laidTests := true, laidLooks := .later }
def TopTakenUptoCardSaid : Prop := Claim7.holds Tryd.pinned (.plain (OpenSpec.upto topTakenSpec)) topTakenUptoCard

/-- THE SECOND FORM's CARD OF 'abacustop.TopHeld'. -/
def topHeldUptoCard : Claim7 := { stood := { row := topHeldUptoRow, standIns := [], harness := (true, "71d073bb8e1b92bf014aa46b2d45a6e3e89fcbf92b7f3abef32db52b83ed9c39"), looks := false }, kinds := [], alts := [], laidByText := true, laidKinds := [.data, .data, .data, .data], laidTests := true, laidLooks := .later }
def TopHeldUptoCardSaid : Prop := Claim7.holds Tryd.pinned (.plain (OpenSpec.upto topHeldSpec)) topHeldUptoCard

/-- THE SECOND FORM's CARD OF 'abacustop.TopLimited'. -/
def topLimitedUptoCard : Claim7 := { stood := { row := topLimitedUptoRow, standIns := [], harness := (true, "71d073bb8e1b92bf014aa46b2d45a6e3e89fcbf92b7f3abef32db52b83ed9c39"), looks := false }, kinds := [], alts := [], laidByText := true, laidKinds := [.data, .data, .data, .data], laidTests := true, laidLooks := .later }
def TopLimitedUptoCardSaid : Prop := Claim7.holds Tryd.pinned (.plain (OpenSpec.upto topLimitedSpec)) topLimitedUptoCard
end Rows
end Go.Proofs.YteoekkhgpdhnhaaDoor
