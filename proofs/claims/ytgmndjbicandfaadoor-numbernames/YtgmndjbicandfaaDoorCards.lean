/-
  DERIVED. GIVEN WITH THE SEED: THE CARDS: each row of YtgmndjbicandfaaDoorRows.lean that lists a variable, with what it lists TIED to the program's text (the seventh form; the later family's looks); each row that meets fmt, with fmt's text TOLD by the authors' own Lean function (tested against real Go, not proved from fmt's source: count such statements apart). THE CARD IS WHAT COUNTS. Prove the row's statement (the work); the ties are given (YtgmndjbicandfaaDoorTie.lean); close each card by the builder's one call (the guide's Derived/Test/ToyasCard.lean, 'card_holds'). Laid BY PROGRAM, IN A SANDBOX (cutbox-door.mjs). By AI agents, Wed Nov 11 2026. No macro, syntax, notation, axiom, sorry.
-/
import Derived.Test.YtgmndjbicandfaaDoorRows
import GoSem.ClaimSeven
namespace Go.Proofs.YtgmndjbicandfaaDoor
namespace Rows

/-- THE TIED CARD OF 'recouplaw12.NumberEvals'. -/
def numberEvalsCard : Claim7 := { stood := { row := numberEvalsRow, standIns := [], harness := (true, "1329221dac406c43c15575f849f7c51730e5667f4e56abb764632b948d968ae6"), looks := false }, kinds := [], alts := [], laidByText := true, laidKinds := [.data], laidTests := true, laidLooks := .later }
def NumberEvalsCardSaid : Prop := Claim7.holds Tryd.pinned (.plain (OpenSpec.ofChange numberEvalsSpec)) numberEvalsCard

/-- THE TIED CARD OF 'recouplaw12.NumberNames'. -/
def numberNamesCard : Claim7 := { stood := { row := numberNamesRow, standIns := [], harness := (true, "1329221dac406c43c15575f849f7c51730e5667f4e56abb764632b948d968ae6"), looks := false }, kinds := [], alts := [], laidByText := true, laidKinds := [.data], laidTests := true, laidLooks := .later }
def NumberNamesCardSaid : Prop := Claim7.holds Tryd.pinned (.plain (OpenSpec.ofChange numberNamesSpec)) numberNamesCard

/-- THE TIED CARD OF 'recouplaw12.NumberPuts'. -/
def numberPutsCard : Claim7 := { stood := { row := numberPutsRow, standIns := [], harness := (true, "1329221dac406c43c15575f849f7c51730e5667f4e56abb764632b948d968ae6"), looks := false }, kinds := [], alts := [], laidByText := true, laidKinds := [.data], laidTests := true, laidLooks := .later }
def NumberPutsCardSaid : Prop := Claim7.holds Tryd.pinned (.plain (OpenSpec.ofChange numberPutsSpec)) numberPutsCard

/-- THE TIED CARD OF 'recouplaw12.NumberTurned'. -/
def numberTurnedCard : Claim7 := { stood := { row := numberTurnedRow, standIns := [], harness := (true, "1329221dac406c43c15575f849f7c51730e5667f4e56abb764632b948d968ae6"), looks := false }, kinds := [], alts := [], laidByText := true, laidKinds := [.data], laidTests := true, laidLooks := .later }
def NumberTurnedCardSaid : Prop := Claim7.holds Tryd.pinned (.plain (OpenSpec.ofChange numberTurnedSpec)) numberTurnedCard

/-- THE TIED CARD OF 'recouplaw12.NumberParts'. -/
def numberPartsCard : Claim7 := { stood := { row := numberPartsRow, standIns := [], harness := (true, "1329221dac406c43c15575f849f7c51730e5667f4e56abb764632b948d968ae6"), looks := false }, kinds := [], alts := [], laidByText := true, laidKinds := [.data], laidTests := true, laidLooks := .later }
def NumberPartsCardSaid : Prop := Claim7.holds Tryd.pinned (.plain (OpenSpec.ofChange numberPartsSpec)) numberPartsCard

/-- THE SECOND FORM's CARD OF 'recouplaw12.NumberEvals'. -/
def numberEvalsUptoCard : Claim7 := { stood := { row := numberEvalsUptoRow, standIns := [], harness := (true, "1329221dac406c43c15575f849f7c51730e5667f4e56abb764632b948d968ae6"), looks := false }, kinds := [], alts := [], laidByText := true, laidKinds := [.data], laidTests := true, laidLooks := .later }
def NumberEvalsUptoCardSaid : Prop := Claim7.holds Tryd.pinned (.plain (OpenSpec.upto numberEvalsSpec)) numberEvalsUptoCard

/-- THE SECOND FORM's CARD OF 'recouplaw12.NumberNames'. -/
def numberNamesUptoCard : Claim7 := { stood := { row := numberNamesUptoRow, standIns := [], harness := (true, "1329221dac406c43c15575f849f7c51730e5667f4e56abb764632b948d968ae6"), looks := false }, kinds := [], alts := [], laidByText := true, laidKinds := [.data], laidTests := true, laidLooks := .later }
def NumberNamesUptoCardSaid : Prop := Claim7.holds Tryd.pinned (.plain (OpenSpec.upto numberNamesSpec)) numberNamesUptoCard

/-- THE SECOND FORM's CARD OF 'recouplaw12.NumberPuts'. -/
def numberPutsUptoCard : Claim7 := { stood := { row := numberPutsUptoRow, standIns := [], harness := (true, "1329221dac406c43c15575f849f7c51730e5667f4e56abb764632b948d968ae6"), looks := false }, kinds := [], alts := [], laidByText := true, laidKinds := [.data], laidTests := true, laidLooks := .later }
def NumberPutsUptoCardSaid : Prop := Claim7.holds Tryd.pinned (.plain (OpenSpec.upto numberPutsSpec)) numberPutsUptoCard

/-- THE SECOND FORM's CARD OF 'recouplaw12.NumberTurned'. -/
def numberTurnedUptoCard : Claim7 := { stood := { row := numberTurnedUptoRow, standIns := [], harness := (true, "1329221dac406c43c15575f849f7c51730e5667f4e56abb764632b948d968ae6"), looks := false }, kinds := [], alts := [], laidByText := true, laidKinds := [.data], laidTests := true, laidLooks := .later }
def NumberTurnedUptoCardSaid : Prop := Claim7.holds Tryd.pinned (.plain (OpenSpec.upto numberTurnedSpec)) numberTurnedUptoCard

/-- THE SECOND FORM's CARD OF 'recouplaw12.NumberParts'. -/
def numberPartsUptoCard : Claim7 := { stood := { row := numberPartsUptoRow, standIns := [], harness := (true, "1329221dac406c43c15575f849f7c51730e5667f4e56abb764632b948d968ae6"), looks := false }, kinds := [], alts := [], laidByText := true, laidKinds := [.data], laidTests := true, laidLooks := .later }
def NumberPartsUptoCardSaid : Prop := Claim7.holds Tryd.pinned (.plain (OpenSpec.upto numberPartsSpec)) numberPartsUptoCard
end Rows
end Go.Proofs.YtgmndjbicandfaaDoor
