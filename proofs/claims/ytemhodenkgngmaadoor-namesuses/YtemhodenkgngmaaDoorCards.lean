/-
  DERIVED. GIVEN WITH THE SEED: THE CARDS: each row of YtemhodenkgngmaaDoorRows.lean that lists a variable, with what it lists TIED to the program's text (the seventh form; the later family's looks); each row that meets fmt, with fmt's text TOLD by the authors' own Lean function (tested against real Go, not proved from fmt's source: count such statements apart). THE CARD IS WHAT COUNTS. Prove the row's statement (the work); the ties are given (YtemhodenkgngmaaDoorTie.lean); close each card by the builder's one call (the guide's Derived/Test/ToyasCard.lean, 'card_holds'). Laid BY PROGRAM, IN A SANDBOX (cutbox-door.mjs). By AI agents, Wed Nov 11 2026. No macro, syntax, notation, axiom, sorry.
-/
import Derived.Test.YtemhodenkgngmaaDoorRows
import GoSem.ClaimSeven
namespace Go.Proofs.YtemhodenkgngmaaDoor
namespace Rows

/-- THE TIED CARD OF 'recouplaw13.NamesTables'. -/
def namesTablesCard : Claim7 := { stood := { row := namesTablesRow, standIns := [], harness := (true, "cb96c78dc449a60ff3d87b454051880e732b7ed7f30712d5013391cc80f9a798"), looks := false }, kinds := [], alts := [], laidByText := true, laidKinds := [.data], laidTests := true, laidLooks := .later }
def NamesTablesCardSaid : Prop := Claim7.holds Tryd.pinned (.plain (OpenSpec.ofChange namesTablesSpec)) namesTablesCard

/-- THE TIED CARD OF 'recouplaw13.NamesLooks'. -/
def namesLooksCard : Claim7 := { stood := { row := namesLooksRow, standIns := [], harness := (true, "cb96c78dc449a60ff3d87b454051880e732b7ed7f30712d5013391cc80f9a798"), looks := false }, kinds := [], alts := [], laidByText := true, laidKinds := [.data], laidTests := true, laidLooks := .later }
def NamesLooksCardSaid : Prop := Claim7.holds Tryd.pinned (.plain (OpenSpec.ofChange namesLooksSpec)) namesLooksCard

/-- THE TIED CARD OF 'recouplaw13.NamesUses'. -/
def namesUsesCard : Claim7 := { stood := { row := namesUsesRow, standIns := [], harness := (true, "cb96c78dc449a60ff3d87b454051880e732b7ed7f30712d5013391cc80f9a798"), looks := false }, kinds := [], alts := [], laidByText := true, laidKinds := [.data], laidTests := true, laidLooks := .later }
def NamesUsesCardSaid : Prop := Claim7.holds Tryd.pinned (.plain (OpenSpec.ofChange namesUsesSpec)) namesUsesCard

/-- THE TIED CARD OF 'recouplaw13.NamesKnown'. -/
def namesKnownCard : Claim7 := { stood := { row := namesKnownRow, standIns := [], harness := (true, "cb96c78dc449a60ff3d87b454051880e732b7ed7f30712d5013391cc80f9a798"), looks := false }, kinds := [], alts := [], laidByText := true, laidKinds := [.data], laidTests := true, laidLooks := .later }
def NamesKnownCardSaid : Prop := Claim7.holds Tryd.pinned (.plain (OpenSpec.ofChange namesKnownSpec)) namesKnownCard

/-- THE TIED CARD OF 'recouplaw13.NamesBegin'. -/
def namesBeginCard : Claim7 := { stood := { row := namesBeginRow, standIns := [], harness := (true, "cb96c78dc449a60ff3d87b454051880e732b7ed7f30712d5013391cc80f9a798"), looks := false }, kinds := [], alts := [], laidByText := true, laidKinds := [.data], laidTests := true, laidLooks := .later }
def NamesBeginCardSaid : Prop := Claim7.holds Tryd.pinned (.plain (OpenSpec.ofChange namesBeginSpec)) namesBeginCard

/-- THE TIED CARD OF 'recouplaw13.NamesMore'. -/
def namesMoreCard : Claim7 := { stood := { row := namesMoreRow, standIns := [], harness := (true, "cb96c78dc449a60ff3d87b454051880e732b7ed7f30712d5013391cc80f9a798"), looks := false }, kinds := [], alts := [], laidByText := true, laidKinds := [.data], laidTests := true, laidLooks := .later }
def NamesMoreCardSaid : Prop := Claim7.holds Tryd.pinned (.plain (OpenSpec.ofChange namesMoreSpec)) namesMoreCard

/-- THE SECOND FORM's CARD OF 'recouplaw13.NamesTables'. -/
def namesTablesUptoCard : Claim7 := { stood := { row := namesTablesUptoRow, standIns := [], harness := (true, "cb96c78dc449a60ff3d87b454051880e732b7ed7f30712d5013391cc80f9a798"), looks := false }, kinds := [], alts := [], laidByText := true, laidKinds := [.data], laidTests := true, laidLooks := .later }
def NamesTablesUptoCardSaid : Prop := Claim7.holds Tryd.pinned (.plain (OpenSpec.upto namesTablesSpec)) namesTablesUptoCard

/-- THE SECOND FORM's CARD OF 'recouplaw13.NamesLooks'. -/
def namesLooksUptoCard : Claim7 := { stood := { row := namesLooksUptoRow, standIns := [], harness := (true, "cb96c78dc449a60ff3d87b454051880e732b7ed7f30712d5013391cc80f9a798"), looks := false }, kinds := [], alts := [], laidByText := true, laidKinds := [.data], laidTests := true, laidLooks := .later }
def NamesLooksUptoCardSaid : Prop := Claim7.holds Tryd.pinned (.plain (OpenSpec.upto namesLooksSpec)) namesLooksUptoCard

/-- THE SECOND FORM's CARD OF 'recouplaw13.NamesUses'. -/
def namesUsesUptoCard : Claim7 := { stood := { row := namesUsesUptoRow, standIns := [], harness := (true, "cb96c78dc449a60ff3d87b454051880e732b7ed7f30712d5013391cc80f9a798"), looks := false }, kinds := [], alts := [], laidByText := true, laidKinds := [.data], laidTests := true, laidLooks := .later }
def NamesUsesUptoCardSaid : Prop := Claim7.holds Tryd.pinned (.plain (OpenSpec.upto namesUsesSpec)) namesUsesUptoCard

/-- THE SECOND FORM's CARD OF 'recouplaw13.NamesKnown'. -/
def namesKnownUptoCard : Claim7 := { stood := { row := namesKnownUptoRow, standIns := [], harness := (true, "cb96c78dc449a60ff3d87b454051880e732b7ed7f30712d5013391cc80f9a798"), looks := false }, kinds := [], alts := [], laidByText := true, laidKinds := [.data], laidTests := true, laidLooks := .later }
def NamesKnownUptoCardSaid : Prop := Claim7.holds Tryd.pinned (.plain (OpenSpec.upto namesKnownSpec)) namesKnownUptoCard

/-- THE SECOND FORM's CARD OF 'recouplaw13.NamesBegin'. -/
def namesBeginUptoCard : Claim7 := { stood := { row := namesBeginUptoRow, standIns := [], harness := (true, "cb96c78dc449a60ff3d87b454051880e732b7ed7f30712d5013391cc80f9a798"), looks := false }, kinds := [], alts := [], laidByText := true, laidKinds := [.data], laidTests := true, laidLooks := .later }
def NamesBeginUptoCardSaid : Prop := Claim7.holds Tryd.pinned (.plain (OpenSpec.upto namesBeginSpec)) namesBeginUptoCard

/-- THE SECOND FORM's CARD OF 'recouplaw13.NamesMore'. -/
def namesMoreUptoCard : Claim7 := { stood := { row := namesMoreUptoRow, standIns := [], harness := (true, "cb96c78dc449a60ff3d87b454051880e732b7ed7f30712d5013391cc80f9a798"), looks := false }, kinds := [], alts := [], laidByText := true, laidKinds := [.data], laidTests := true, laidLooks := .later }
def NamesMoreUptoCardSaid : Prop := Claim7.holds Tryd.pinned (.plain (OpenSpec.upto namesMoreSpec)) namesMoreUptoCard
end Rows
end Go.Proofs.YtemhodenkgngmaaDoor
