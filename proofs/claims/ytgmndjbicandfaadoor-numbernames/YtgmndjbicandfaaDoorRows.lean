/-
  NARROWER THAN 'FOR EVERY INPUT', by the rows' own cells (each row's printed sentence says how): NumberEvals: loops, laid · NumberNames: loops, laid · NumberPuts: loops, laid · NumberTurned: loops, laid · NumberParts: laid.
  DERIVED. THE GIVEN ROWS OF THIS SEAT. 5 by the template 'for every input the law returns true; each argument reads behind the call as it read before'; 0 by the template 'total and deterministic' (their statements: YtgmndjbicandfaaDoorTotals.lean).
  GIVEN WITH THE SEED: the statements are not yours to turn. If you find one false, say at which input.
  Laid BY PROGRAM, IN A SANDBOX (cutbox-rows.mjs): the forced cells as the released guide's own fill.sh prints them over the translation 572008d4277ce16f… (all of the seat's roots in one cut). By AI agents, Wed Nov 11 2026. No macro, syntax, notation, axiom, sorry.
-/
import Derived.Test.YtgmndjbicandfaaDoorChecked
import GoSem.Claim
import GoSem.ClaimJoined
import GoSem.ClaimMapViews
import Derived.JoinedTies
import Derived.KernelRfl
namespace Go.Proofs.YtgmndjbicandfaaDoor
/- THE CELL 'sum', in the pinned program and in every row, IS THE sha256 OF THE DUMP (.gsa) THAT YtgmndjbicandfaaDoorProg.lean LOADS. Nothing in Lean hashes anything: it is a label: what it is worth is what the hold of that sum in a sandbox is worth. -/
noncomputable def Tryd.pinned : Pinned := { name := "ytgmndjbicandfaadoor", sum := "572008d4277ce16f9d984b6de2f048285407957da5dc6e6c61c07abd43efc859", checked := Tryd.checked }
namespace Rows
def none {H : Type} : Left H := { results := [], args := [] }

/- WHAT THE LISTED PACKAGE-LEVEL VARIABLES READ AS WHEN THE CALL BEGINS. Each datum BY PROGRAM (the guide's laid-datum.mjs) off the statement by which the dump's own 'gosem.cut.vars' lays the variable. In a bare row this is a premise. The card (YtgmndjbicandfaaDoorCards.lean) ties it to the program's text. -/
def laid_recoup_token_words {H : Type} : DataW H := .agg [.lit (.string [99, 111, 100, 101]), .lit (.string [99, 111, 110, 115, 116]), .lit (.string [99, 114, 111, 115, 115]), .lit (.string [100, 111, 109, 97, 105, 110, 115]), .lit (.string [106, 111, 105, 110]), .lit (.string [108, 105, 115, 116]), .lit (.string [108, 111, 99, 97, 108]), .lit (.string [109, 97, 116, 114, 105, 120]), .lit (.string [112, 108, 97, 99, 101]), .lit (.string [112, 114, 111, 100, 117, 99, 116]), .lit (.string [112, 121, 114, 97, 109, 105, 100]), .lit (.string [114, 101, 101, 100]), .lit (.string [114, 111, 119]), .lit (.string [115, 112, 105, 114, 97, 108]), .lit (.string [115, 112, 114, 101, 97, 100]), .lit (.string [116, 111, 108, 101, 114, 97, 116, 101]), .lit (.string [117, 115, 101])]

/-- 'recouplaw12.NumberEvals': WHATEVER THE INPUT: true; the input reads as it did. -/
def numberEvalsSpec : ChangeSpec := { name := "numberEvals", fn := fun _ => fun
  | [d1, d2] => { results := [.lit (.bool true)], args := [d1, d2] }
  | _ => none }
def numberEvalsRow : OpenClaim := { program := "ytgmndjbicandfaadoor", sum := "572008d4277ce16f9d984b6de2f048285407957da5dc6e6c61c07abd43efc859", func := "recoup/recouplaw12.NumberEvals", spec := "numberEvals", inPlace := ["internal/bytealg.IndexByteString"], unfollowed := true, recurses := true, named := ["recoup/token.words"], loops := true, apart := false, laid := [("recoup/token.words", laid_recoup_token_words)] }
def NumberEvalsSaid : Prop := numberEvalsRow.holds Tryd.pinned (OpenSpec.ofChange numberEvalsSpec)

/-- ITS FALSE NEIGHBOUR: 'it returns false'. Refute it at one input. -/
def numberEvalsWrong : ChangeSpec := { name := "numberEvals", fn := fun _ => fun
  | [d1, d2] => { results := [.lit (.bool false)], args := [d1, d2] }
  | _ => none }
def NumberEvalsWrongFalsely : Prop := numberEvalsRow.holds Tryd.pinned (OpenSpec.ofChange numberEvalsWrong)

/-- 'recouplaw12.NumberNames': WHATEVER THE INPUT: true; the input reads as it did. -/
def numberNamesSpec : ChangeSpec := { name := "numberNames", fn := fun _ => fun
  | [d1, d2, d3] => { results := [.lit (.bool true)], args := [d1, d2, d3] }
  | _ => none }
def numberNamesRow : OpenClaim := { program := "ytgmndjbicandfaadoor", sum := "572008d4277ce16f9d984b6de2f048285407957da5dc6e6c61c07abd43efc859", func := "recoup/recouplaw12.NumberNames", spec := "numberNames", inPlace := ["internal/bytealg.IndexByteString"], unfollowed := true, recurses := true, named := ["recoup/token.words"], loops := true, apart := false, laid := [("recoup/token.words", laid_recoup_token_words)] }
def NumberNamesSaid : Prop := numberNamesRow.holds Tryd.pinned (OpenSpec.ofChange numberNamesSpec)

/-- ITS FALSE NEIGHBOUR: 'it returns false'. Refute it at one input. -/
def numberNamesWrong : ChangeSpec := { name := "numberNames", fn := fun _ => fun
  | [d1, d2, d3] => { results := [.lit (.bool false)], args := [d1, d2, d3] }
  | _ => none }
def NumberNamesWrongFalsely : Prop := numberNamesRow.holds Tryd.pinned (OpenSpec.ofChange numberNamesWrong)

/-- 'recouplaw12.NumberPuts': WHATEVER THE INPUT: true; the input reads as it did. -/
def numberPutsSpec : ChangeSpec := { name := "numberPuts", fn := fun _ => fun
  | [d1, d2, d3] => { results := [.lit (.bool true)], args := [d1, d2, d3] }
  | _ => none }
def numberPutsRow : OpenClaim := { program := "ytgmndjbicandfaadoor", sum := "572008d4277ce16f9d984b6de2f048285407957da5dc6e6c61c07abd43efc859", func := "recoup/recouplaw12.NumberPuts", spec := "numberPuts", inPlace := ["internal/bytealg.IndexByteString"], unfollowed := true, recurses := true, named := ["recoup/token.words"], loops := true, apart := false, laid := [("recoup/token.words", laid_recoup_token_words)] }
def NumberPutsSaid : Prop := numberPutsRow.holds Tryd.pinned (OpenSpec.ofChange numberPutsSpec)

/-- ITS FALSE NEIGHBOUR: 'it returns false'. Refute it at one input. -/
def numberPutsWrong : ChangeSpec := { name := "numberPuts", fn := fun _ => fun
  | [d1, d2, d3] => { results := [.lit (.bool false)], args := [d1, d2, d3] }
  | _ => none }
def NumberPutsWrongFalsely : Prop := numberPutsRow.holds Tryd.pinned (OpenSpec.ofChange numberPutsWrong)

/-- 'recouplaw12.NumberTurned': WHATEVER THE INPUT: true; the input reads as it did. -/
def numberTurnedSpec : ChangeSpec := { name := "numberTurned", fn := fun _ => fun
  | [d1, d2] => { results := [.lit (.bool true)], args := [d1, d2] }
  | _ => none }
def numberTurnedRow : OpenClaim := { program := "ytgmndjbicandfaadoor", sum := "572008d4277ce16f9d984b6de2f048285407957da5dc6e6c61c07abd43efc859", func := "recoup/recouplaw12.NumberTurned", spec := "numberTurned", inPlace := ["internal/bytealg.IndexByteString"], unfollowed := true, recurses := true, named := ["recoup/token.words"], loops := true, apart := false, laid := [("recoup/token.words", laid_recoup_token_words)] }
def NumberTurnedSaid : Prop := numberTurnedRow.holds Tryd.pinned (OpenSpec.ofChange numberTurnedSpec)

/-- ITS FALSE NEIGHBOUR: 'it returns false'. Refute it at one input. -/
def numberTurnedWrong : ChangeSpec := { name := "numberTurned", fn := fun _ => fun
  | [d1, d2] => { results := [.lit (.bool false)], args := [d1, d2] }
  | _ => none }
def NumberTurnedWrongFalsely : Prop := numberTurnedRow.holds Tryd.pinned (OpenSpec.ofChange numberTurnedWrong)

/-- 'recouplaw12.NumberParts': WHATEVER THE INPUT: true; the input reads as it did. -/
def numberPartsSpec : ChangeSpec := { name := "numberParts", fn := fun _ => fun
  | [d1, d2] => { results := [.lit (.bool true)], args := [d1, d2] }
  | _ => none }
def numberPartsRow : OpenClaim := { program := "ytgmndjbicandfaadoor", sum := "572008d4277ce16f9d984b6de2f048285407957da5dc6e6c61c07abd43efc859", func := "recoup/recouplaw12.NumberParts", spec := "numberParts", inPlace := ["internal/bytealg.IndexByteString"], unfollowed := true, recurses := true, named := ["recoup/token.words"], apart := false, laid := [("recoup/token.words", laid_recoup_token_words)] }
def NumberPartsSaid : Prop := numberPartsRow.holds Tryd.pinned (OpenSpec.ofChange numberPartsSpec)

/-- ITS FALSE NEIGHBOUR: 'it returns false'. Refute it at one input. -/
def numberPartsWrong : ChangeSpec := { name := "numberParts", fn := fun _ => fun
  | [d1, d2] => { results := [.lit (.bool false)], args := [d1, d2] }
  | _ => none }
def NumberPartsWrongFalsely : Prop := numberPartsRow.holds Tryd.pinned (OpenSpec.ofChange numberPartsWrong)

/- THE SECOND FORM. 'bulk': how many values and letters a reading holds, each counted each time it is reached (what is shared counts as often as it is met; a slice's spare places count too). A statement '..UptoSaid' is the law's where the arguments, and the package variables that the reading takes, are together of bulk at most 1048576: NARROWER than '..Said'. Prove '..Said' where nothing that the law and all that it calls make is longer than what came in: it says more and counts as full. Else prove '..UptoSaid'. A law counts once. -/
mutual
def uptoBulk {H : Type} : DataW H → Nat
  | .lit (.string bytes) => bytes.length + 1
  | .lit _ => 1
  | .nil => 1
  | .ptr d => uptoBulk d + 1
  | .slice elems spare => uptoBulkAll elems + uptoBulkAll spare + 1
  | .agg parts => uptoBulkAll parts + 1
  | .iface _ d => uptoBulk d + 1
  | .map entries => uptoBulkEntries entries + 1
  | .held _ => 1
def uptoBulkAll {H : Type} : List (DataW H) → Nat
  | [] => 0
  | d :: r => uptoBulk d + uptoBulkAll r
def uptoBulkEntries {H : Type} : List (Lit × DataW H) → Nat
  | [] => 0
  | x :: r => uptoBulkEntry x + uptoBulkEntries r
def uptoBulkEntry {H : Type} : Lit × DataW H → Nat
  | (.string bytes, d) => bytes.length + uptoBulk d + 1
  | (_, d) => uptoBulk d + 1
 end
def uptoSmall : (H : Type) → List (DataW H) → Bool := fun _ ds => decide (uptoBulkAll ds ≤ 1048576)
def OpenSpec.upto (s : _root_.Go.ChangeSpec) : _root_.Go.OpenSpec := { _root_.Go.OpenSpec.ofChange s with cond := some uptoSmall }

/-- 'recouplaw12.NumberEvals', WHERE WHAT IT READS IS OF BULK AT MOST 1048576: true; the input reads as it did. -/
def numberEvalsUptoRow : OpenClaim := { program := "ytgmndjbicandfaadoor", sum := "572008d4277ce16f9d984b6de2f048285407957da5dc6e6c61c07abd43efc859", func := "recoup/recouplaw12.NumberEvals", spec := "numberEvals", inPlace := ["internal/bytealg.IndexByteString"], unfollowed := true, recurses := true, named := ["recoup/token.words"], loops := true, apart := false, laid := [("recoup/token.words", laid_recoup_token_words)], narrowed := true }
def NumberEvalsUptoSaid : Prop := numberEvalsUptoRow.holds Tryd.pinned (OpenSpec.upto numberEvalsSpec)

/-- 'recouplaw12.NumberNames', WHERE WHAT IT READS IS OF BULK AT MOST 1048576: true; the input reads as it did. -/
def numberNamesUptoRow : OpenClaim := { program := "ytgmndjbicandfaadoor", sum := "572008d4277ce16f9d984b6de2f048285407957da5dc6e6c61c07abd43efc859", func := "recoup/recouplaw12.NumberNames", spec := "numberNames", inPlace := ["internal/bytealg.IndexByteString"], unfollowed := true, recurses := true, named := ["recoup/token.words"], loops := true, apart := false, laid := [("recoup/token.words", laid_recoup_token_words)], narrowed := true }
def NumberNamesUptoSaid : Prop := numberNamesUptoRow.holds Tryd.pinned (OpenSpec.upto numberNamesSpec)

/-- 'recouplaw12.NumberPuts', WHERE WHAT IT READS IS OF BULK AT MOST 1048576: true; the input reads as it did. -/
def numberPutsUptoRow : OpenClaim := { program := "ytgmndjbicandfaadoor", sum := "572008d4277ce16f9d984b6de2f048285407957da5dc6e6c61c07abd43efc859", func := "recoup/recouplaw12.NumberPuts", spec := "numberPuts", inPlace := ["internal/bytealg.IndexByteString"], unfollowed := true, recurses := true, named := ["recoup/token.words"], loops := true, apart := false, laid := [("recoup/token.words", laid_recoup_token_words)], narrowed := true }
def NumberPutsUptoSaid : Prop := numberPutsUptoRow.holds Tryd.pinned (OpenSpec.upto numberPutsSpec)

/-- 'recouplaw12.NumberTurned', WHERE WHAT IT READS IS OF BULK AT MOST 1048576: true; the input reads as it did. -/
def numberTurnedUptoRow : OpenClaim := { program := "ytgmndjbicandfaadoor", sum := "572008d4277ce16f9d984b6de2f048285407957da5dc6e6c61c07abd43efc859", func := "recoup/recouplaw12.NumberTurned", spec := "numberTurned", inPlace := ["internal/bytealg.IndexByteString"], unfollowed := true, recurses := true, named := ["recoup/token.words"], loops := true, apart := false, laid := [("recoup/token.words", laid_recoup_token_words)], narrowed := true }
def NumberTurnedUptoSaid : Prop := numberTurnedUptoRow.holds Tryd.pinned (OpenSpec.upto numberTurnedSpec)

/-- 'recouplaw12.NumberParts', WHERE WHAT IT READS IS OF BULK AT MOST 1048576: true; the input reads as it did. -/
def numberPartsUptoRow : OpenClaim := { program := "ytgmndjbicandfaadoor", sum := "572008d4277ce16f9d984b6de2f048285407957da5dc6e6c61c07abd43efc859", func := "recoup/recouplaw12.NumberParts", spec := "numberParts", inPlace := ["internal/bytealg.IndexByteString"], unfollowed := true, recurses := true, named := ["recoup/token.words"], apart := false, laid := [("recoup/token.words", laid_recoup_token_words)], narrowed := true }
def NumberPartsUptoSaid : Prop := numberPartsUptoRow.holds Tryd.pinned (OpenSpec.upto numberPartsSpec)

end Rows
end Go.Proofs.YtgmndjbicandfaaDoor
