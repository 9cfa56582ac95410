/-
  NARROWER THAN 'FOR EVERY INPUT', by the rows' own cells (each row's printed sentence says how): NamesTables: loops, laid · NamesLooks: laid · NamesUses: loops, laid · NamesKnown: loops, laid · NamesBegin: loops, laid · NamesMore: loops, laid.
  DERIVED. THE GIVEN ROWS OF THIS SEAT. 6 by the template 'for every input the law returns true; each argument reads behind the call as it read before'; 0 by the template 'total and deterministic' (their statements: YtemhodenkgngmaaDoorTotals.lean).
  GIVEN WITH THE SEED: the statements are not yours to turn. If you find one false, say at which input.
  Laid BY PROGRAM, IN A SANDBOX (cutbox-rows.mjs): the forced cells as the released guide's own fill.sh prints them over the translation 95f7693da5de6a37… (all of the seat's roots in one cut). By AI agents, Wed Nov 11 2026. No macro, syntax, notation, axiom, sorry.
-/
import Derived.Test.YtemhodenkgngmaaDoorChecked
import GoSem.Claim
import GoSem.ClaimJoined
import GoSem.ClaimMapViews
import Derived.JoinedTies
import Derived.KernelRfl
namespace Go.Proofs.YtemhodenkgngmaaDoor
/- THE CELL 'sum', in the pinned program and in every row, IS THE sha256 OF THE DUMP (.gsa) THAT YtemhodenkgngmaaDoorProg.lean LOADS. Nothing in Lean hashes anything: it is a label: what it is worth is what the hold of that sum in a sandbox is worth. -/
noncomputable def Tryd.pinned : Pinned := { name := "ytemhodenkgngmaadoor", sum := "95f7693da5de6a37f6dd053ffbf526a7c79485917b1464df231fea86bf53e77c", checked := Tryd.checked }
namespace Rows
def none {H : Type} : Left H := { results := [], args := [] }

/- WHAT THE LISTED PACKAGE-LEVEL VARIABLES READ AS WHEN THE CALL BEGINS. Each datum BY PROGRAM (the guide's laid-datum.mjs) off the statement by which the dump's own 'gosem.cut.vars' lays the variable. In a bare row this is a premise. The card (YtemhodenkgngmaaDoorCards.lean) ties it to the program's text. -/
def laid_recoup_token_words {H : Type} : DataW H := .agg [.lit (.string [99, 111, 100, 101]), .lit (.string [99, 111, 110, 115, 116]), .lit (.string [99, 114, 111, 115, 115]), .lit (.string [100, 111, 109, 97, 105, 110, 115]), .lit (.string [106, 111, 105, 110]), .lit (.string [108, 105, 115, 116]), .lit (.string [108, 111, 99, 97, 108]), .lit (.string [109, 97, 116, 114, 105, 120]), .lit (.string [112, 108, 97, 99, 101]), .lit (.string [112, 114, 111, 100, 117, 99, 116]), .lit (.string [112, 121, 114, 97, 109, 105, 100]), .lit (.string [114, 101, 101, 100]), .lit (.string [114, 111, 119]), .lit (.string [115, 112, 105, 114, 97, 108]), .lit (.string [115, 112, 114, 101, 97, 100]), .lit (.string [116, 111, 108, 101, 114, 97, 116, 101]), .lit (.string [117, 115, 101])]

/-- 'recouplaw13.NamesTables': WHATEVER THE INPUT: true; the input reads as it did. -/
def namesTablesSpec : ChangeSpec := { name := "namesTables", fn := fun _ => fun
  | [d] => { results := [.lit (.bool true)], args := [d] }
  | _ => none }
def namesTablesRow : OpenClaim := { program := "ytemhodenkgngmaadoor", sum := "95f7693da5de6a37f6dd053ffbf526a7c79485917b1464df231fea86bf53e77c", func := "recoup/recouplaw13.NamesTables", spec := "namesTables", inPlace := ["internal/bytealg.IndexByteString"], unfollowed := true, recurses := true, named := ["recoup/token.words"], loops := true, apart := false, laid := [("recoup/token.words", laid_recoup_token_words)] }
def NamesTablesSaid : Prop := namesTablesRow.holds Tryd.pinned (OpenSpec.ofChange namesTablesSpec)

/-- ITS FALSE NEIGHBOUR: 'it returns false'. Refute it at one input. -/
def namesTablesWrong : ChangeSpec := { name := "namesTables", fn := fun _ => fun
  | [d] => { results := [.lit (.bool false)], args := [d] }
  | _ => none }
def NamesTablesWrongFalsely : Prop := namesTablesRow.holds Tryd.pinned (OpenSpec.ofChange namesTablesWrong)

/-- 'recouplaw13.NamesLooks': WHATEVER THE INPUT: true; the input reads as it did. -/
def namesLooksSpec : ChangeSpec := { name := "namesLooks", fn := fun _ => fun
  | [d1, d2] => { results := [.lit (.bool true)], args := [d1, d2] }
  | _ => none }
def namesLooksRow : OpenClaim := { program := "ytemhodenkgngmaadoor", sum := "95f7693da5de6a37f6dd053ffbf526a7c79485917b1464df231fea86bf53e77c", func := "recoup/recouplaw13.NamesLooks", spec := "namesLooks", inPlace := ["internal/bytealg.IndexByteString"], unfollowed := true, recurses := true, named := ["recoup/token.words"], apart := false, laid := [("recoup/token.words", laid_recoup_token_words)] }
def NamesLooksSaid : Prop := namesLooksRow.holds Tryd.pinned (OpenSpec.ofChange namesLooksSpec)

/-- ITS FALSE NEIGHBOUR: 'it returns false'. Refute it at one input. -/
def namesLooksWrong : ChangeSpec := { name := "namesLooks", fn := fun _ => fun
  | [d1, d2] => { results := [.lit (.bool false)], args := [d1, d2] }
  | _ => none }
def NamesLooksWrongFalsely : Prop := namesLooksRow.holds Tryd.pinned (OpenSpec.ofChange namesLooksWrong)

/-- 'recouplaw13.NamesUses': WHATEVER THE INPUT: true; the input reads as it did. -/
def namesUsesSpec : ChangeSpec := { name := "namesUses", fn := fun _ => fun
  | [d] => { results := [.lit (.bool true)], args := [d] }
  | _ => none }
def namesUsesRow : OpenClaim := { program := "ytemhodenkgngmaadoor", sum := "95f7693da5de6a37f6dd053ffbf526a7c79485917b1464df231fea86bf53e77c", func := "recoup/recouplaw13.NamesUses", spec := "namesUses", inPlace := ["internal/bytealg.IndexByteString"], unfollowed := true, recurses := true, named := ["recoup/token.words"], loops := true, apart := false, laid := [("recoup/token.words", laid_recoup_token_words)] }
def NamesUsesSaid : Prop := namesUsesRow.holds Tryd.pinned (OpenSpec.ofChange namesUsesSpec)

/-- ITS FALSE NEIGHBOUR: 'it returns false'. Refute it at one input. -/
def namesUsesWrong : ChangeSpec := { name := "namesUses", fn := fun _ => fun
  | [d] => { results := [.lit (.bool false)], args := [d] }
  | _ => none }
def NamesUsesWrongFalsely : Prop := namesUsesRow.holds Tryd.pinned (OpenSpec.ofChange namesUsesWrong)

/-- 'recouplaw13.NamesKnown': WHATEVER THE INPUT: true; the input reads as it did. -/
def namesKnownSpec : ChangeSpec := { name := "namesKnown", fn := fun _ => fun
  | [d] => { results := [.lit (.bool true)], args := [d] }
  | _ => none }
def namesKnownRow : OpenClaim := { program := "ytemhodenkgngmaadoor", sum := "95f7693da5de6a37f6dd053ffbf526a7c79485917b1464df231fea86bf53e77c", func := "recoup/recouplaw13.NamesKnown", spec := "namesKnown", inPlace := ["internal/bytealg.IndexByteString"], unfollowed := true, recurses := true, named := ["recoup/token.words"], loops := true, apart := false, laid := [("recoup/token.words", laid_recoup_token_words)] }
def NamesKnownSaid : Prop := namesKnownRow.holds Tryd.pinned (OpenSpec.ofChange namesKnownSpec)

/-- ITS FALSE NEIGHBOUR: 'it returns false'. Refute it at one input. -/
def namesKnownWrong : ChangeSpec := { name := "namesKnown", fn := fun _ => fun
  | [d] => { results := [.lit (.bool false)], args := [d] }
  | _ => none }
def NamesKnownWrongFalsely : Prop := namesKnownRow.holds Tryd.pinned (OpenSpec.ofChange namesKnownWrong)

/-- 'recouplaw13.NamesBegin': WHATEVER THE INPUT: true; the input reads as it did. -/
def namesBeginSpec : ChangeSpec := { name := "namesBegin", fn := fun _ => fun
  | [d1, d2] => { results := [.lit (.bool true)], args := [d1, d2] }
  | _ => none }
def namesBeginRow : OpenClaim := { program := "ytemhodenkgngmaadoor", sum := "95f7693da5de6a37f6dd053ffbf526a7c79485917b1464df231fea86bf53e77c", func := "recoup/recouplaw13.NamesBegin", spec := "namesBegin", inPlace := ["internal/bytealg.IndexByteString"], unfollowed := true, recurses := true, named := ["recoup/token.words"], loops := true, apart := false, laid := [("recoup/token.words", laid_recoup_token_words)] }
def NamesBeginSaid : Prop := namesBeginRow.holds Tryd.pinned (OpenSpec.ofChange namesBeginSpec)

/-- ITS FALSE NEIGHBOUR: 'it returns false'. Refute it at one input. -/
def namesBeginWrong : ChangeSpec := { name := "namesBegin", fn := fun _ => fun
  | [d1, d2] => { results := [.lit (.bool false)], args := [d1, d2] }
  | _ => none }
def NamesBeginWrongFalsely : Prop := namesBeginRow.holds Tryd.pinned (OpenSpec.ofChange namesBeginWrong)

/-- 'recouplaw13.NamesMore': WHATEVER THE INPUT: true; the input reads as it did. -/
def namesMoreSpec : ChangeSpec := { name := "namesMore", fn := fun _ => fun
  | [d] => { results := [.lit (.bool true)], args := [d] }
  | _ => none }
def namesMoreRow : OpenClaim := { program := "ytemhodenkgngmaadoor", sum := "95f7693da5de6a37f6dd053ffbf526a7c79485917b1464df231fea86bf53e77c", func := "recoup/recouplaw13.NamesMore", spec := "namesMore", inPlace := ["internal/bytealg.IndexByteString"], unfollowed := true, recurses := true, named := ["recoup/token.words"], loops := true, apart := false, laid := [("recoup/token.words", laid_recoup_token_words)] }
def NamesMoreSaid : Prop := namesMoreRow.holds Tryd.pinned (OpenSpec.ofChange namesMoreSpec)

/-- ITS FALSE NEIGHBOUR: 'it returns false'. Refute it at one input. -/
def namesMoreWrong : ChangeSpec := { name := "namesMore", fn := fun _ => fun
  | [d] => { results := [.lit (.bool false)], args := [d] }
  | _ => none }
def NamesMoreWrongFalsely : Prop := namesMoreRow.holds Tryd.pinned (OpenSpec.ofChange namesMoreWrong)

/- THE SECOND FORM. 'bulk': how many values and letters a reading holds, each counted each time it is reached (what is shared counts as often as it is met; a slice's spare places count too). A statement '..UptoSaid' is the law's where the arguments, and the package variables that the reading takes, are together of bulk at most 1048576: NARROWER than '..Said'. Prove '..Said' where nothing that the law and all that it calls make is longer than what came in: it says more and counts as full. Else prove '..UptoSaid'. A law counts once. -/
mutual
def uptoBulk {H : Type} : DataW H → Nat
  | .lit (.string bytes) => bytes.length + 1
  | .lit _ => 1
  | .nil => 1
  | .ptr d => uptoBulk d + 1
  | .slice elems spare => uptoBulkAll elems + uptoBulkAll spare + 1
  | .agg parts => uptoBulkAll parts + 1
  | .iface _ d => uptoBulk d + 1
  | .map entries => uptoBulkEntries entries + 1
  | .held _ => 1
def uptoBulkAll {H : Type} : List (DataW H) → Nat
  | [] => 0
  | d :: r => uptoBulk d + uptoBulkAll r
def uptoBulkEntries {H : Type} : List (Lit × DataW H) → Nat
  | [] => 0
  | x :: r => uptoBulkEntry x + uptoBulkEntries r
def uptoBulkEntry {H : Type} : Lit × DataW H → Nat
  | (.string bytes, d) => bytes.length + uptoBulk d + 1
  | (_, d) => uptoBulk d + 1
 end
def uptoSmall : (H : Type) → List (DataW H) → Bool := fun _ ds => decide (uptoBulkAll ds ≤ 1048576)
def OpenSpec.upto (s : _root_.Go.ChangeSpec) : _root_.Go.OpenSpec := { _root_.Go.OpenSpec.ofChange s with cond := some uptoSmall }

/-- 'recouplaw13.NamesTables', WHERE WHAT IT READS IS OF BULK AT MOST 1048576: true; the input reads as it did. -/
def namesTablesUptoRow : OpenClaim := { program := "ytemhodenkgngmaadoor", sum := "95f7693da5de6a37f6dd053ffbf526a7c79485917b1464df231fea86bf53e77c", func := "recoup/recouplaw13.NamesTables", spec := "namesTables", inPlace := ["internal/bytealg.IndexByteString"], unfollowed := true, recurses := true, named := ["recoup/token.words"], loops := true, apart := false, laid := [("recoup/token.words", laid_recoup_token_words)], narrowed := true }
def NamesTablesUptoSaid : Prop := namesTablesUptoRow.holds Tryd.pinned (OpenSpec.upto namesTablesSpec)

/-- 'recouplaw13.NamesLooks', WHERE WHAT IT READS IS OF BULK AT MOST 1048576: true; the input reads as it did. -/
def namesLooksUptoRow : OpenClaim := { program := "ytemhodenkgngmaadoor", sum := "95f7693da5de6a37f6dd053ffbf526a7c79485917b1464df231fea86bf53e77c", func := "recoup/recouplaw13.NamesLooks", spec := "namesLooks", inPlace := ["internal/bytealg.IndexByteString"], unfollowed := true, recurses := true, named := ["recoup/token.words"], apart := false, laid := [("recoup/token.words", laid_recoup_token_words)], narrowed := true }
def NamesLooksUptoSaid : Prop := namesLooksUptoRow.holds Tryd.pinned (OpenSpec.upto namesLooksSpec)

/-- 'recouplaw13.NamesUses', WHERE WHAT IT READS IS OF BULK AT MOST 1048576: true; the input reads as it did. -/
def namesUsesUptoRow : OpenClaim := { program := "ytemhodenkgngmaadoor", sum := "95f7693da5de6a37f6dd053ffbf526a7c79485917b1464df231fea86bf53e77c", func := "recoup/recouplaw13.NamesUses", spec := "namesUses", inPlace := ["internal/bytealg.IndexByteString"], unfollowed := true, recurses := true, named := ["recoup/token.words"], loops := true, apart := false, laid := [("recoup/token.words", laid_recoup_token_words)], narrowed := true }
def NamesUsesUptoSaid : Prop := namesUsesUptoRow.holds Tryd.pinned (OpenSpec.upto namesUsesSpec)

/-- 'recouplaw13.NamesKnown', WHERE WHAT IT READS IS OF BULK AT MOST 1048576: true; the input reads as it did. -/
def namesKnownUptoRow : OpenClaim := { program := "ytemhodenkgngmaadoor", sum := "95f7693da5de6a37f6dd053ffbf526a7c79485917b1464df231fea86bf53e77c", func := "recoup/recouplaw13.NamesKnown", spec := "namesKnown", inPlace := ["internal/bytealg.IndexByteString"], unfollowed := true, recurses := true, named := ["recoup/token.words"], loops := true, apart := false, laid := [("recoup/token.words", laid_recoup_token_words)], narrowed := true }
def NamesKnownUptoSaid : Prop := namesKnownUptoRow.holds Tryd.pinned (OpenSpec.upto namesKnownSpec)

/-- 'recouplaw13.NamesBegin', WHERE WHAT IT READS IS OF BULK AT MOST 1048576: true; the input reads as it did. -/
def namesBeginUptoRow : OpenClaim := { program := "ytemhodenkgngmaadoor", sum := "95f7693da5de6a37f6dd053ffbf526a7c79485917b1464df231fea86bf53e77c", func := "recoup/recouplaw13.NamesBegin", spec := "namesBegin", inPlace := ["internal/bytealg.IndexByteString"], unfollowed := true, recurses := true, named := ["recoup/token.words"], loops := true, apart := false, laid := [("recoup/token.words", laid_recoup_token_words)], narrowed := true }
def NamesBeginUptoSaid : Prop := namesBeginUptoRow.holds Tryd.pinned (OpenSpec.upto namesBeginSpec)

/-- 'recouplaw13.NamesMore', WHERE WHAT IT READS IS OF BULK AT MOST 1048576: true; the input reads as it did. -/
def namesMoreUptoRow : OpenClaim := { program := "ytemhodenkgngmaadoor", sum := "95f7693da5de6a37f6dd053ffbf526a7c79485917b1464df231fea86bf53e77c", func := "recoup/recouplaw13.NamesMore", spec := "namesMore", inPlace := ["internal/bytealg.IndexByteString"], unfollowed := true, recurses := true, named := ["recoup/token.words"], loops := true, apart := false, laid := [("recoup/token.words", laid_recoup_token_words)], narrowed := true }
def NamesMoreUptoSaid : Prop := namesMoreUptoRow.holds Tryd.pinned (OpenSpec.upto namesMoreSpec)

end Rows
end Go.Proofs.YtemhodenkgngmaaDoor
