/-
  No cell of these rows narrows 'for every input' (looked for: loops, veiled, ifaces, maps, wideKeys, modest, calm, conditions, laid).
  DERIVED. THE GIVEN ROWS OF THIS SEAT. 4 by the template 'for every input the law returns true; each argument reads behind the call as it read before'; 0 by the template 'total and deterministic' (their statements: YtokdejhbjoglcaaTotals.lean).
  GIVEN WITH THE SEED: the statements are not yours to turn. If you find one false, say at which input.
  Laid BY PROGRAM, IN A SANDBOX (cutbox-rows.mjs): the forced cells as the released guide's own fill.sh prints them over the translation 983e433339638227… (all of the seat's roots in one cut). By AI agents, Wed Nov 11 2026. No macro, syntax, notation, axiom, sorry.
-/
import Derived.Test.YtokdejhbjoglcaaChecked
import GoSem.Claim
import GoSem.ClaimJoined
import GoSem.ClaimMapViews
import Derived.JoinedTies
import Derived.KernelRfl
namespace Go.Proofs.Ytokdejhbjoglcaa
/- THE CELL 'sum', in the pinned program and in every row, IS THE sha256 OF THE DUMP (.gsa) THAT YtokdejhbjoglcaaProg.lean LOADS. Nothing in Lean hashes anything: it is a label: what it is worth is what the hold of that sum in a sandbox is worth. -/
noncomputable def Try.pinned : Pinned := { name := "ytokdejhbjoglcaa", sum := "983e433339638227781ff0cf70a74b1b0f9779f7f194093046be3be737646fa7", checked := Try.checked }
namespace Rows
def none {H : Type} : Left H := { results := [], args := [] }

/-- 'recouplaw18.VerdictSays': WHATEVER THE INPUT: true; the input reads as it did. -/
def verdictSaysSpec : ChangeSpec := { name := "verdictSays", fn := fun _ => fun
  | [d1, d2] => { results := [.lit (.bool true)], args := [d1, d2] }
  | _ => none }
def verdictSaysRow : OpenClaim := { program := "ytokdejhbjoglcaa", sum := "983e433339638227781ff0cf70a74b1b0f9779f7f194093046be3be737646fa7", func := "recoup/recouplaw18.VerdictSays", spec := "verdictSays", unfollowed := true, recurses := true, apart := false }
def VerdictSaysSaid : Prop := verdictSaysRow.holds Try.pinned (OpenSpec.ofChange verdictSaysSpec)

/-- ITS FALSE NEIGHBOUR: 'it returns false'. Refute it at one input. -/
def verdictSaysWrong : ChangeSpec := { name := "verdictSays", fn := fun _ => fun
  | [d1, d2] => { results := [.lit (.bool false)], args := [d1, d2] }
  | _ => none }
def VerdictSaysWrongFalsely : Prop := verdictSaysRow.holds Try.pinned (OpenSpec.ofChange verdictSaysWrong)

/-- 'recouplaw18.VerdictGives': WHATEVER THE INPUT: true; the input reads as it did. -/
def verdictGivesSpec : ChangeSpec := { name := "verdictGives", fn := fun _ => fun
  | [d1, d2, d3] => { results := [.lit (.bool true)], args := [d1, d2, d3] }
  | _ => none }
def verdictGivesRow : OpenClaim := { program := "ytokdejhbjoglcaa", sum := "983e433339638227781ff0cf70a74b1b0f9779f7f194093046be3be737646fa7", func := "recoup/recouplaw18.VerdictGives", spec := "verdictGives", inPlace := ["internal/bytealg.MakeNoZero"], unfollowed := true, recurses := true, apart := false }
def VerdictGivesSaid : Prop := verdictGivesRow.holds Try.pinned (OpenSpec.ofChange verdictGivesSpec)

/-- ITS FALSE NEIGHBOUR: 'it returns false'. Refute it at one input. -/
def verdictGivesWrong : ChangeSpec := { name := "verdictGives", fn := fun _ => fun
  | [d1, d2, d3] => { results := [.lit (.bool false)], args := [d1, d2, d3] }
  | _ => none }
def VerdictGivesWrongFalsely : Prop := verdictGivesRow.holds Try.pinned (OpenSpec.ofChange verdictGivesWrong)

/-- 'recouplaw18.VerdictFewer': WHATEVER THE INPUT: true; the input reads as it did. -/
def verdictFewerSpec : ChangeSpec := { name := "verdictFewer", fn := fun _ => fun
  | [d1, d2, d3] => { results := [.lit (.bool true)], args := [d1, d2, d3] }
  | _ => none }
def verdictFewerRow : OpenClaim := { program := "ytokdejhbjoglcaa", sum := "983e433339638227781ff0cf70a74b1b0f9779f7f194093046be3be737646fa7", func := "recoup/recouplaw18.VerdictFewer", spec := "verdictFewer", inPlace := ["internal/bytealg.MakeNoZero"], unfollowed := true, recurses := true, apart := false }
def VerdictFewerSaid : Prop := verdictFewerRow.holds Try.pinned (OpenSpec.ofChange verdictFewerSpec)

/-- ITS FALSE NEIGHBOUR: 'it returns false'. Refute it at one input. -/
def verdictFewerWrong : ChangeSpec := { name := "verdictFewer", fn := fun _ => fun
  | [d1, d2, d3] => { results := [.lit (.bool false)], args := [d1, d2, d3] }
  | _ => none }
def VerdictFewerWrongFalsely : Prop := verdictFewerRow.holds Try.pinned (OpenSpec.ofChange verdictFewerWrong)

/-- 'recouplaw18.VerdictFatal': WHATEVER THE INPUT: true; the input reads as it did. -/
def verdictFatalSpec : ChangeSpec := { name := "verdictFatal", fn := fun _ => fun
  | [d1, d2] => { results := [.lit (.bool true)], args := [d1, d2] }
  | _ => none }
def verdictFatalRow : OpenClaim := { program := "ytokdejhbjoglcaa", sum := "983e433339638227781ff0cf70a74b1b0f9779f7f194093046be3be737646fa7", func := "recoup/recouplaw18.VerdictFatal", spec := "verdictFatal", inPlace := ["internal/bytealg.MakeNoZero"], unfollowed := true, recurses := true, apart := false }
def VerdictFatalSaid : Prop := verdictFatalRow.holds Try.pinned (OpenSpec.ofChange verdictFatalSpec)

/-- ITS FALSE NEIGHBOUR: 'it returns false'. Refute it at one input. -/
def verdictFatalWrong : ChangeSpec := { name := "verdictFatal", fn := fun _ => fun
  | [d1, d2] => { results := [.lit (.bool false)], args := [d1, d2] }
  | _ => none }
def VerdictFatalWrongFalsely : Prop := verdictFatalRow.holds Try.pinned (OpenSpec.ofChange verdictFatalWrong)

/- THE SECOND FORM. 'bulk': how many values and letters a reading holds, each counted each time it is reached (what is shared counts as often as it is met; a slice's spare places count too). A statement '..UptoSaid' is the law's where the arguments, and the package variables that the reading takes, are together of bulk at most 1048576: NARROWER than '..Said'. Prove '..Said' where nothing that the law and all that it calls make is longer than what came in: it says more and counts as full. Else prove '..UptoSaid'. A law counts once. -/
mutual
def uptoBulk {H : Type} : DataW H → Nat
  | .lit (.string bytes) => bytes.length + 1
  | .lit _ => 1
  | .nil => 1
  | .ptr d => uptoBulk d + 1
  | .slice elems spare => uptoBulkAll elems + uptoBulkAll spare + 1
  | .agg parts => uptoBulkAll parts + 1
  | .iface _ d => uptoBulk d + 1
  | .map entries => uptoBulkEntries entries + 1
  | .held _ => 1
def uptoBulkAll {H : Type} : List (DataW H) → Nat
  | [] => 0
  | d :: r => uptoBulk d + uptoBulkAll r
def uptoBulkEntries {H : Type} : List (Lit × DataW H) → Nat
  | [] => 0
  | x :: r => uptoBulkEntry x + uptoBulkEntries r
def uptoBulkEntry {H : Type} : Lit × DataW H → Nat
  | (.string bytes, d) => bytes.length + uptoBulk d + 1
  | (_, d) => uptoBulk d + 1
 end
def uptoSmall : (H : Type) → List (DataW H) → Bool := fun _ ds => decide (uptoBulkAll ds ≤ 1048576)
def OpenSpec.upto (s : _root_.Go.ChangeSpec) : _root_.Go.OpenSpec := { _root_.Go.OpenSpec.ofChange s with cond := some uptoSmall }

/-- 'recouplaw18.VerdictSays', WHERE WHAT IT READS IS OF BULK AT MOST 1048576: true; the input reads as it did. -/
def verdictSaysUptoRow : OpenClaim := { program := "ytokdejhbjoglcaa", sum := "983e433339638227781ff0cf70a74b1b0f9779f7f194093046be3be737646fa7", func := "recoup/recouplaw18.VerdictSays", spec := "verdictSays", unfollowed := true, recurses := true, apart := false, narrowed := true }
def VerdictSaysUptoSaid : Prop := verdictSaysUptoRow.holds Try.pinned (OpenSpec.upto verdictSaysSpec)

/-- 'recouplaw18.VerdictGives', WHERE WHAT IT READS IS OF BULK AT MOST 1048576: true; the input reads as it did. -/
def verdictGivesUptoRow : OpenClaim := { program := "ytokdejhbjoglcaa", sum := "983e433339638227781ff0cf70a74b1b0f9779f7f194093046be3be737646fa7", func := "recoup/recouplaw18.VerdictGives", spec := "verdictGives", inPlace := ["internal/bytealg.MakeNoZero"], unfollowed := true, recurses := true, apart := false, narrowed := true }
def VerdictGivesUptoSaid : Prop := verdictGivesUptoRow.holds Try.pinned (OpenSpec.upto verdictGivesSpec)

/-- 'recouplaw18.VerdictFewer', WHERE WHAT IT READS IS OF BULK AT MOST 1048576: true; the input reads as it did. -/
def verdictFewerUptoRow : OpenClaim := { program := "ytokdejhbjoglcaa", sum := "983e433339638227781ff0cf70a74b1b0f9779f7f194093046be3be737646fa7", func := "recoup/recouplaw18.VerdictFewer", spec := "verdictFewer", inPlace := ["internal/bytealg.MakeNoZero"], unfollowed := true, recurses := true, apart := false, narrowed := true }
def VerdictFewerUptoSaid : Prop := verdictFewerUptoRow.holds Try.pinned (OpenSpec.upto verdictFewerSpec)

/-- 'recouplaw18.VerdictFatal', WHERE WHAT IT READS IS OF BULK AT MOST 1048576: true; the input reads as it did. -/
def verdictFatalUptoRow : OpenClaim := { program := "ytokdejhbjoglcaa", sum := "983e433339638227781ff0cf70a74b1b0f9779f7f194093046be3be737646fa7", func := "recoup/recouplaw18.VerdictFatal", spec := "verdictFatal", inPlace := ["internal/bytealg.MakeNoZero"], unfollowed := true, recurses := true, apart := false, narrowed := true }
def VerdictFatalUptoSaid : Prop := verdictFatalUptoRow.holds Try.pinned (OpenSpec.upto verdictFatalSpec)

end Rows
end Go.Proofs.Ytokdejhbjoglcaa
