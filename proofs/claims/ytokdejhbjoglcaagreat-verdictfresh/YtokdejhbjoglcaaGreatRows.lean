/-
  No cell of these rows narrows 'for every input' (looked for: loops, veiled, ifaces, maps, wideKeys, modest, calm, conditions, laid).
  DERIVED. THE GIVEN ROWS OF THIS SEAT. 2 by the template 'for every input the law returns true; each argument reads behind the call as it read before'; 0 by the template 'total and deterministic' (their statements: YtokdejhbjoglcaaGreatTotals.lean).
  GIVEN WITH THE SEED: the statements are not yours to turn. If you find one false, say at which input.
  Laid BY PROGRAM, IN A SANDBOX (cutbox-rows.mjs): the forced cells as the released guide's own fill.sh prints them over the translation c0abb6f869285e60… (all of the seat's roots in one cut). By AI agents, Wed Nov 11 2026. No macro, syntax, notation, axiom, sorry.
-/
import Derived.Test.YtokdejhbjoglcaaGreatChecked
import GoSem.Claim
import GoSem.ClaimJoined
import GoSem.ClaimMapViews
import Derived.JoinedTies
import Derived.KernelRfl
namespace Go.Proofs.YtokdejhbjoglcaaGreat
/- THE CELL 'sum', in the pinned program and in every row, IS THE sha256 OF THE DUMP (.gsa) THAT YtokdejhbjoglcaaGreatProg.lean LOADS. Nothing in Lean hashes anything: it is a label: what it is worth is what the hold of that sum in a sandbox is worth. -/
noncomputable def Tryz.pinned : Pinned := { name := "ytokdejhbjoglcaagreat", sum := "c0abb6f869285e60b58518929a84902deabe311475bf7b3959cb684b3bbc732f", checked := Tryz.checked }
namespace Rows
def none {H : Type} : Left H := { results := [], args := [] }

/-- 'recouplaw18.VerdictDecodes': WHATEVER THE INPUT: true; the input reads as it did. -/
def verdictDecodesSpec : ChangeSpec := { name := "verdictDecodes", fn := fun _ => fun
  | [d1, d2] => { results := [.lit (.bool true)], args := [d1, d2] }
  | _ => none }
def verdictDecodesRow : OpenClaim := { program := "ytokdejhbjoglcaagreat", sum := "c0abb6f869285e60b58518929a84902deabe311475bf7b3959cb684b3bbc732f", func := "recoup/recouplaw18.VerdictDecodes", spec := "verdictDecodes", inPlace := ["internal/bytealg.MakeNoZero"], unfollowed := true, recurses := true, apart := false }
def VerdictDecodesSaid : Prop := verdictDecodesRow.holds Tryz.pinned (OpenSpec.ofChange verdictDecodesSpec)

/-- ITS FALSE NEIGHBOUR: 'it returns false'. Refute it at one input. -/
def verdictDecodesWrong : ChangeSpec := { name := "verdictDecodes", fn := fun _ => fun
  | [d1, d2] => { results := [.lit (.bool false)], args := [d1, d2] }
  | _ => none }
def VerdictDecodesWrongFalsely : Prop := verdictDecodesRow.holds Tryz.pinned (OpenSpec.ofChange verdictDecodesWrong)

/-- 'recouplaw18.VerdictFresh': WHATEVER THE INPUT: true; the input reads as it did. -/
def verdictFreshSpec : ChangeSpec := { name := "verdictFresh", fn := fun _ => fun
  | [d1, d2] => { results := [.lit (.bool true)], args := [d1, d2] }
  | _ => none }
def verdictFreshRow : OpenClaim := { program := "ytokdejhbjoglcaagreat", sum := "c0abb6f869285e60b58518929a84902deabe311475bf7b3959cb684b3bbc732f", func := "recoup/recouplaw18.VerdictFresh", spec := "verdictFresh", inPlace := ["internal/bytealg.MakeNoZero"], unfollowed := true, recurses := true, apart := false }
def VerdictFreshSaid : Prop := verdictFreshRow.holds Tryz.pinned (OpenSpec.ofChange verdictFreshSpec)

/-- ITS FALSE NEIGHBOUR: 'it returns false'. Refute it at one input. -/
def verdictFreshWrong : ChangeSpec := { name := "verdictFresh", fn := fun _ => fun
  | [d1, d2] => { results := [.lit (.bool false)], args := [d1, d2] }
  | _ => none }
def VerdictFreshWrongFalsely : Prop := verdictFreshRow.holds Tryz.pinned (OpenSpec.ofChange verdictFreshWrong)

/- THE SECOND FORM. 'bulk': how many values and letters a reading holds, each counted each time it is reached (what is shared counts as often as it is met; a slice's spare places count too). A statement '..UptoSaid' is the law's where the arguments, and the package variables that the reading takes, are together of bulk at most 1048576: NARROWER than '..Said'. Prove '..Said' where nothing that the law and all that it calls make is longer than what came in: it says more and counts as full. Else prove '..UptoSaid'. A law counts once. -/
mutual
def uptoBulk {H : Type} : DataW H → Nat
  | .lit (.string bytes) => bytes.length + 1
  | .lit _ => 1
  | .nil => 1
  | .ptr d => uptoBulk d + 1
  | .slice elems spare => uptoBulkAll elems + uptoBulkAll spare + 1
  | .agg parts => uptoBulkAll parts + 1
  | .iface _ d => uptoBulk d + 1
  | .map entries => uptoBulkEntries entries + 1
  | .held _ => 1
def uptoBulkAll {H : Type} : List (DataW H) → Nat
  | [] => 0
  | d :: r => uptoBulk d + uptoBulkAll r
def uptoBulkEntries {H : Type} : List (Lit × DataW H) → Nat
  | [] => 0
  | x :: r => uptoBulkEntry x + uptoBulkEntries r
def uptoBulkEntry {H : Type} : Lit × DataW H → Nat
  | (.string bytes, d) => bytes.length + uptoBulk d + 1
  | (_, d) => uptoBulk d + 1
 end
def uptoSmall : (H : Type) → List (DataW H) → Bool := fun _ ds => decide (uptoBulkAll ds ≤ 1048576)
def OpenSpec.upto (s : _root_.Go.ChangeSpec) : _root_.Go.OpenSpec := { _root_.Go.OpenSpec.ofChange s with cond := some uptoSmall }

/-- 'recouplaw18.VerdictDecodes', WHERE WHAT IT READS IS OF BULK AT MOST 1048576: true; the input reads as it did. -/
def verdictDecodesUptoRow : OpenClaim := { program := "ytokdejhbjoglcaagreat", sum := "c0abb6f869285e60b58518929a84902deabe311475bf7b3959cb684b3bbc732f", func := "recoup/recouplaw18.VerdictDecodes", spec := "verdictDecodes", inPlace := ["internal/bytealg.MakeNoZero"], unfollowed := true, recurses := true, apart := false, narrowed := true }
def VerdictDecodesUptoSaid : Prop := verdictDecodesUptoRow.holds Tryz.pinned (OpenSpec.upto verdictDecodesSpec)

/-- 'recouplaw18.VerdictFresh', WHERE WHAT IT READS IS OF BULK AT MOST 1048576: true; the input reads as it did. -/
def verdictFreshUptoRow : OpenClaim := { program := "ytokdejhbjoglcaagreat", sum := "c0abb6f869285e60b58518929a84902deabe311475bf7b3959cb684b3bbc732f", func := "recoup/recouplaw18.VerdictFresh", spec := "verdictFresh", inPlace := ["internal/bytealg.MakeNoZero"], unfollowed := true, recurses := true, apart := false, narrowed := true }
def VerdictFreshUptoSaid : Prop := verdictFreshUptoRow.holds Tryz.pinned (OpenSpec.upto verdictFreshSpec)

end Rows
end Go.Proofs.YtokdejhbjoglcaaGreat
