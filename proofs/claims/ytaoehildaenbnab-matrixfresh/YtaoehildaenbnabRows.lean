/-
  No cell of these rows narrows 'for every input' (looked for: loops, veiled, ifaces, maps, wideKeys, modest, calm, conditions, laid).
  DERIVED. THE GIVEN ROWS OF THIS SEAT. 4 by the template 'for every input the law returns true; each argument reads behind the call as it read before'; 0 by the template 'total and deterministic' (their statements: YtaoehildaenbnabTotals.lean).
  GIVEN WITH THE SEED: the statements are not yours to turn. If you find one false, say at which input.
  Laid BY PROGRAM, IN A SANDBOX (cutbox-rows.mjs): the forced cells as the released guide's own fill.sh prints them over the translation aee9b64091c84b9e… (all of the seat's roots in one cut). By AI agents, Wed Nov 11 2026. No macro, syntax, notation, axiom, sorry.
-/
import Derived.Test.YtaoehildaenbnabChecked
import GoSem.Claim
import GoSem.ClaimJoined
import GoSem.ClaimMapViews
import Derived.JoinedTies
import Derived.KernelRfl
namespace Go.Proofs.Ytaoehildaenbnab
/- THE CELL 'sum', in the pinned program and in every row, IS THE sha256 OF THE DUMP (.gsa) THAT YtaoehildaenbnabProg.lean LOADS. Nothing in Lean hashes anything: it is a label: what it is worth is what the hold of that sum in a sandbox is worth. -/
noncomputable def Try.pinned : Pinned := { name := "ytaoehildaenbnab", sum := "aee9b64091c84b9e12b631b307b75001511a317c6ac5ac363b4ecc921b714665", checked := Try.checked }
namespace Rows
def none {H : Type} : Left H := { results := [], args := [] }

/-- 'recouplaw03.MatrixTurns': WHATEVER THE INPUT: true; the input reads as it did. -/
def matrixTurnsSpec : ChangeSpec := { name := "matrixTurns", fn := fun _ => fun
  | [d1, d2] => { results := [.lit (.bool true)], args := [d1, d2] }
  | _ => none }
def matrixTurnsRow : OpenClaim := { program := "ytaoehildaenbnab", sum := "aee9b64091c84b9e12b631b307b75001511a317c6ac5ac363b4ecc921b714665", func := "recoup/recouplaw03.MatrixTurns", spec := "matrixTurns", apart := false }
def MatrixTurnsSaid : Prop := matrixTurnsRow.holds Try.pinned (OpenSpec.ofChange matrixTurnsSpec)

/-- ITS FALSE NEIGHBOUR: 'it returns false'. Refute it at one input. -/
def matrixTurnsWrong : ChangeSpec := { name := "matrixTurns", fn := fun _ => fun
  | [d1, d2] => { results := [.lit (.bool false)], args := [d1, d2] }
  | _ => none }
def MatrixTurnsWrongFalsely : Prop := matrixTurnsRow.holds Try.pinned (OpenSpec.ofChange matrixTurnsWrong)

/-- 'recouplaw03.MatrixKrons': WHATEVER THE INPUT: true; the input reads as it did. -/
def matrixKronsSpec : ChangeSpec := { name := "matrixKrons", fn := fun _ => fun
  | [d1, d2] => { results := [.lit (.bool true)], args := [d1, d2] }
  | _ => none }
def matrixKronsRow : OpenClaim := { program := "ytaoehildaenbnab", sum := "aee9b64091c84b9e12b631b307b75001511a317c6ac5ac363b4ecc921b714665", func := "recoup/recouplaw03.MatrixKrons", spec := "matrixKrons", apart := false }
def MatrixKronsSaid : Prop := matrixKronsRow.holds Try.pinned (OpenSpec.ofChange matrixKronsSpec)

/-- ITS FALSE NEIGHBOUR: 'it returns false'. Refute it at one input. -/
def matrixKronsWrong : ChangeSpec := { name := "matrixKrons", fn := fun _ => fun
  | [d1, d2] => { results := [.lit (.bool false)], args := [d1, d2] }
  | _ => none }
def MatrixKronsWrongFalsely : Prop := matrixKronsRow.holds Try.pinned (OpenSpec.ofChange matrixKronsWrong)

/-- 'recouplaw03.MatrixApplies': WHATEVER THE INPUT: true; the input reads as it did. -/
def matrixAppliesSpec : ChangeSpec := { name := "matrixApplies", fn := fun _ => fun
  | [d1, d2, d3] => { results := [.lit (.bool true)], args := [d1, d2, d3] }
  | _ => none }
def matrixAppliesRow : OpenClaim := { program := "ytaoehildaenbnab", sum := "aee9b64091c84b9e12b631b307b75001511a317c6ac5ac363b4ecc921b714665", func := "recoup/recouplaw03.MatrixApplies", spec := "matrixApplies", apart := false }
def MatrixAppliesSaid : Prop := matrixAppliesRow.holds Try.pinned (OpenSpec.ofChange matrixAppliesSpec)

/-- ITS FALSE NEIGHBOUR: 'it returns false'. Refute it at one input. -/
def matrixAppliesWrong : ChangeSpec := { name := "matrixApplies", fn := fun _ => fun
  | [d1, d2, d3] => { results := [.lit (.bool false)], args := [d1, d2, d3] }
  | _ => none }
def MatrixAppliesWrongFalsely : Prop := matrixAppliesRow.holds Try.pinned (OpenSpec.ofChange matrixAppliesWrong)

/-- 'recouplaw03.MatrixFresh': WHATEVER THE INPUT: true; the input reads as it did. -/
def matrixFreshSpec : ChangeSpec := { name := "matrixFresh", fn := fun _ => fun
  | [d1, d2] => { results := [.lit (.bool true)], args := [d1, d2] }
  | _ => none }
def matrixFreshRow : OpenClaim := { program := "ytaoehildaenbnab", sum := "aee9b64091c84b9e12b631b307b75001511a317c6ac5ac363b4ecc921b714665", func := "recoup/recouplaw03.MatrixFresh", spec := "matrixFresh", apart := false }
def MatrixFreshSaid : Prop := matrixFreshRow.holds Try.pinned (OpenSpec.ofChange matrixFreshSpec)

/-- ITS FALSE NEIGHBOUR: 'it returns false'. Refute it at one input. -/
def matrixFreshWrong : ChangeSpec := { name := "matrixFresh", fn := fun _ => fun
  | [d1, d2] => { results := [.lit (.bool false)], args := [d1, d2] }
  | _ => none }
def MatrixFreshWrongFalsely : Prop := matrixFreshRow.holds Try.pinned (OpenSpec.ofChange matrixFreshWrong)

/- THE SECOND FORM. 'bulk': how many values and letters a reading holds, each counted each time it is reached (what is shared counts as often as it is met; a slice's spare places count too). A statement '..UptoSaid' is the law's where the arguments, and the package variables that the reading takes, are together of bulk at most 1048576: NARROWER than '..Said'. Prove '..Said' where nothing that the law and all that it calls make is longer than what came in: it says more and counts as full. Else prove '..UptoSaid'. A law counts once. -/
mutual
def uptoBulk {H : Type} : DataW H → Nat
  | .lit (.string bytes) => bytes.length + 1
  | .lit _ => 1
  | .nil => 1
  | .ptr d => uptoBulk d + 1
  | .slice elems spare => uptoBulkAll elems + uptoBulkAll spare + 1
  | .agg parts => uptoBulkAll parts + 1
  | .iface _ d => uptoBulk d + 1
  | .map entries => uptoBulkEntries entries + 1
  | .held _ => 1
def uptoBulkAll {H : Type} : List (DataW H) → Nat
  | [] => 0
  | d :: r => uptoBulk d + uptoBulkAll r
def uptoBulkEntries {H : Type} : List (Lit × DataW H) → Nat
  | [] => 0
  | x :: r => uptoBulkEntry x + uptoBulkEntries r
def uptoBulkEntry {H : Type} : Lit × DataW H → Nat
  | (.string bytes, d) => bytes.length + uptoBulk d + 1
  | (_, d) => uptoBulk d + 1
 end
def uptoSmall : (H : Type) → List (DataW H) → Bool := fun _ ds => decide (uptoBulkAll ds ≤ 1048576)
def OpenSpec.upto (s : _root_.Go.ChangeSpec) : _root_.Go.OpenSpec := { _root_.Go.OpenSpec.ofChange s with cond := some uptoSmall }

/-- 'recouplaw03.MatrixTurns', WHERE WHAT IT READS IS OF BULK AT MOST 1048576: true; the input reads as it did. -/
def matrixTurnsUptoRow : OpenClaim := { program := "ytaoehildaenbnab", sum := "aee9b64091c84b9e12b631b307b75001511a317c6ac5ac363b4ecc921b714665", func := "recoup/recouplaw03.MatrixTurns", spec := "matrixTurns", apart := false, narrowed := true }
def MatrixTurnsUptoSaid : Prop := matrixTurnsUptoRow.holds Try.pinned (OpenSpec.upto matrixTurnsSpec)

/-- 'recouplaw03.MatrixKrons', WHERE WHAT IT READS IS OF BULK AT MOST 1048576: true; the input reads as it did. -/
def matrixKronsUptoRow : OpenClaim := { program := "ytaoehildaenbnab", sum := "aee9b64091c84b9e12b631b307b75001511a317c6ac5ac363b4ecc921b714665", func := "recoup/recouplaw03.MatrixKrons", spec := "matrixKrons", apart := false, narrowed := true }
def MatrixKronsUptoSaid : Prop := matrixKronsUptoRow.holds Try.pinned (OpenSpec.upto matrixKronsSpec)

/-- 'recouplaw03.MatrixApplies', WHERE WHAT IT READS IS OF BULK AT MOST 1048576: true; the input reads as it did. -/
def matrixAppliesUptoRow : OpenClaim := { program := "ytaoehildaenbnab", sum := "aee9b64091c84b9e12b631b307b75001511a317c6ac5ac363b4ecc921b714665", func := "recoup/recouplaw03.MatrixApplies", spec := "matrixApplies", apart := false, narrowed := true }
def MatrixAppliesUptoSaid : Prop := matrixAppliesUptoRow.holds Try.pinned (OpenSpec.upto matrixAppliesSpec)

/-- 'recouplaw03.MatrixFresh', WHERE WHAT IT READS IS OF BULK AT MOST 1048576: true; the input reads as it did. -/
def matrixFreshUptoRow : OpenClaim := { program := "ytaoehildaenbnab", sum := "aee9b64091c84b9e12b631b307b75001511a317c6ac5ac363b4ecc921b714665", func := "recoup/recouplaw03.MatrixFresh", spec := "matrixFresh", apart := false, narrowed := true }
def MatrixFreshUptoSaid : Prop := matrixFreshUptoRow.holds Try.pinned (OpenSpec.upto matrixFreshSpec)

end Rows
end Go.Proofs.Ytaoehildaenbnab
