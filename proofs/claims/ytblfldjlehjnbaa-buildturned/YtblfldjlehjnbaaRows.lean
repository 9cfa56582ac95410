/-
  No cell of these rows narrows 'for every input' (looked for: loops, veiled, ifaces, maps, wideKeys, modest, calm, conditions, laid).
  DERIVED. THE GIVEN ROWS OF THIS SEAT. 6 by the template 'for every input the law returns true; each argument reads behind the call as it read before'; 0 by the template 'total and deterministic' (their statements: YtblfldjlehjnbaaTotals.lean).
  GIVEN WITH THE SEED: the statements are not yours to turn. If you find one false, say at which input.
  Laid BY PROGRAM, IN A SANDBOX (cutbox-rows.mjs): the forced cells as the released guide's own fill.sh prints them over the translation 7d2f0da9bd703642… (all of the seat's roots in one cut). By AI agents, Wed Nov 11 2026. No macro, syntax, notation, axiom, sorry.
-/
import Derived.Test.YtblfldjlehjnbaaChecked
import GoSem.Claim
import GoSem.ClaimJoined
import GoSem.ClaimMapViews
import Derived.JoinedTies
import Derived.KernelRfl
namespace Go.Proofs.Ytblfldjlehjnbaa
/- THE CELL 'sum', in the pinned program and in every row, IS THE sha256 OF THE DUMP (.gsa) THAT YtblfldjlehjnbaaProg.lean LOADS. Nothing in Lean hashes anything: it is a label: what it is worth is what the hold of that sum in a sandbox is worth. -/
noncomputable def Try.pinned : Pinned := { name := "ytblfldjlehjnbaa", sum := "7d2f0da9bd70364290298f7b7f5685f6521db96a1a4d6950e50ff9ff61db5219", checked := Try.checked }
namespace Rows
def none {H : Type} : Left H := { results := [], args := [] }

/-- 'recouplaw05.BuildMade': WHATEVER THE INPUT: true; the input reads as it did. -/
def buildMadeSpec : ChangeSpec := { name := "buildMade", fn := fun _ => fun
  | [d1, d2] => { results := [.lit (.bool true)], args := [d1, d2] }
  | _ => none }
def buildMadeRow : OpenClaim := { program := "ytblfldjlehjnbaa", sum := "7d2f0da9bd70364290298f7b7f5685f6521db96a1a4d6950e50ff9ff61db5219", func := "recoup/recouplaw05.BuildMade", spec := "buildMade", inPlace := ["internal/bytealg.MakeNoZero"], unfollowed := true, recurses := true, apart := false }
def BuildMadeSaid : Prop := buildMadeRow.holds Try.pinned (OpenSpec.ofChange buildMadeSpec)

/-- ITS FALSE NEIGHBOUR: 'it returns false'. Refute it at one input. -/
def buildMadeWrong : ChangeSpec := { name := "buildMade", fn := fun _ => fun
  | [d1, d2] => { results := [.lit (.bool false)], args := [d1, d2] }
  | _ => none }
def BuildMadeWrongFalsely : Prop := buildMadeRow.holds Try.pinned (OpenSpec.ofChange buildMadeWrong)

/-- 'recouplaw05.BuildCauchy': WHATEVER THE INPUT: true; the input reads as it did. -/
def buildCauchySpec : ChangeSpec := { name := "buildCauchy", fn := fun _ => fun
  | [d1, d2] => { results := [.lit (.bool true)], args := [d1, d2] }
  | _ => none }
def buildCauchyRow : OpenClaim := { program := "ytblfldjlehjnbaa", sum := "7d2f0da9bd70364290298f7b7f5685f6521db96a1a4d6950e50ff9ff61db5219", func := "recoup/recouplaw05.BuildCauchy", spec := "buildCauchy", apart := false }
def BuildCauchySaid : Prop := buildCauchyRow.holds Try.pinned (OpenSpec.ofChange buildCauchySpec)

/-- ITS FALSE NEIGHBOUR: 'it returns false'. Refute it at one input. -/
def buildCauchyWrong : ChangeSpec := { name := "buildCauchy", fn := fun _ => fun
  | [d1, d2] => { results := [.lit (.bool false)], args := [d1, d2] }
  | _ => none }
def BuildCauchyWrongFalsely : Prop := buildCauchyRow.holds Try.pinned (OpenSpec.ofChange buildCauchyWrong)

/-- 'recouplaw05.BuildTurned': WHATEVER THE INPUT: true; the input reads as it did. -/
def buildTurnedSpec : ChangeSpec := { name := "buildTurned", fn := fun _ => fun
  | [d] => { results := [.lit (.bool true)], args := [d] }
  | _ => none }
def buildTurnedRow : OpenClaim := { program := "ytblfldjlehjnbaa", sum := "7d2f0da9bd70364290298f7b7f5685f6521db96a1a4d6950e50ff9ff61db5219", func := "recoup/recouplaw05.BuildTurned", spec := "buildTurned", inPlace := ["internal/bytealg.MakeNoZero"], unfollowed := true, recurses := true, apart := false }
def BuildTurnedSaid : Prop := buildTurnedRow.holds Try.pinned (OpenSpec.ofChange buildTurnedSpec)

/-- ITS FALSE NEIGHBOUR: 'it returns false'. Refute it at one input. -/
def buildTurnedWrong : ChangeSpec := { name := "buildTurned", fn := fun _ => fun
  | [d] => { results := [.lit (.bool false)], args := [d] }
  | _ => none }
def BuildTurnedWrongFalsely : Prop := buildTurnedRow.holds Try.pinned (OpenSpec.ofChange buildTurnedWrong)

/-- 'recouplaw05.BuildAny': WHATEVER THE INPUT: true; the input reads as it did. -/
def buildAnySpec : ChangeSpec := { name := "buildAny", fn := fun _ => fun
  | [d1, d2, d3] => { results := [.lit (.bool true)], args := [d1, d2, d3] }
  | _ => none }
def buildAnyRow : OpenClaim := { program := "ytblfldjlehjnbaa", sum := "7d2f0da9bd70364290298f7b7f5685f6521db96a1a4d6950e50ff9ff61db5219", func := "recoup/recouplaw05.BuildAny", spec := "buildAny", inPlace := ["internal/bytealg.MakeNoZero"], unfollowed := true, recurses := true, apart := false }
def BuildAnySaid : Prop := buildAnyRow.holds Try.pinned (OpenSpec.ofChange buildAnySpec)

/-- ITS FALSE NEIGHBOUR: 'it returns false'. Refute it at one input. -/
def buildAnyWrong : ChangeSpec := { name := "buildAny", fn := fun _ => fun
  | [d1, d2, d3] => { results := [.lit (.bool false)], args := [d1, d2, d3] }
  | _ => none }
def BuildAnyWrongFalsely : Prop := buildAnyRow.holds Try.pinned (OpenSpec.ofChange buildAnyWrong)

/-- 'recouplaw05.BuildSquares': WHATEVER THE INPUT: true; the input reads as it did. -/
def buildSquaresSpec : ChangeSpec := { name := "buildSquares", fn := fun _ => fun
  | [d1, d2] => { results := [.lit (.bool true)], args := [d1, d2] }
  | _ => none }
def buildSquaresRow : OpenClaim := { program := "ytblfldjlehjnbaa", sum := "7d2f0da9bd70364290298f7b7f5685f6521db96a1a4d6950e50ff9ff61db5219", func := "recoup/recouplaw05.BuildSquares", spec := "buildSquares", inPlace := ["internal/bytealg.MakeNoZero"], unfollowed := true, recurses := true, apart := false }
def BuildSquaresSaid : Prop := buildSquaresRow.holds Try.pinned (OpenSpec.ofChange buildSquaresSpec)

/-- ITS FALSE NEIGHBOUR: 'it returns false'. Refute it at one input. -/
def buildSquaresWrong : ChangeSpec := { name := "buildSquares", fn := fun _ => fun
  | [d1, d2] => { results := [.lit (.bool false)], args := [d1, d2] }
  | _ => none }
def BuildSquaresWrongFalsely : Prop := buildSquaresRow.holds Try.pinned (OpenSpec.ofChange buildSquaresWrong)

/-- 'recouplaw05.BuildChecks': WHATEVER THE INPUT: true; the input reads as it did. -/
def buildChecksSpec : ChangeSpec := { name := "buildChecks", fn := fun _ => fun
  | [d1, d2, d3] => { results := [.lit (.bool true)], args := [d1, d2, d3] }
  | _ => none }
def buildChecksRow : OpenClaim := { program := "ytblfldjlehjnbaa", sum := "7d2f0da9bd70364290298f7b7f5685f6521db96a1a4d6950e50ff9ff61db5219", func := "recoup/recouplaw05.BuildChecks", spec := "buildChecks", inPlace := ["internal/bytealg.MakeNoZero"], unfollowed := true, recurses := true, apart := false }
def BuildChecksSaid : Prop := buildChecksRow.holds Try.pinned (OpenSpec.ofChange buildChecksSpec)

/-- ITS FALSE NEIGHBOUR: 'it returns false'. Refute it at one input. -/
def buildChecksWrong : ChangeSpec := { name := "buildChecks", fn := fun _ => fun
  | [d1, d2, d3] => { results := [.lit (.bool false)], args := [d1, d2, d3] }
  | _ => none }
def BuildChecksWrongFalsely : Prop := buildChecksRow.holds Try.pinned (OpenSpec.ofChange buildChecksWrong)

/- THE SECOND FORM. 'bulk': how many values and letters a reading holds, each counted each time it is reached (what is shared counts as often as it is met; a slice's spare places count too). A statement '..UptoSaid' is the law's where the arguments, and the package variables that the reading takes, are together of bulk at most 1048576: NARROWER than '..Said'. Prove '..Said' where nothing that the law and all that it calls make is longer than what came in: it says more and counts as full. Else prove '..UptoSaid'. A law counts once. -/
mutual
def uptoBulk {H : Type} : DataW H → Nat
  | .lit (.string bytes) => bytes.length + 1
  | .lit _ => 1
  | .nil => 1
  | .ptr d => uptoBulk d + 1
  | .slice elems spare => uptoBulkAll elems + uptoBulkAll spare + 1
  | .agg parts => uptoBulkAll parts + 1
  | .iface _ d => uptoBulk d + 1
  | .map entries => uptoBulkEntries entries + 1
  | .held _ => 1
def uptoBulkAll {H : Type} : List (DataW H) → Nat
  | [] => 0
  | d :: r => uptoBulk d + uptoBulkAll r
def uptoBulkEntries {H : Type} : List (Lit × DataW H) → Nat
  | [] => 0
  | x :: r => uptoBulkEntry x + uptoBulkEntries r
def uptoBulkEntry {H : Type} : Lit × DataW H → Nat
  | (.string bytes, d) => bytes.length + uptoBulk d + 1
  | (_, d) => uptoBulk d + 1
 end
def uptoSmall : (H : Type) → List (DataW H) → Bool := fun _ ds => decide (uptoBulkAll ds ≤ 1048576)
def OpenSpec.upto (s : _root_.Go.ChangeSpec) : _root_.Go.OpenSpec := { _root_.Go.OpenSpec.ofChange s with cond := some uptoSmall }

/-- 'recouplaw05.BuildMade', WHERE WHAT IT READS IS OF BULK AT MOST 1048576: true; the input reads as it did. -/
def buildMadeUptoRow : OpenClaim := { program := "ytblfldjlehjnbaa", sum := "7d2f0da9bd70364290298f7b7f5685f6521db96a1a4d6950e50ff9ff61db5219", func := "recoup/recouplaw05.BuildMade", spec := "buildMade", inPlace := ["internal/bytealg.MakeNoZero"], unfollowed := true, recurses := true, apart := false, narrowed := true }
def BuildMadeUptoSaid : Prop := buildMadeUptoRow.holds Try.pinned (OpenSpec.upto buildMadeSpec)

/-- 'recouplaw05.BuildCauchy', WHERE WHAT IT READS IS OF BULK AT MOST 1048576: true; the input reads as it did. -/
def buildCauchyUptoRow : OpenClaim := { program := "ytblfldjlehjnbaa", sum := "7d2f0da9bd70364290298f7b7f5685f6521db96a1a4d6950e50ff9ff61db5219", func := "recoup/recouplaw05.BuildCauchy", spec := "buildCauchy", apart := false, narrowed := true }
def BuildCauchyUptoSaid : Prop := buildCauchyUptoRow.holds Try.pinned (OpenSpec.upto buildCauchySpec)

/-- 'recouplaw05.BuildTurned', WHERE WHAT IT READS IS OF BULK AT MOST 1048576: true; the input reads as it did. -/
def buildTurnedUptoRow : OpenClaim := { program := "ytblfldjlehjnbaa", sum := "7d2f0da9bd70364290298f7b7f5685f6521db96a1a4d6950e50ff9ff61db5219", func := "recoup/recouplaw05.BuildTurned", spec := "buildTurned", inPlace := ["internal/bytealg.MakeNoZero"], unfollowed := true, recurses := true, apart := false, narrowed := true }
def BuildTurnedUptoSaid : Prop := buildTurnedUptoRow.holds Try.pinned (OpenSpec.upto buildTurnedSpec)

/-- 'recouplaw05.BuildAny', WHERE WHAT IT READS IS OF BULK AT MOST 1048576: true; the input reads as it did. -/
def buildAnyUptoRow : OpenClaim := { program := "ytblfldjlehjnbaa", sum := "7d2f0da9bd70364290298f7b7f5685f6521db96a1a4d6950e50ff9ff61db5219", func := "recoup/recouplaw05.BuildAny", spec := "buildAny", inPlace := ["internal/bytealg.MakeNoZero"], unfollowed := true, recurses := true, apart := false, narrowed := true }
def BuildAnyUptoSaid : Prop := buildAnyUptoRow.holds Try.pinned (OpenSpec.upto buildAnySpec)

/-- 'recouplaw05.BuildSquares', WHERE WHAT IT READS IS OF BULK AT MOST 1048576: true; the input reads as it did. -/
def buildSquaresUptoRow : OpenClaim := { program := "ytblfldjlehjnbaa", sum := "7d2f0da9bd70364290298f7b7f5685f6521db96a1a4d6950e50ff9ff61db5219", func := "recoup/recouplaw05.BuildSquares", spec := "buildSquares", inPlace := ["internal/bytealg.MakeNoZero"], unfollowed := true, recurses := true, apart := false, narrowed := true }
def BuildSquaresUptoSaid : Prop := buildSquaresUptoRow.holds Try.pinned (OpenSpec.upto buildSquaresSpec)

/-- 'recouplaw05.BuildChecks', WHERE WHAT IT READS IS OF BULK AT MOST 1048576: true; the input reads as it did. -/
def buildChecksUptoRow : OpenClaim := { program := "ytblfldjlehjnbaa", sum := "7d2f0da9bd70364290298f7b7f5685f6521db96a1a4d6950e50ff9ff61db5219", func := "recoup/recouplaw05.BuildChecks", spec := "buildChecks", inPlace := ["internal/bytealg.MakeNoZero"], unfollowed := true, recurses := true, apart := false, narrowed := true }
def BuildChecksUptoSaid : Prop := buildChecksUptoRow.holds Try.pinned (OpenSpec.upto buildChecksSpec)

end Rows
end Go.Proofs.Ytblfldjlehjnbaa
