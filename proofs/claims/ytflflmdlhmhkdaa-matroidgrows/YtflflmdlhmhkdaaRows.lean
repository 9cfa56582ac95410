/-
  No cell of these rows narrows 'for every input' (looked for: loops, veiled, ifaces, maps, wideKeys, modest, calm, conditions, laid).
  DERIVED. THE GIVEN ROWS OF THIS SEAT. 6 by the template 'for every input the law returns true; each argument reads behind the call as it read before'; 0 by the template 'total and deterministic' (their statements: YtflflmdlhmhkdaaTotals.lean).
  GIVEN WITH THE SEED: the statements are not yours to turn. If you find one false, say at which input.
  Laid BY PROGRAM, IN A SANDBOX (cutbox-rows.mjs): the forced cells as the released guide's own fill.sh prints them over the translation 84b6ae8306e1901c… (all of the seat's roots in one cut). By AI agents, Wed Nov 11 2026. No macro, syntax, notation, axiom, sorry.
-/
import Derived.Test.YtflflmdlhmhkdaaChecked
import GoSem.Claim
import GoSem.ClaimJoined
import GoSem.ClaimMapViews
import Derived.JoinedTies
import Derived.KernelRfl
namespace Go.Proofs.Ytflflmdlhmhkdaa
/- THE CELL 'sum', in the pinned program and in every row, IS THE sha256 OF THE DUMP (.gsa) THAT YtflflmdlhmhkdaaProg.lean LOADS. Nothing in Lean hashes anything: it is a label: what it is worth is what the hold of that sum in a sandbox is worth. -/
noncomputable def Try.pinned : Pinned := { name := "ytflflmdlhmhkdaa", sum := "84b6ae8306e1901cb9531244de22d668bc2954890da82feb299562d9633d3194", checked := Try.checked }
namespace Rows
def none {H : Type} : Left H := { results := [], args := [] }

/-- 'recouplaw07.MatroidRanks': WHATEVER THE INPUT: true; the input reads as it did. -/
def matroidRanksSpec : ChangeSpec := { name := "matroidRanks", fn := fun _ => fun
  | [d1, d2] => { results := [.lit (.bool true)], args := [d1, d2] }
  | _ => none }
def matroidRanksRow : OpenClaim := { program := "ytflflmdlhmhkdaa", sum := "84b6ae8306e1901cb9531244de22d668bc2954890da82feb299562d9633d3194", func := "recoup/recouplaw07.MatroidRanks", spec := "matroidRanks", unfollowed := true, recurses := true, apart := false }
def MatroidRanksSaid : Prop := matroidRanksRow.holds Try.pinned (OpenSpec.ofChange matroidRanksSpec)

/-- ITS FALSE NEIGHBOUR: 'it returns false'. Refute it at one input. -/
def matroidRanksWrong : ChangeSpec := { name := "matroidRanks", fn := fun _ => fun
  | [d1, d2] => { results := [.lit (.bool false)], args := [d1, d2] }
  | _ => none }
def MatroidRanksWrongFalsely : Prop := matroidRanksRow.holds Try.pinned (OpenSpec.ofChange matroidRanksWrong)

/-- 'recouplaw07.MatroidSpans': WHATEVER THE INPUT: true; the input reads as it did. -/
def matroidSpansSpec : ChangeSpec := { name := "matroidSpans", fn := fun _ => fun
  | [d1, d2] => { results := [.lit (.bool true)], args := [d1, d2] }
  | _ => none }
def matroidSpansRow : OpenClaim := { program := "ytflflmdlhmhkdaa", sum := "84b6ae8306e1901cb9531244de22d668bc2954890da82feb299562d9633d3194", func := "recoup/recouplaw07.MatroidSpans", spec := "matroidSpans", inPlace := ["internal/bytealg.MakeNoZero"], unfollowed := true, recurses := true, apart := false }
def MatroidSpansSaid : Prop := matroidSpansRow.holds Try.pinned (OpenSpec.ofChange matroidSpansSpec)

/-- ITS FALSE NEIGHBOUR: 'it returns false'. Refute it at one input. -/
def matroidSpansWrong : ChangeSpec := { name := "matroidSpans", fn := fun _ => fun
  | [d1, d2] => { results := [.lit (.bool false)], args := [d1, d2] }
  | _ => none }
def MatroidSpansWrongFalsely : Prop := matroidSpansRow.holds Try.pinned (OpenSpec.ofChange matroidSpansWrong)

/-- 'recouplaw07.MatroidCircuits': WHATEVER THE INPUT: true; the input reads as it did. -/
def matroidCircuitsSpec : ChangeSpec := { name := "matroidCircuits", fn := fun _ => fun
  | [d1, d2, d3] => { results := [.lit (.bool true)], args := [d1, d2, d3] }
  | _ => none }
def matroidCircuitsRow : OpenClaim := { program := "ytflflmdlhmhkdaa", sum := "84b6ae8306e1901cb9531244de22d668bc2954890da82feb299562d9633d3194", func := "recoup/recouplaw07.MatroidCircuits", spec := "matroidCircuits", unfollowed := true, recurses := true, apart := false }
def MatroidCircuitsSaid : Prop := matroidCircuitsRow.holds Try.pinned (OpenSpec.ofChange matroidCircuitsSpec)

/-- ITS FALSE NEIGHBOUR: 'it returns false'. Refute it at one input. -/
def matroidCircuitsWrong : ChangeSpec := { name := "matroidCircuits", fn := fun _ => fun
  | [d1, d2, d3] => { results := [.lit (.bool false)], args := [d1, d2, d3] }
  | _ => none }
def MatroidCircuitsWrongFalsely : Prop := matroidCircuitsRow.holds Try.pinned (OpenSpec.ofChange matroidCircuitsWrong)

/-- 'recouplaw07.MatroidSums': WHATEVER THE INPUT: true; the input reads as it did. -/
def matroidSumsSpec : ChangeSpec := { name := "matroidSums", fn := fun _ => fun
  | [d1, d2, d3] => { results := [.lit (.bool true)], args := [d1, d2, d3] }
  | _ => none }
def matroidSumsRow : OpenClaim := { program := "ytflflmdlhmhkdaa", sum := "84b6ae8306e1901cb9531244de22d668bc2954890da82feb299562d9633d3194", func := "recoup/recouplaw07.MatroidSums", spec := "matroidSums", unfollowed := true, recurses := true, apart := false }
def MatroidSumsSaid : Prop := matroidSumsRow.holds Try.pinned (OpenSpec.ofChange matroidSumsSpec)

/-- ITS FALSE NEIGHBOUR: 'it returns false'. Refute it at one input. -/
def matroidSumsWrong : ChangeSpec := { name := "matroidSums", fn := fun _ => fun
  | [d1, d2, d3] => { results := [.lit (.bool false)], args := [d1, d2, d3] }
  | _ => none }
def MatroidSumsWrongFalsely : Prop := matroidSumsRow.holds Try.pinned (OpenSpec.ofChange matroidSumsWrong)

/-- 'recouplaw07.MatroidCloses': WHATEVER THE INPUT: true; the input reads as it did. -/
def matroidClosesSpec : ChangeSpec := { name := "matroidCloses", fn := fun _ => fun
  | [d1, d2] => { results := [.lit (.bool true)], args := [d1, d2] }
  | _ => none }
def matroidClosesRow : OpenClaim := { program := "ytflflmdlhmhkdaa", sum := "84b6ae8306e1901cb9531244de22d668bc2954890da82feb299562d9633d3194", func := "recoup/recouplaw07.MatroidCloses", spec := "matroidCloses", inPlace := ["internal/bytealg.MakeNoZero"], unfollowed := true, recurses := true, apart := false }
def MatroidClosesSaid : Prop := matroidClosesRow.holds Try.pinned (OpenSpec.ofChange matroidClosesSpec)

/-- ITS FALSE NEIGHBOUR: 'it returns false'. Refute it at one input. -/
def matroidClosesWrong : ChangeSpec := { name := "matroidCloses", fn := fun _ => fun
  | [d1, d2] => { results := [.lit (.bool false)], args := [d1, d2] }
  | _ => none }
def MatroidClosesWrongFalsely : Prop := matroidClosesRow.holds Try.pinned (OpenSpec.ofChange matroidClosesWrong)

/-- 'recouplaw07.MatroidGrows': WHATEVER THE INPUT: true; the input reads as it did. -/
def matroidGrowsSpec : ChangeSpec := { name := "matroidGrows", fn := fun _ => fun
  | [d1, d2, d3] => { results := [.lit (.bool true)], args := [d1, d2, d3] }
  | _ => none }
def matroidGrowsRow : OpenClaim := { program := "ytflflmdlhmhkdaa", sum := "84b6ae8306e1901cb9531244de22d668bc2954890da82feb299562d9633d3194", func := "recoup/recouplaw07.MatroidGrows", spec := "matroidGrows", unfollowed := true, recurses := true, apart := false }
def MatroidGrowsSaid : Prop := matroidGrowsRow.holds Try.pinned (OpenSpec.ofChange matroidGrowsSpec)

/-- ITS FALSE NEIGHBOUR: 'it returns false'. Refute it at one input. -/
def matroidGrowsWrong : ChangeSpec := { name := "matroidGrows", fn := fun _ => fun
  | [d1, d2, d3] => { results := [.lit (.bool false)], args := [d1, d2, d3] }
  | _ => none }
def MatroidGrowsWrongFalsely : Prop := matroidGrowsRow.holds Try.pinned (OpenSpec.ofChange matroidGrowsWrong)

/- THE SECOND FORM. 'bulk': how many values and letters a reading holds, each counted each time it is reached (what is shared counts as often as it is met; a slice's spare places count too). A statement '..UptoSaid' is the law's where the arguments, and the package variables that the reading takes, are together of bulk at most 1048576: NARROWER than '..Said'. Prove '..Said' where nothing that the law and all that it calls make is longer than what came in: it says more and counts as full. Else prove '..UptoSaid'. A law counts once. -/
mutual
def uptoBulk {H : Type} : DataW H → Nat
  | .lit (.string bytes) => bytes.length + 1
  | .lit _ => 1
  | .nil => 1
  | .ptr d => uptoBulk d + 1
  | .slice elems spare => uptoBulkAll elems + uptoBulkAll spare + 1
  | .agg parts => uptoBulkAll parts + 1
  | .iface _ d => uptoBulk d + 1
  | .map entries => uptoBulkEntries entries + 1
  | .held _ => 1
def uptoBulkAll {H : Type} : List (DataW H) → Nat
  | [] => 0
  | d :: r => uptoBulk d + uptoBulkAll r
def uptoBulkEntries {H : Type} : List (Lit × DataW H) → Nat
  | [] => 0
  | x :: r => uptoBulkEntry x + uptoBulkEntries r
def uptoBulkEntry {H : Type} : Lit × DataW H → Nat
  | (.string bytes, d) => bytes.length + uptoBulk d + 1
  | (_, d) => uptoBulk d + 1
 end
def uptoSmall : (H : Type) → List (DataW H) → Bool := fun _ ds => decide (uptoBulkAll ds ≤ 1048576)
def OpenSpec.upto (s : _root_.Go.ChangeSpec) : _root_.Go.OpenSpec := { _root_.Go.OpenSpec.ofChange s with cond := some uptoSmall }

/-- 'recouplaw07.MatroidRanks', WHERE WHAT IT READS IS OF BULK AT MOST 1048576: true; the input reads as it did. -/
def matroidRanksUptoRow : OpenClaim := { program := "ytflflmdlhmhkdaa", sum := "84b6ae8306e1901cb9531244de22d668bc2954890da82feb299562d9633d3194", func := "recoup/recouplaw07.MatroidRanks", spec := "matroidRanks", unfollowed := true, recurses := true, apart := false, narrowed := true }
def MatroidRanksUptoSaid : Prop := matroidRanksUptoRow.holds Try.pinned (OpenSpec.upto matroidRanksSpec)

/-- 'recouplaw07.MatroidSpans', WHERE WHAT IT READS IS OF BULK AT MOST 1048576: true; the input reads as it did. -/
def matroidSpansUptoRow : OpenClaim := { program := "ytflflmdlhmhkdaa", sum := "84b6ae8306e1901cb9531244de22d668bc2954890da82feb299562d9633d3194", func := "recoup/recouplaw07.MatroidSpans", spec := "matroidSpans", inPlace := ["internal/bytealg.MakeNoZero"], unfollowed := true, recurses := true, apart := false, narrowed := true }
def MatroidSpansUptoSaid : Prop := matroidSpansUptoRow.holds Try.pinned (OpenSpec.upto matroidSpansSpec)

/-- 'recouplaw07.MatroidCircuits', WHERE WHAT IT READS IS OF BULK AT MOST 1048576: true; the input reads as it did. -/
def matroidCircuitsUptoRow : OpenClaim := { program := "ytflflmdlhmhkdaa", sum := "84b6ae8306e1901cb9531244de22d668bc2954890da82feb299562d9633d3194", func := "recoup/recouplaw07.MatroidCircuits", spec := "matroidCircuits", unfollowed := true, recurses := true, apart := false, narrowed := true }
def MatroidCircuitsUptoSaid : Prop := matroidCircuitsUptoRow.holds Try.pinned (OpenSpec.upto matroidCircuitsSpec)

/-- 'recouplaw07.MatroidSums', WHERE WHAT IT READS IS OF BULK AT MOST 1048576: true; the input reads as it did. -/
def matroidSumsUptoRow : OpenClaim := { program := "ytflflmdlhmhkdaa", sum := "84b6ae8306e1901cb9531244de22d668bc2954890da82feb299562d9633d3194", func := "recoup/recouplaw07.MatroidSums", spec := "matroidSums", unfollowed := true, recurses := true, apart := false, narrowed := true }
def MatroidSumsUptoSaid : Prop := matroidSumsUptoRow.holds Try.pinned (OpenSpec.upto matroidSumsSpec)

/-- 'recouplaw07.MatroidCloses', WHERE WHAT IT READS IS OF BULK AT MOST 1048576: true; the input reads as it did. -/
def matroidClosesUptoRow : OpenClaim := { program := "ytflflmdlhmhkdaa", sum := "84b6ae8306e1901cb9531244de22d668bc2954890da82feb299562d9633d3194", func := "recoup/recouplaw07.MatroidCloses", spec := "matroidCloses", inPlace := ["internal/bytealg.MakeNoZero"], unfollowed := true, recurses := true, apart := false, narrowed := true }
def MatroidClosesUptoSaid : Prop := matroidClosesUptoRow.holds Try.pinned (OpenSpec.upto matroidClosesSpec)

/-- 'recouplaw07.MatroidGrows', WHERE WHAT IT READS IS OF BULK AT MOST 1048576: true; the input reads as it did. -/
def matroidGrowsUptoRow : OpenClaim := { program := "ytflflmdlhmhkdaa", sum := "84b6ae8306e1901cb9531244de22d668bc2954890da82feb299562d9633d3194", func := "recoup/recouplaw07.MatroidGrows", spec := "matroidGrows", unfollowed := true, recurses := true, apart := false, narrowed := true }
def MatroidGrowsUptoSaid : Prop := matroidGrowsUptoRow.holds Try.pinned (OpenSpec.upto matroidGrowsSpec)

end Rows
end Go.Proofs.Ytflflmdlhmhkdaa
