/-
  No cell of these rows narrows 'for every input' (looked for: loops, veiled, ifaces, maps, wideKeys, modest, calm, conditions, laid).
  DERIVED. THE GIVEN ROWS OF THIS SEAT. 6 by the template 'for every input the law returns true; each argument reads behind the call as it read before'; 0 by the template 'total and deterministic' (their statements: YtpmhpakjlagfjaaTotals.lean).
  GIVEN WITH THE SEED: the statements are not yours to turn. If you find one false, say at which input.
  Laid BY PROGRAM, IN A SANDBOX (cutbox-rows.mjs): the forced cells as the released guide's own fill.sh prints them over the translation 514cf7487b89f9da… (all of the seat's roots in one cut). By AI agents, Wed Nov 11 2026. No macro, syntax, notation, axiom, sorry.
-/
import Derived.Test.YtpmhpakjlagfjaaChecked
import GoSem.Claim
import GoSem.ClaimJoined
import GoSem.ClaimMapViews
import Derived.JoinedTies
import Derived.KernelRfl
namespace Go.Proofs.Ytpmhpakjlagfjaa
/- THE CELL 'sum', in the pinned program and in every row, IS THE sha256 OF THE DUMP (.gsa) THAT YtpmhpakjlagfjaaProg.lean LOADS. Nothing in Lean hashes anything: it is a label: what it is worth is what the hold of that sum in a sandbox is worth. -/
noncomputable def Try.pinned : Pinned := { name := "ytpmhpakjlagfjaa", sum := "514cf7487b89f9da2d45dfe7d9b4ca6705c201ad670f7d32b49ad9af953a50c3", checked := Try.checked }
namespace Rows
def none {H : Type} : Left H := { results := [], args := [] }

/-- 'recouplaw06.SubsetLists': WHATEVER THE INPUT: true; the input reads as it did. -/
def subsetListsSpec : ChangeSpec := { name := "subsetLists", fn := fun _ => fun
  | [d1, d2, d3] => { results := [.lit (.bool true)], args := [d1, d2, d3] }
  | _ => none }
def subsetListsRow : OpenClaim := { program := "ytpmhpakjlagfjaa", sum := "514cf7487b89f9da2d45dfe7d9b4ca6705c201ad670f7d32b49ad9af953a50c3", func := "recoup/recouplaw06.SubsetLists", spec := "subsetLists", apart := false }
def SubsetListsSaid : Prop := subsetListsRow.holds Try.pinned (OpenSpec.ofChange subsetListsSpec)

/-- ITS FALSE NEIGHBOUR: 'it returns false'. Refute it at one input. -/
def subsetListsWrong : ChangeSpec := { name := "subsetLists", fn := fun _ => fun
  | [d1, d2, d3] => { results := [.lit (.bool false)], args := [d1, d2, d3] }
  | _ => none }
def SubsetListsWrongFalsely : Prop := subsetListsRow.holds Try.pinned (OpenSpec.ofChange subsetListsWrong)

/-- 'recouplaw06.SubsetCounts': WHATEVER THE INPUT: true; the input reads as it did. -/
def subsetCountsSpec : ChangeSpec := { name := "subsetCounts", fn := fun _ => fun
  | [d1, d2] => { results := [.lit (.bool true)], args := [d1, d2] }
  | _ => none }
def subsetCountsRow : OpenClaim := { program := "ytpmhpakjlagfjaa", sum := "514cf7487b89f9da2d45dfe7d9b4ca6705c201ad670f7d32b49ad9af953a50c3", func := "recoup/recouplaw06.SubsetCounts", spec := "subsetCounts", apart := false }
def SubsetCountsSaid : Prop := subsetCountsRow.holds Try.pinned (OpenSpec.ofChange subsetCountsSpec)

/-- ITS FALSE NEIGHBOUR: 'it returns false'. Refute it at one input. -/
def subsetCountsWrong : ChangeSpec := { name := "subsetCounts", fn := fun _ => fun
  | [d1, d2] => { results := [.lit (.bool false)], args := [d1, d2] }
  | _ => none }
def SubsetCountsWrongFalsely : Prop := subsetCountsRow.holds Try.pinned (OpenSpec.ofChange subsetCountsWrong)

/-- 'recouplaw06.SubsetNexts': WHATEVER THE INPUT: true; the input reads as it did. -/
def subsetNextsSpec : ChangeSpec := { name := "subsetNexts", fn := fun _ => fun
  | [d1, d2] => { results := [.lit (.bool true)], args := [d1, d2] }
  | _ => none }
def subsetNextsRow : OpenClaim := { program := "ytpmhpakjlagfjaa", sum := "514cf7487b89f9da2d45dfe7d9b4ca6705c201ad670f7d32b49ad9af953a50c3", func := "recoup/recouplaw06.SubsetNexts", spec := "subsetNexts", apart := false }
def SubsetNextsSaid : Prop := subsetNextsRow.holds Try.pinned (OpenSpec.ofChange subsetNextsSpec)

/-- ITS FALSE NEIGHBOUR: 'it returns false'. Refute it at one input. -/
def subsetNextsWrong : ChangeSpec := { name := "subsetNexts", fn := fun _ => fun
  | [d1, d2] => { results := [.lit (.bool false)], args := [d1, d2] }
  | _ => none }
def SubsetNextsWrongFalsely : Prop := subsetNextsRow.holds Try.pinned (OpenSpec.ofChange subsetNextsWrong)

/-- 'recouplaw06.SubsetAll': WHATEVER THE INPUT: true; the input reads as it did. -/
def subsetAllSpec : ChangeSpec := { name := "subsetAll", fn := fun _ => fun
  | [d1, d2, d3] => { results := [.lit (.bool true)], args := [d1, d2, d3] }
  | _ => none }
def subsetAllRow : OpenClaim := { program := "ytpmhpakjlagfjaa", sum := "514cf7487b89f9da2d45dfe7d9b4ca6705c201ad670f7d32b49ad9af953a50c3", func := "recoup/recouplaw06.SubsetAll", spec := "subsetAll", unfollowed := true, recurses := true, apart := false }
def SubsetAllSaid : Prop := subsetAllRow.holds Try.pinned (OpenSpec.ofChange subsetAllSpec)

/-- ITS FALSE NEIGHBOUR: 'it returns false'. Refute it at one input. -/
def subsetAllWrong : ChangeSpec := { name := "subsetAll", fn := fun _ => fun
  | [d1, d2, d3] => { results := [.lit (.bool false)], args := [d1, d2, d3] }
  | _ => none }
def SubsetAllWrongFalsely : Prop := subsetAllRow.holds Try.pinned (OpenSpec.ofChange subsetAllWrong)

/-- 'recouplaw06.SubsetPlaces': WHATEVER THE INPUT: true; the input reads as it did. -/
def subsetPlacesSpec : ChangeSpec := { name := "subsetPlaces", fn := fun _ => fun
  | [d1, d2, d3] => { results := [.lit (.bool true)], args := [d1, d2, d3] }
  | _ => none }
def subsetPlacesRow : OpenClaim := { program := "ytpmhpakjlagfjaa", sum := "514cf7487b89f9da2d45dfe7d9b4ca6705c201ad670f7d32b49ad9af953a50c3", func := "recoup/recouplaw06.SubsetPlaces", spec := "subsetPlaces", apart := false }
def SubsetPlacesSaid : Prop := subsetPlacesRow.holds Try.pinned (OpenSpec.ofChange subsetPlacesSpec)

/-- ITS FALSE NEIGHBOUR: 'it returns false'. Refute it at one input. -/
def subsetPlacesWrong : ChangeSpec := { name := "subsetPlaces", fn := fun _ => fun
  | [d1, d2, d3] => { results := [.lit (.bool false)], args := [d1, d2, d3] }
  | _ => none }
def SubsetPlacesWrongFalsely : Prop := subsetPlacesRow.holds Try.pinned (OpenSpec.ofChange subsetPlacesWrong)

/-- 'recouplaw06.SubsetBack': WHATEVER THE INPUT: true; the input reads as it did. -/
def subsetBackSpec : ChangeSpec := { name := "subsetBack", fn := fun _ => fun
  | [d] => { results := [.lit (.bool true)], args := [d] }
  | _ => none }
def subsetBackRow : OpenClaim := { program := "ytpmhpakjlagfjaa", sum := "514cf7487b89f9da2d45dfe7d9b4ca6705c201ad670f7d32b49ad9af953a50c3", func := "recoup/recouplaw06.SubsetBack", spec := "subsetBack", apart := false }
def SubsetBackSaid : Prop := subsetBackRow.holds Try.pinned (OpenSpec.ofChange subsetBackSpec)

/-- ITS FALSE NEIGHBOUR: 'it returns false'. Refute it at one input. -/
def subsetBackWrong : ChangeSpec := { name := "subsetBack", fn := fun _ => fun
  | [d] => { results := [.lit (.bool false)], args := [d] }
  | _ => none }
def SubsetBackWrongFalsely : Prop := subsetBackRow.holds Try.pinned (OpenSpec.ofChange subsetBackWrong)

/- THE SECOND FORM. 'bulk': how many values and letters a reading holds, each counted each time it is reached (what is shared counts as often as it is met; a slice's spare places count too). A statement '..UptoSaid' is the law's where the arguments, and the package variables that the reading takes, are together of bulk at most 1048576: NARROWER than '..Said'. Prove '..Said' where nothing that the law and all that it calls make is longer than what came in: it says more and counts as full. Else prove '..UptoSaid'. A law counts once. -/
mutual
def uptoBulk {H : Type} : DataW H → Nat
  | .lit (.string bytes) => bytes.length + 1
  | .lit _ => 1
  | .nil => 1
  | .ptr d => uptoBulk d + 1
  | .slice elems spare => uptoBulkAll elems + uptoBulkAll spare + 1
  | .agg parts => uptoBulkAll parts + 1
  | .iface _ d => uptoBulk d + 1
  | .map entries => uptoBulkEntries entries + 1
  | .held _ => 1
def uptoBulkAll {H : Type} : List (DataW H) → Nat
  | [] => 0
  | d :: r => uptoBulk d + uptoBulkAll r
def uptoBulkEntries {H : Type} : List (Lit × DataW H) → Nat
  | [] => 0
  | x :: r => uptoBulkEntry x + uptoBulkEntries r
def uptoBulkEntry {H : Type} : Lit × DataW H → Nat
  | (.string bytes, d) => bytes.length + uptoBulk d + 1
  | (_, d) => uptoBulk d + 1
 end
def uptoSmall : (H : Type) → List (DataW H) → Bool := fun _ ds => decide (uptoBulkAll ds ≤ 1048576)
def OpenSpec.upto (s : _root_.Go.ChangeSpec) : _root_.Go.OpenSpec := { _root_.Go.OpenSpec.ofChange s with cond := some uptoSmall }

/-- 'recouplaw06.SubsetLists', WHERE WHAT IT READS IS OF BULK AT MOST 1048576: true; the input reads as it did. -/
def subsetListsUptoRow : OpenClaim := { program := "ytpmhpakjlagfjaa", sum := "514cf7487b89f9da2d45dfe7d9b4ca6705c201ad670f7d32b49ad9af953a50c3", func := "recoup/recouplaw06.SubsetLists", spec := "subsetLists", apart := false, narrowed := true }
def SubsetListsUptoSaid : Prop := subsetListsUptoRow.holds Try.pinned (OpenSpec.upto subsetListsSpec)

/-- 'recouplaw06.SubsetCounts', WHERE WHAT IT READS IS OF BULK AT MOST 1048576: true; the input reads as it did. -/
def subsetCountsUptoRow : OpenClaim := { program := "ytpmhpakjlagfjaa", sum := "514cf7487b89f9da2d45dfe7d9b4ca6705c201ad670f7d32b49ad9af953a50c3", func := "recoup/recouplaw06.SubsetCounts", spec := "subsetCounts", apart := false, narrowed := true }
def SubsetCountsUptoSaid : Prop := subsetCountsUptoRow.holds Try.pinned (OpenSpec.upto subsetCountsSpec)

/-- 'recouplaw06.SubsetNexts', WHERE WHAT IT READS IS OF BULK AT MOST 1048576: true; the input reads as it did. -/
def subsetNextsUptoRow : OpenClaim := { program := "ytpmhpakjlagfjaa", sum := "514cf7487b89f9da2d45dfe7d9b4ca6705c201ad670f7d32b49ad9af953a50c3", func := "recoup/recouplaw06.SubsetNexts", spec := "subsetNexts", apart := false, narrowed := true }
def SubsetNextsUptoSaid : Prop := subsetNextsUptoRow.holds Try.pinned (OpenSpec.upto subsetNextsSpec)

/-- 'recouplaw06.SubsetAll', WHERE WHAT IT READS IS OF BULK AT MOST 1048576: true; the input reads as it did. -/
def subsetAllUptoRow : OpenClaim := { program := "ytpmhpakjlagfjaa", sum := "514cf7487b89f9da2d45dfe7d9b4ca6705c201ad670f7d32b49ad9af953a50c3", func := "recoup/recouplaw06.SubsetAll", spec := "subsetAll", unfollowed := true, recurses := true, apart := false, narrowed := true }
def SubsetAllUptoSaid : Prop := subsetAllUptoRow.holds Try.pinned (OpenSpec.upto subsetAllSpec)

/-- 'recouplaw06.SubsetPlaces', WHERE WHAT IT READS IS OF BULK AT MOST 1048576: true; the input reads as it did. -/
def subsetPlacesUptoRow : OpenClaim := { program := "ytpmhpakjlagfjaa", sum := "514cf7487b89f9da2d45dfe7d9b4ca6705c201ad670f7d32b49ad9af953a50c3", func := "recoup/recouplaw06.SubsetPlaces", spec := "subsetPlaces", apart := false, narrowed := true }
def SubsetPlacesUptoSaid : Prop := subsetPlacesUptoRow.holds Try.pinned (OpenSpec.upto subsetPlacesSpec)

/-- 'recouplaw06.SubsetBack', WHERE WHAT IT READS IS OF BULK AT MOST 1048576: true; the input reads as it did. -/
def subsetBackUptoRow : OpenClaim := { program := "ytpmhpakjlagfjaa", sum := "514cf7487b89f9da2d45dfe7d9b4ca6705c201ad670f7d32b49ad9af953a50c3", func := "recoup/recouplaw06.SubsetBack", spec := "subsetBack", apart := false, narrowed := true }
def SubsetBackUptoSaid : Prop := subsetBackUptoRow.holds Try.pinned (OpenSpec.upto subsetBackSpec)

end Rows
end Go.Proofs.Ytpmhpakjlagfjaa
