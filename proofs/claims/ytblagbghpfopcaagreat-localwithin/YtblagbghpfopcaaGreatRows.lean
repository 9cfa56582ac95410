/-
  No cell of these rows narrows 'for every input' (looked for: loops, veiled, ifaces, maps, wideKeys, modest, calm, conditions, laid).
  DERIVED. THE GIVEN ROWS OF THIS SEAT. 4 by the template 'for every input the law returns true; each argument reads behind the call as it read before'; 0 by the template 'total and deterministic' (their statements: YtblagbghpfopcaaGreatTotals.lean).
  GIVEN WITH THE SEED: the statements are not yours to turn. If you find one false, say at which input.
  Laid BY PROGRAM, IN A SANDBOX (cutbox-rows.mjs): the forced cells as the released guide's own fill.sh prints them over the translation 01a1305f4b9e576f… (all of the seat's roots in one cut). By AI agents, Wed Nov 11 2026. No macro, syntax, notation, axiom, sorry.
-/
import Derived.Test.YtblagbghpfopcaaGreatChecked
import GoSem.Claim
import GoSem.ClaimJoined
import GoSem.ClaimMapViews
import Derived.JoinedTies
import Derived.KernelRfl
namespace Go.Proofs.YtblagbghpfopcaaGreat
/- THE CELL 'sum', in the pinned program and in every row, IS THE sha256 OF THE DUMP (.gsa) THAT YtblagbghpfopcaaGreatProg.lean LOADS. Nothing in Lean hashes anything: it is a label: what it is worth is what the hold of that sum in a sandbox is worth. -/
noncomputable def Tryz.pinned : Pinned := { name := "ytblagbghpfopcaagreat", sum := "01a1305f4b9e576f9d0230c69059dc07853579ca3e3f0a9ff9e0c81ee8d3fda3", checked := Tryz.checked }
namespace Rows
def none {H : Type} : Left H := { results := [], args := [] }

/-- 'recouplaw19.LocalLeast': WHATEVER THE INPUT: true; the input reads as it did. -/
def localLeastSpec : ChangeSpec := { name := "localLeast", fn := fun _ => fun
  | [d1, d2] => { results := [.lit (.bool true)], args := [d1, d2] }
  | _ => none }
def localLeastRow : OpenClaim := { program := "ytblagbghpfopcaagreat", sum := "01a1305f4b9e576f9d0230c69059dc07853579ca3e3f0a9ff9e0c81ee8d3fda3", func := "recoup/recouplaw19.LocalLeast", spec := "localLeast", inPlace := ["internal/bytealg.MakeNoZero"], unfollowed := true, recurses := true, apart := false }
def LocalLeastSaid : Prop := localLeastRow.holds Tryz.pinned (OpenSpec.ofChange localLeastSpec)

/-- ITS FALSE NEIGHBOUR: 'it returns false'. Refute it at one input. -/
def localLeastWrong : ChangeSpec := { name := "localLeast", fn := fun _ => fun
  | [d1, d2] => { results := [.lit (.bool false)], args := [d1, d2] }
  | _ => none }
def LocalLeastWrongFalsely : Prop := localLeastRow.holds Tryz.pinned (OpenSpec.ofChange localLeastWrong)

/-- 'recouplaw19.LocalSizes': WHATEVER THE INPUT: true; the input reads as it did. -/
def localSizesSpec : ChangeSpec := { name := "localSizes", fn := fun _ => fun
  | [d1, d2, d3] => { results := [.lit (.bool true)], args := [d1, d2, d3] }
  | _ => none }
def localSizesRow : OpenClaim := { program := "ytblagbghpfopcaagreat", sum := "01a1305f4b9e576f9d0230c69059dc07853579ca3e3f0a9ff9e0c81ee8d3fda3", func := "recoup/recouplaw19.LocalSizes", spec := "localSizes", inPlace := ["internal/bytealg.MakeNoZero"], unfollowed := true, recurses := true, apart := false }
def LocalSizesSaid : Prop := localSizesRow.holds Tryz.pinned (OpenSpec.ofChange localSizesSpec)

/-- ITS FALSE NEIGHBOUR: 'it returns false'. Refute it at one input. -/
def localSizesWrong : ChangeSpec := { name := "localSizes", fn := fun _ => fun
  | [d1, d2, d3] => { results := [.lit (.bool false)], args := [d1, d2, d3] }
  | _ => none }
def LocalSizesWrongFalsely : Prop := localSizesRow.holds Tryz.pinned (OpenSpec.ofChange localSizesWrong)

/-- 'recouplaw19.LocalWithin': WHATEVER THE INPUT: true; the input reads as it did. -/
def localWithinSpec : ChangeSpec := { name := "localWithin", fn := fun _ => fun
  | [d1, d2] => { results := [.lit (.bool true)], args := [d1, d2] }
  | _ => none }
def localWithinRow : OpenClaim := { program := "ytblagbghpfopcaagreat", sum := "01a1305f4b9e576f9d0230c69059dc07853579ca3e3f0a9ff9e0c81ee8d3fda3", func := "recoup/recouplaw19.LocalWithin", spec := "localWithin", inPlace := ["internal/bytealg.MakeNoZero"], unfollowed := true, recurses := true, apart := false }
def LocalWithinSaid : Prop := localWithinRow.holds Tryz.pinned (OpenSpec.ofChange localWithinSpec)

/-- ITS FALSE NEIGHBOUR: 'it returns false'. Refute it at one input. -/
def localWithinWrong : ChangeSpec := { name := "localWithin", fn := fun _ => fun
  | [d1, d2] => { results := [.lit (.bool false)], args := [d1, d2] }
  | _ => none }
def LocalWithinWrongFalsely : Prop := localWithinRow.holds Tryz.pinned (OpenSpec.ofChange localWithinWrong)

/-- 'recouplaw19.LocalFresh': WHATEVER THE INPUT: true; the input reads as it did. -/
def localFreshSpec : ChangeSpec := { name := "localFresh", fn := fun _ => fun
  | [d1, d2] => { results := [.lit (.bool true)], args := [d1, d2] }
  | _ => none }
def localFreshRow : OpenClaim := { program := "ytblagbghpfopcaagreat", sum := "01a1305f4b9e576f9d0230c69059dc07853579ca3e3f0a9ff9e0c81ee8d3fda3", func := "recoup/recouplaw19.LocalFresh", spec := "localFresh", inPlace := ["internal/bytealg.MakeNoZero"], unfollowed := true, recurses := true, apart := false }
def LocalFreshSaid : Prop := localFreshRow.holds Tryz.pinned (OpenSpec.ofChange localFreshSpec)

/-- ITS FALSE NEIGHBOUR: 'it returns false'. Refute it at one input. -/
def localFreshWrong : ChangeSpec := { name := "localFresh", fn := fun _ => fun
  | [d1, d2] => { results := [.lit (.bool false)], args := [d1, d2] }
  | _ => none }
def LocalFreshWrongFalsely : Prop := localFreshRow.holds Tryz.pinned (OpenSpec.ofChange localFreshWrong)

/- THE SECOND FORM. 'bulk': how many values and letters a reading holds, each counted each time it is reached (what is shared counts as often as it is met; a slice's spare places count too). A statement '..UptoSaid' is the law's where the arguments, and the package variables that the reading takes, are together of bulk at most 1048576: NARROWER than '..Said'. Prove '..Said' where nothing that the law and all that it calls make is longer than what came in: it says more and counts as full. Else prove '..UptoSaid'. A law counts once. -/
mutual
def uptoBulk {H : Type} : DataW H → Nat
  | .lit (.string bytes) => bytes.length + 1
  | .lit _ => 1
  | .nil => 1
  | .ptr d => uptoBulk d + 1
  | .slice elems spare => uptoBulkAll elems + uptoBulkAll spare + 1
  | .agg parts => uptoBulkAll parts + 1
  | .iface _ d => uptoBulk d + 1
  | .map entries => uptoBulkEntries entries + 1
  | .held _ => 1
def uptoBulkAll {H : Type} : List (DataW H) → Nat
  | [] => 0
  | d :: r => uptoBulk d + uptoBulkAll r
def uptoBulkEntries {H : Type} : List (Lit × DataW H) → Nat
  | [] => 0
  | x :: r => uptoBulkEntry x + uptoBulkEntries r
def uptoBulkEntry {H : Type} : Lit × DataW H → Nat
  | (.string bytes, d) => bytes.length + uptoBulk d + 1
  | (_, d) => uptoBulk d + 1
 end
def uptoSmall : (H : Type) → List (DataW H) → Bool := fun _ ds => decide (uptoBulkAll ds ≤ 1048576)
def OpenSpec.upto (s : _root_.Go.ChangeSpec) : _root_.Go.OpenSpec := { _root_.Go.OpenSpec.ofChange s with cond := some uptoSmall }

/-- 'recouplaw19.LocalLeast', WHERE WHAT IT READS IS OF BULK AT MOST 1048576: true; the input reads as it did. -/
def localLeastUptoRow : OpenClaim := { program := "ytblagbghpfopcaagreat", sum := "01a1305f4b9e576f9d0230c69059dc07853579ca3e3f0a9ff9e0c81ee8d3fda3", func := "recoup/recouplaw19.LocalLeast", spec := "localLeast", inPlace := ["internal/bytealg.MakeNoZero"], unfollowed := true, recurses := true, apart := false, narrowed := true }
def LocalLeastUptoSaid : Prop := localLeastUptoRow.holds Tryz.pinned (OpenSpec.upto localLeastSpec)

/-- 'recouplaw19.LocalSizes', WHERE WHAT IT READS IS OF BULK AT MOST 1048576: true; the input reads as it did. -/
def localSizesUptoRow : OpenClaim := { program := "ytblagbghpfopcaagreat", sum := "01a1305f4b9e576f9d0230c69059dc07853579ca3e3f0a9ff9e0c81ee8d3fda3", func := "recoup/recouplaw19.LocalSizes", spec := "localSizes", inPlace := ["internal/bytealg.MakeNoZero"], unfollowed := true, recurses := true, apart := false, narrowed := true }
def LocalSizesUptoSaid : Prop := localSizesUptoRow.holds Tryz.pinned (OpenSpec.upto localSizesSpec)

/-- 'recouplaw19.LocalWithin', WHERE WHAT IT READS IS OF BULK AT MOST 1048576: true; the input reads as it did. -/
def localWithinUptoRow : OpenClaim := { program := "ytblagbghpfopcaagreat", sum := "01a1305f4b9e576f9d0230c69059dc07853579ca3e3f0a9ff9e0c81ee8d3fda3", func := "recoup/recouplaw19.LocalWithin", spec := "localWithin", inPlace := ["internal/bytealg.MakeNoZero"], unfollowed := true, recurses := true, apart := false, narrowed := true }
def LocalWithinUptoSaid : Prop := localWithinUptoRow.holds Tryz.pinned (OpenSpec.upto localWithinSpec)

/-- 'recouplaw19.LocalFresh', WHERE WHAT IT READS IS OF BULK AT MOST 1048576: true; the input reads as it did. -/
def localFreshUptoRow : OpenClaim := { program := "ytblagbghpfopcaagreat", sum := "01a1305f4b9e576f9d0230c69059dc07853579ca3e3f0a9ff9e0c81ee8d3fda3", func := "recoup/recouplaw19.LocalFresh", spec := "localFresh", inPlace := ["internal/bytealg.MakeNoZero"], unfollowed := true, recurses := true, apart := false, narrowed := true }
def LocalFreshUptoSaid : Prop := localFreshUptoRow.holds Tryz.pinned (OpenSpec.upto localFreshSpec)

end Rows
end Go.Proofs.YtblagbghpfopcaaGreat
