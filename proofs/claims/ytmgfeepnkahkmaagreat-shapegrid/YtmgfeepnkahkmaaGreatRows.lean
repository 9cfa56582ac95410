/-
  No cell of these rows narrows 'for every input' (looked for: loops, veiled, ifaces, maps, wideKeys, modest, calm, conditions, laid).
  DERIVED. THE GIVEN ROWS OF THIS SEAT. 6 by the template 'for every input the law returns true; each argument reads behind the call as it read before'; 0 by the template 'total and deterministic' (their statements: YtmgfeepnkahkmaaGreatTotals.lean).
  GIVEN WITH THE SEED: the statements are not yours to turn. If you find one false, say at which input.
  Laid BY PROGRAM, IN A SANDBOX (cutbox-rows.mjs): the forced cells as the released guide's own fill.sh prints them over the translation 58a9a747ca6cd5bf… (all of the seat's roots in one cut). By AI agents, Wed Nov 11 2026. No macro, syntax, notation, axiom, sorry.
-/
import Derived.Test.YtmgfeepnkahkmaaGreatChecked
import GoSem.Claim
import GoSem.ClaimJoined
import GoSem.ClaimMapViews
import Derived.JoinedTies
import Derived.KernelRfl
namespace Go.Proofs.YtmgfeepnkahkmaaGreat
/- THE CELL 'sum', in the pinned program and in every row, IS THE sha256 OF THE DUMP (.gsa) THAT YtmgfeepnkahkmaaGreatProg.lean LOADS. Nothing in Lean hashes anything: it is a label: what it is worth is what the hold of that sum in a sandbox is worth. -/
noncomputable def Tryz.pinned : Pinned := { name := "ytmgfeepnkahkmaagreat", sum := "58a9a747ca6cd5bf889d63f4d2c0d5af7cf67c45bfabe7f389caa3cbd09d354c", checked := Tryz.checked }
namespace Rows
def none {H : Type} : Left H := { results := [], args := [] }

/-- 'recouplaw16.ShapeLaid': WHATEVER THE INPUT: true; the input reads as it did. -/
def shapeLaidSpec : ChangeSpec := { name := "shapeLaid", fn := fun _ => fun
  | [d1, d2] => { results := [.lit (.bool true)], args := [d1, d2] }
  | _ => none }
def shapeLaidRow : OpenClaim := { program := "ytmgfeepnkahkmaagreat", sum := "58a9a747ca6cd5bf889d63f4d2c0d5af7cf67c45bfabe7f389caa3cbd09d354c", func := "recoup/recouplaw16.ShapeLaid", spec := "shapeLaid", inPlace := ["internal/bytealg.MakeNoZero"], unfollowed := true, recurses := true, apart := false }
def ShapeLaidSaid : Prop := shapeLaidRow.holds Tryz.pinned (OpenSpec.ofChange shapeLaidSpec)

/-- ITS FALSE NEIGHBOUR: 'it returns false'. Refute it at one input. -/
def shapeLaidWrong : ChangeSpec := { name := "shapeLaid", fn := fun _ => fun
  | [d1, d2] => { results := [.lit (.bool false)], args := [d1, d2] }
  | _ => none }
def ShapeLaidWrongFalsely : Prop := shapeLaidRow.holds Tryz.pinned (OpenSpec.ofChange shapeLaidWrong)

/-- 'recouplaw16.ShapeMays': WHATEVER THE INPUT: true; the input reads as it did. -/
def shapeMaysSpec : ChangeSpec := { name := "shapeMays", fn := fun _ => fun
  | [d1, d2] => { results := [.lit (.bool true)], args := [d1, d2] }
  | _ => none }
def shapeMaysRow : OpenClaim := { program := "ytmgfeepnkahkmaagreat", sum := "58a9a747ca6cd5bf889d63f4d2c0d5af7cf67c45bfabe7f389caa3cbd09d354c", func := "recoup/recouplaw16.ShapeMays", spec := "shapeMays", inPlace := ["internal/bytealg.MakeNoZero"], unfollowed := true, recurses := true, apart := false }
def ShapeMaysSaid : Prop := shapeMaysRow.holds Tryz.pinned (OpenSpec.ofChange shapeMaysSpec)

/-- ITS FALSE NEIGHBOUR: 'it returns false'. Refute it at one input. -/
def shapeMaysWrong : ChangeSpec := { name := "shapeMays", fn := fun _ => fun
  | [d1, d2] => { results := [.lit (.bool false)], args := [d1, d2] }
  | _ => none }
def ShapeMaysWrongFalsely : Prop := shapeMaysRow.holds Tryz.pinned (OpenSpec.ofChange shapeMaysWrong)

/-- 'recouplaw16.ShapeStands': WHATEVER THE INPUT: true; the input reads as it did. -/
def shapeStandsSpec : ChangeSpec := { name := "shapeStands", fn := fun _ => fun
  | [d1, d2, d3] => { results := [.lit (.bool true)], args := [d1, d2, d3] }
  | _ => none }
def shapeStandsRow : OpenClaim := { program := "ytmgfeepnkahkmaagreat", sum := "58a9a747ca6cd5bf889d63f4d2c0d5af7cf67c45bfabe7f389caa3cbd09d354c", func := "recoup/recouplaw16.ShapeStands", spec := "shapeStands", inPlace := ["internal/bytealg.MakeNoZero"], unfollowed := true, recurses := true, apart := false }
def ShapeStandsSaid : Prop := shapeStandsRow.holds Tryz.pinned (OpenSpec.ofChange shapeStandsSpec)

/-- ITS FALSE NEIGHBOUR: 'it returns false'. Refute it at one input. -/
def shapeStandsWrong : ChangeSpec := { name := "shapeStands", fn := fun _ => fun
  | [d1, d2, d3] => { results := [.lit (.bool false)], args := [d1, d2, d3] }
  | _ => none }
def ShapeStandsWrongFalsely : Prop := shapeStandsRow.holds Tryz.pinned (OpenSpec.ofChange shapeStandsWrong)

/-- 'recouplaw16.ShapeGrid': WHATEVER THE INPUT: true; the input reads as it did. -/
def shapeGridSpec : ChangeSpec := { name := "shapeGrid", fn := fun _ => fun
  | [d1, d2, d3] => { results := [.lit (.bool true)], args := [d1, d2, d3] }
  | _ => none }
def shapeGridRow : OpenClaim := { program := "ytmgfeepnkahkmaagreat", sum := "58a9a747ca6cd5bf889d63f4d2c0d5af7cf67c45bfabe7f389caa3cbd09d354c", func := "recoup/recouplaw16.ShapeGrid", spec := "shapeGrid", inPlace := ["internal/bytealg.MakeNoZero"], unfollowed := true, recurses := true, apart := false }
def ShapeGridSaid : Prop := shapeGridRow.holds Tryz.pinned (OpenSpec.ofChange shapeGridSpec)

/-- ITS FALSE NEIGHBOUR: 'it returns false'. Refute it at one input. -/
def shapeGridWrong : ChangeSpec := { name := "shapeGrid", fn := fun _ => fun
  | [d1, d2, d3] => { results := [.lit (.bool false)], args := [d1, d2, d3] }
  | _ => none }
def ShapeGridWrongFalsely : Prop := shapeGridRow.holds Tryz.pinned (OpenSpec.ofChange shapeGridWrong)

/-- 'recouplaw16.ShapeSides': WHATEVER THE INPUT: true; the input reads as it did. -/
def shapeSidesSpec : ChangeSpec := { name := "shapeSides", fn := fun _ => fun
  | [d1, d2, d3] => { results := [.lit (.bool true)], args := [d1, d2, d3] }
  | _ => none }
def shapeSidesRow : OpenClaim := { program := "ytmgfeepnkahkmaagreat", sum := "58a9a747ca6cd5bf889d63f4d2c0d5af7cf67c45bfabe7f389caa3cbd09d354c", func := "recoup/recouplaw16.ShapeSides", spec := "shapeSides", inPlace := ["internal/bytealg.MakeNoZero"], unfollowed := true, recurses := true, apart := false }
def ShapeSidesSaid : Prop := shapeSidesRow.holds Tryz.pinned (OpenSpec.ofChange shapeSidesSpec)

/-- ITS FALSE NEIGHBOUR: 'it returns false'. Refute it at one input. -/
def shapeSidesWrong : ChangeSpec := { name := "shapeSides", fn := fun _ => fun
  | [d1, d2, d3] => { results := [.lit (.bool false)], args := [d1, d2, d3] }
  | _ => none }
def ShapeSidesWrongFalsely : Prop := shapeSidesRow.holds Tryz.pinned (OpenSpec.ofChange shapeSidesWrong)

/-- 'recouplaw16.ShapeFresh': WHATEVER THE INPUT: true; the input reads as it did. -/
def shapeFreshSpec : ChangeSpec := { name := "shapeFresh", fn := fun _ => fun
  | [d1, d2] => { results := [.lit (.bool true)], args := [d1, d2] }
  | _ => none }
def shapeFreshRow : OpenClaim := { program := "ytmgfeepnkahkmaagreat", sum := "58a9a747ca6cd5bf889d63f4d2c0d5af7cf67c45bfabe7f389caa3cbd09d354c", func := "recoup/recouplaw16.ShapeFresh", spec := "shapeFresh", inPlace := ["internal/bytealg.MakeNoZero"], unfollowed := true, recurses := true, apart := false }
def ShapeFreshSaid : Prop := shapeFreshRow.holds Tryz.pinned (OpenSpec.ofChange shapeFreshSpec)

/-- ITS FALSE NEIGHBOUR: 'it returns false'. Refute it at one input. -/
def shapeFreshWrong : ChangeSpec := { name := "shapeFresh", fn := fun _ => fun
  | [d1, d2] => { results := [.lit (.bool false)], args := [d1, d2] }
  | _ => none }
def ShapeFreshWrongFalsely : Prop := shapeFreshRow.holds Tryz.pinned (OpenSpec.ofChange shapeFreshWrong)

/- THE SECOND FORM. 'bulk': how many values and letters a reading holds, each counted each time it is reached (what is shared counts as often as it is met; a slice's spare places count too). A statement '..UptoSaid' is the law's where the arguments, and the package variables that the reading takes, are together of bulk at most 1048576: NARROWER than '..Said'. Prove '..Said' where nothing that the law and all that it calls make is longer than what came in: it says more and counts as full. Else prove '..UptoSaid'. A law counts once. -/
mutual
def uptoBulk {H : Type} : DataW H → Nat
  | .lit (.string bytes) => bytes.length + 1
  | .lit _ => 1
  | .nil => 1
  | .ptr d => uptoBulk d + 1
  | .slice elems spare => uptoBulkAll elems + uptoBulkAll spare + 1
  | .agg parts => uptoBulkAll parts + 1
  | .iface _ d => uptoBulk d + 1
  | .map entries => uptoBulkEntries entries + 1
  | .held _ => 1
def uptoBulkAll {H : Type} : List (DataW H) → Nat
  | [] => 0
  | d :: r => uptoBulk d + uptoBulkAll r
def uptoBulkEntries {H : Type} : List (Lit × DataW H) → Nat
  | [] => 0
  | x :: r => uptoBulkEntry x + uptoBulkEntries r
def uptoBulkEntry {H : Type} : Lit × DataW H → Nat
  | (.string bytes, d) => bytes.length + uptoBulk d + 1
  | (_, d) => uptoBulk d + 1
 end
def uptoSmall : (H : Type) → List (DataW H) → Bool := fun _ ds => decide (uptoBulkAll ds ≤ 1048576)
def OpenSpec.upto (s : _root_.Go.ChangeSpec) : _root_.Go.OpenSpec := { _root_.Go.OpenSpec.ofChange s with cond := some uptoSmall }

/-- 'recouplaw16.ShapeLaid', WHERE WHAT IT READS IS OF BULK AT MOST 1048576: true; the input reads as it did. -/
def shapeLaidUptoRow : OpenClaim := { program := "ytmgfeepnkahkmaagreat", sum := "58a9a747ca6cd5bf889d63f4d2c0d5af7cf67c45bfabe7f389caa3cbd09d354c", func := "recoup/recouplaw16.ShapeLaid", spec := "shapeLaid", inPlace := ["internal/bytealg.MakeNoZero"], unfollowed := true, recurses := true, apart := false, narrowed := true }
def ShapeLaidUptoSaid : Prop := shapeLaidUptoRow.holds Tryz.pinned (OpenSpec.upto shapeLaidSpec)

/-- 'recouplaw16.ShapeMays', WHERE WHAT IT READS IS OF BULK AT MOST 1048576: true; the input reads as it did. -/
def shapeMaysUptoRow : OpenClaim := { program := "ytmgfeepnkahkmaagreat", sum := "58a9a747ca6cd5bf889d63f4d2c0d5af7cf67c45bfabe7f389caa3cbd09d354c", func := "recoup/recouplaw16.ShapeMays", spec := "shapeMays", inPlace := ["internal/bytealg.MakeNoZero"], unfollowed := true, recurses := true, apart := false, narrowed := true }
def ShapeMaysUptoSaid : Prop := shapeMaysUptoRow.holds Tryz.pinned (OpenSpec.upto shapeMaysSpec)

/-- 'recouplaw16.ShapeStands', WHERE WHAT IT READS IS OF BULK AT MOST 1048576: true; the input reads as it did. -/
def shapeStandsUptoRow : OpenClaim := { program := "ytmgfeepnkahkmaagreat", sum := "58a9a747ca6cd5bf889d63f4d2c0d5af7cf67c45bfabe7f389caa3cbd09d354c", func := "recoup/recouplaw16.ShapeStands", spec := "shapeStands", inPlace := ["internal/bytealg.MakeNoZero"], unfollowed := true, recurses := true, apart := false, narrowed := true }
def ShapeStandsUptoSaid : Prop := shapeStandsUptoRow.holds Tryz.pinned (OpenSpec.upto shapeStandsSpec)

/-- 'recouplaw16.ShapeGrid', WHERE WHAT IT READS IS OF BULK AT MOST 1048576: true; the input reads as it did. -/
def shapeGridUptoRow : OpenClaim := { program := "ytmgfeepnkahkmaagreat", sum := "58a9a747ca6cd5bf889d63f4d2c0d5af7cf67c45bfabe7f389caa3cbd09d354c", func := "recoup/recouplaw16.ShapeGrid", spec := "shapeGrid", inPlace := ["internal/bytealg.MakeNoZero"], unfollowed := true, recurses := true, apart := false, narrowed := true }
def ShapeGridUptoSaid : Prop := shapeGridUptoRow.holds Tryz.pinned (OpenSpec.upto shapeGridSpec)

/-- 'recouplaw16.ShapeSides', WHERE WHAT IT READS IS OF BULK AT MOST 1048576: true; the input reads as it did. -/
def shapeSidesUptoRow : OpenClaim := { program := "ytmgfeepnkahkmaagreat", sum := "58a9a747ca6cd5bf889d63f4d2c0d5af7cf67c45bfabe7f389caa3cbd09d354c", func := "recoup/recouplaw16.ShapeSides", spec := "shapeSides", inPlace := ["internal/bytealg.MakeNoZero"], unfollowed := true, recurses := true, apart := false, narrowed := true }
def ShapeSidesUptoSaid : Prop := shapeSidesUptoRow.holds Tryz.pinned (OpenSpec.upto shapeSidesSpec)

/-- 'recouplaw16.ShapeFresh', WHERE WHAT IT READS IS OF BULK AT MOST 1048576: true; the input reads as it did. -/
def shapeFreshUptoRow : OpenClaim := { program := "ytmgfeepnkahkmaagreat", sum := "58a9a747ca6cd5bf889d63f4d2c0d5af7cf67c45bfabe7f389caa3cbd09d354c", func := "recoup/recouplaw16.ShapeFresh", spec := "shapeFresh", inPlace := ["internal/bytealg.MakeNoZero"], unfollowed := true, recurses := true, apart := false, narrowed := true }
def ShapeFreshUptoSaid : Prop := shapeFreshUptoRow.holds Tryz.pinned (OpenSpec.upto shapeFreshSpec)

end Rows
end Go.Proofs.YtmgfeepnkahkmaaGreat
