/-
  NARROWER THAN 'FOR EVERY INPUT', by the rows' own cells (each row's printed sentence says how): TreeNames: laid · TreeMays: loops, laid · TreeTexts: loops, laid · TreeSames: loops, laid · TreeOneText: loops, laid · TreeBrackets: loops, laid.
  DERIVED. THE GIVEN ROWS OF THIS SEAT. 6 by the template 'for every input the law returns true; each argument reads behind the call as it read before'; 0 by the template 'total and deterministic' (their statements: YtdimkfcanegahaaDoorTotals.lean).
  GIVEN WITH THE SEED: the statements are not yours to turn. If you find one false, say at which input.
  Laid BY PROGRAM, IN A SANDBOX (cutbox-rows.mjs): the forced cells as the released guide's own fill.sh prints them over the translation 791e819d606fe78d… (all of the seat's roots in one cut). By AI agents, Wed Nov 11 2026. No macro, syntax, notation, axiom, sorry.
-/
import Derived.Test.YtdimkfcanegahaaDoorChecked
import GoSem.Claim
import GoSem.ClaimJoined
import GoSem.ClaimMapViews
import Derived.JoinedTies
import Derived.KernelRfl
namespace Go.Proofs.YtdimkfcanegahaaDoor
/- THE CELL 'sum', in the pinned program and in every row, IS THE sha256 OF THE DUMP (.gsa) THAT YtdimkfcanegahaaDoorProg.lean LOADS. Nothing in Lean hashes anything: it is a label: what it is worth is what the hold of that sum in a sandbox is worth. -/
noncomputable def Tryd.pinned : Pinned := { name := "ytdimkfcanegahaadoor", sum := "791e819d606fe78ddb79361dcd29fcbf963e57df80b663896965b0dad34cd6ce", checked := Tryd.checked }
namespace Rows
def none {H : Type} : Left H := { results := [], args := [] }

/- WHAT THE LISTED PACKAGE-LEVEL VARIABLES READ AS WHEN THE CALL BEGINS. Each datum BY PROGRAM (the guide's laid-datum.mjs) off the statement by which the dump's own 'gosem.cut.vars' lays the variable. In a bare row this is a premise. The card (YtdimkfcanegahaaDoorCards.lean) ties it to the program's text. -/
def laid_math_bits_deBruijn32tab {H : Type} : DataW H := .agg [.lit (.int .u8 0), .lit (.int .u8 1), .lit (.int .u8 28), .lit (.int .u8 2), .lit (.int .u8 29), .lit (.int .u8 14), .lit (.int .u8 24), .lit (.int .u8 3), .lit (.int .u8 30), .lit (.int .u8 22), .lit (.int .u8 20), .lit (.int .u8 15), .lit (.int .u8 25), .lit (.int .u8 17), .lit (.int .u8 4), .lit (.int .u8 8), .lit (.int .u8 31), .lit (.int .u8 27), .lit (.int .u8 13), .lit (.int .u8 23), .lit (.int .u8 21), .lit (.int .u8 19), .lit (.int .u8 16), .lit (.int .u8 7), .lit (.int .u8 26), .lit (.int .u8 12), .lit (.int .u8 18), .lit (.int .u8 6), .lit (.int .u8 11), .lit (.int .u8 5), .lit (.int .u8 10), .lit (.int .u8 9)]
def laid_math_bits_deBruijn64tab {H : Type} : DataW H := .agg [.lit (.int .u8 0), .lit (.int .u8 1), .lit (.int .u8 56), .lit (.int .u8 2), .lit (.int .u8 57), .lit (.int .u8 49), .lit (.int .u8 28), .lit (.int .u8 3), .lit (.int .u8 61), .lit (.int .u8 58), .lit (.int .u8 42), .lit (.int .u8 50), .lit (.int .u8 38), .lit (.int .u8 29), .lit (.int .u8 17), .lit (.int .u8 4), .lit (.int .u8 62), .lit (.int .u8 47), .lit (.int .u8 59), .lit (.int .u8 36), .lit (.int .u8 45), .lit (.int .u8 43), .lit (.int .u8 51), .lit (.int .u8 22), .lit (.int .u8 53), .lit (.int .u8 39), .lit (.int .u8 33), .lit (.int .u8 30), .lit (.int .u8 24), .lit (.int .u8 18), .lit (.int .u8 12), .lit (.int .u8 5), .lit (.int .u8 63), .lit (.int .u8 55), .lit (.int .u8 48), .lit (.int .u8 27), .lit (.int .u8 60), .lit (.int .u8 41), .lit (.int .u8 37), .lit (.int .u8 16), .lit (.int .u8 46), .lit (.int .u8 35), .lit (.int .u8 44), .lit (.int .u8 21), .lit (.int .u8 52), .lit (.int .u8 32), .lit (.int .u8 23), .lit (.int .u8 11), .lit (.int .u8 54), .lit (.int .u8 26), .lit (.int .u8 40), .lit (.int .u8 15), .lit (.int .u8 34), .lit (.int .u8 20), .lit (.int .u8 31), .lit (.int .u8 10), .lit (.int .u8 25), .lit (.int .u8 14), .lit (.int .u8 19), .lit (.int .u8 9), .lit (.int .u8 13), .lit (.int .u8 8), .lit (.int .u8 7), .lit (.int .u8 6)]
def laid_internal_strconv_uint64pow10 {H : Type} : DataW H := .agg [.lit (.int .u64 1), .lit (.int .u64 10), .lit (.int .u64 100), .lit (.int .u64 1000), .lit (.int .u64 10000), .lit (.int .u64 100000), .lit (.int .u64 1000000), .lit (.int .u64 10000000), .lit (.int .u64 100000000), .lit (.int .u64 1000000000), .lit (.int .u64 10000000000), .lit (.int .u64 100000000000), .lit (.int .u64 1000000000000), .lit (.int .u64 10000000000000), .lit (.int .u64 100000000000000), .lit (.int .u64 1000000000000000), .lit (.int .u64 10000000000000000), .lit (.int .u64 100000000000000000), .lit (.int .u64 1000000000000000000), .lit (.int .u64 10000000000000000000)]
def laid_recoup_token_words {H : Type} : DataW H := .agg [.lit (.string [99, 111, 100, 101]), .lit (.string [99, 111, 110, 115, 116]), .lit (.string [99, 114, 111, 115, 115]), .lit (.string [100, 111, 109, 97, 105, 110, 115]), .lit (.string [106, 111, 105, 110]), .lit (.string [108, 105, 115, 116]), .lit (.string [108, 111, 99, 97, 108]), .lit (.string [109, 97, 116, 114, 105, 120]), .lit (.string [112, 108, 97, 99, 101]), .lit (.string [112, 114, 111, 100, 117, 99, 116]), .lit (.string [112, 121, 114, 97, 109, 105, 100]), .lit (.string [114, 101, 101, 100]), .lit (.string [114, 111, 119]), .lit (.string [115, 112, 105, 114, 97, 108]), .lit (.string [115, 112, 114, 101, 97, 100]), .lit (.string [116, 111, 108, 101, 114, 97, 116, 101]), .lit (.string [117, 115, 101])]
def laid_recoup_tree_exprSigns {H : Type} : DataW H := .agg [.lit (.string []), .lit (.string []), .lit (.string []), .lit (.string [45]), .lit (.string [43]), .lit (.string [45]), .lit (.string [42]), .lit (.string [47]), .lit (.string [37])]
def laid_recoup_tree_shapeWords {H : Type} : DataW H := .agg [.lit (.string []), .lit (.string []), .lit (.string [114, 101, 101, 100]), .lit (.string [99, 114, 111, 115, 115]), .lit (.string [108, 111, 99, 97, 108]), .lit (.string [112, 121, 114, 97, 109, 105, 100]), .lit (.string [112, 114, 111, 100, 117, 99, 116]), .lit (.string [106, 111, 105, 110]), .lit (.string [109, 97, 116, 114, 105, 120])]
def laid_recoup_tree_itemWords {H : Type} : DataW H := .agg [.lit (.string []), .lit (.string [99, 111, 110, 115, 116]), .lit (.string [99, 111, 100, 101]), .lit (.string [117, 115, 101]), .lit (.string [100, 111, 109, 97, 105, 110, 115]), .lit (.string [112, 108, 97, 99, 101]), .lit (.string [116, 111, 108, 101, 114, 97, 116, 101])]
def laid_recoup_tree_placeWords {H : Type} : DataW H := .agg [.lit (.string []), .lit (.string [114, 111, 119]), .lit (.string [115, 112, 114, 101, 97, 100]), .lit (.string [115, 112, 105, 114, 97, 108]), .lit (.string [108, 105, 115, 116])]

/-- 'recouplaw10.TreeNames': WHATEVER THE INPUT: true; the input reads as it did. -/
def treeNamesSpec : ChangeSpec := { name := "treeNames", fn := fun _ => fun
  | [] => { results := [.lit (.bool true)], args := [] }
  | _ => none }
def treeNamesRow : OpenClaim := { program := "ytdimkfcanegahaadoor", sum := "791e819d606fe78ddb79361dcd29fcbf963e57df80b663896965b0dad34cd6ce", func := "recoup/recouplaw10.TreeNames", spec := "treeNames", inPlace := ["internal/bytealg.IndexByteString"], unfollowed := true, recurses := true, named := ["recoup/token.words", "internal/strconv.uint64pow10", "math/bits.deBruijn32tab", "math/bits.deBruijn64tab", "recoup/tree.exprSigns"], apart := false, laid := [("math/bits.deBruijn32tab", laid_math_bits_deBruijn32tab), ("math/bits.deBruijn64tab", laid_math_bits_deBruijn64tab), ("internal/strconv.uint64pow10", laid_internal_strconv_uint64pow10), ("recoup/token.words", laid_recoup_token_words), ("recoup/tree.exprSigns", laid_recoup_tree_exprSigns)] }
def TreeNamesSaid : Prop := treeNamesRow.holds Tryd.pinned (OpenSpec.ofChange treeNamesSpec)

/-- ITS FALSE NEIGHBOUR: 'it returns false'. Refute it at one input. -/
def treeNamesWrong : ChangeSpec := { name := "treeNames", fn := fun _ => fun
  | [] => { results := [.lit (.bool false)], args := [] }
  | _ => none }
def TreeNamesWrongFalsely : Prop := treeNamesRow.holds Tryd.pinned (OpenSpec.ofChange treeNamesWrong)

/-- 'recouplaw10.TreeMays': WHATEVER THE INPUT: true; the input reads as it did. -/
def treeMaysSpec : ChangeSpec := { name := "treeMays", fn := fun _ => fun
  | [d] => { results := [.lit (.bool true)], args := [d] }
  | _ => none }
def treeMaysRow : OpenClaim := { program := "ytdimkfcanegahaadoor", sum := "791e819d606fe78ddb79361dcd29fcbf963e57df80b663896965b0dad34cd6ce", func := "recoup/recouplaw10.TreeMays", spec := "treeMays", inPlace := ["internal/bytealg.IndexByteString"], unfollowed := true, recurses := true, named := ["recoup/token.words", "internal/strconv.uint64pow10", "math/bits.deBruijn32tab", "math/bits.deBruijn64tab", "recoup/tree.exprSigns"], loops := true, apart := false, laid := [("math/bits.deBruijn32tab", laid_math_bits_deBruijn32tab), ("math/bits.deBruijn64tab", laid_math_bits_deBruijn64tab), ("internal/strconv.uint64pow10", laid_internal_strconv_uint64pow10), ("recoup/token.words", laid_recoup_token_words), ("recoup/tree.exprSigns", laid_recoup_tree_exprSigns)] }
def TreeMaysSaid : Prop := treeMaysRow.holds Tryd.pinned (OpenSpec.ofChange treeMaysSpec)

/-- ITS FALSE NEIGHBOUR: 'it returns false'. Refute it at one input. -/
def treeMaysWrong : ChangeSpec := { name := "treeMays", fn := fun _ => fun
  | [d] => { results := [.lit (.bool false)], args := [d] }
  | _ => none }
def TreeMaysWrongFalsely : Prop := treeMaysRow.holds Tryd.pinned (OpenSpec.ofChange treeMaysWrong)

/-- 'recouplaw10.TreeTexts': WHATEVER THE INPUT: true; the input reads as it did. -/
def treeTextsSpec : ChangeSpec := { name := "treeTexts", fn := fun _ => fun
  | [d] => { results := [.lit (.bool true)], args := [d] }
  | _ => none }
def treeTextsRow : OpenClaim := { program := "ytdimkfcanegahaadoor", sum := "791e819d606fe78ddb79361dcd29fcbf963e57df80b663896965b0dad34cd6ce", func := "recoup/recouplaw10.TreeTexts", spec := "treeTexts", inPlace := ["internal/bytealg.IndexByteString"], unfollowed := true, recurses := true, named := ["recoup/token.words", "internal/strconv.uint64pow10", "math/bits.deBruijn32tab", "math/bits.deBruijn64tab", "recoup/tree.itemWords", "recoup/tree.exprSigns", "recoup/tree.shapeWords", "recoup/tree.placeWords"], loops := true, apart := false, laid := [("math/bits.deBruijn32tab", laid_math_bits_deBruijn32tab), ("math/bits.deBruijn64tab", laid_math_bits_deBruijn64tab), ("internal/strconv.uint64pow10", laid_internal_strconv_uint64pow10), ("recoup/token.words", laid_recoup_token_words), ("recoup/tree.exprSigns", laid_recoup_tree_exprSigns), ("recoup/tree.shapeWords", laid_recoup_tree_shapeWords), ("recoup/tree.itemWords", laid_recoup_tree_itemWords), ("recoup/tree.placeWords", laid_recoup_tree_placeWords)] }
def TreeTextsSaid : Prop := treeTextsRow.holds Tryd.pinned (OpenSpec.ofChange treeTextsSpec)

/-- ITS FALSE NEIGHBOUR: 'it returns false'. Refute it at one input. -/
def treeTextsWrong : ChangeSpec := { name := "treeTexts", fn := fun _ => fun
  | [d] => { results := [.lit (.bool false)], args := [d] }
  | _ => none }
def TreeTextsWrongFalsely : Prop := treeTextsRow.holds Tryd.pinned (OpenSpec.ofChange treeTextsWrong)

/-- 'recouplaw10.TreeSames': WHATEVER THE INPUT: true; the input reads as it did. -/
def treeSamesSpec : ChangeSpec := { name := "treeSames", fn := fun _ => fun
  | [d1, d2] => { results := [.lit (.bool true)], args := [d1, d2] }
  | _ => none }
def treeSamesRow : OpenClaim := { program := "ytdimkfcanegahaadoor", sum := "791e819d606fe78ddb79361dcd29fcbf963e57df80b663896965b0dad34cd6ce", func := "recoup/recouplaw10.TreeSames", spec := "treeSames", inPlace := ["internal/bytealg.IndexByteString"], unfollowed := true, recurses := true, named := ["recoup/token.words", "internal/strconv.uint64pow10", "math/bits.deBruijn32tab", "math/bits.deBruijn64tab", "recoup/tree.exprSigns"], loops := true, apart := false, laid := [("math/bits.deBruijn32tab", laid_math_bits_deBruijn32tab), ("math/bits.deBruijn64tab", laid_math_bits_deBruijn64tab), ("internal/strconv.uint64pow10", laid_internal_strconv_uint64pow10), ("recoup/token.words", laid_recoup_token_words), ("recoup/tree.exprSigns", laid_recoup_tree_exprSigns)] }
def TreeSamesSaid : Prop := treeSamesRow.holds Tryd.pinned (OpenSpec.ofChange treeSamesSpec)

/-- ITS FALSE NEIGHBOUR: 'it returns false'. Refute it at one input. -/
def treeSamesWrong : ChangeSpec := { name := "treeSames", fn := fun _ => fun
  | [d1, d2] => { results := [.lit (.bool false)], args := [d1, d2] }
  | _ => none }
def TreeSamesWrongFalsely : Prop := treeSamesRow.holds Tryd.pinned (OpenSpec.ofChange treeSamesWrong)

/-- 'recouplaw10.TreeOneText': WHATEVER THE INPUT: true; the input reads as it did. -/
def treeOneTextSpec : ChangeSpec := { name := "treeOneText", fn := fun _ => fun
  | [d1, d2] => { results := [.lit (.bool true)], args := [d1, d2] }
  | _ => none }
def treeOneTextRow : OpenClaim := { program := "ytdimkfcanegahaadoor", sum := "791e819d606fe78ddb79361dcd29fcbf963e57df80b663896965b0dad34cd6ce", func := "recoup/recouplaw10.TreeOneText", spec := "treeOneText", inPlace := ["internal/bytealg.IndexByteString"], unfollowed := true, recurses := true, named := ["recoup/token.words", "internal/strconv.uint64pow10", "math/bits.deBruijn32tab", "math/bits.deBruijn64tab", "recoup/tree.itemWords", "recoup/tree.exprSigns", "recoup/tree.shapeWords", "recoup/tree.placeWords"], loops := true, apart := false, laid := [("math/bits.deBruijn32tab", laid_math_bits_deBruijn32tab), ("math/bits.deBruijn64tab", laid_math_bits_deBruijn64tab), ("internal/strconv.uint64pow10", laid_internal_strconv_uint64pow10), ("recoup/token.words", laid_recoup_token_words), ("recoup/tree.exprSigns", laid_recoup_tree_exprSigns), ("recoup/tree.shapeWords", laid_recoup_tree_shapeWords), ("recoup/tree.itemWords", laid_recoup_tree_itemWords), ("recoup/tree.placeWords", laid_recoup_tree_placeWords)] }
def TreeOneTextSaid : Prop := treeOneTextRow.holds Tryd.pinned (OpenSpec.ofChange treeOneTextSpec)

/-- ITS FALSE NEIGHBOUR: 'it returns false'. Refute it at one input. -/
def treeOneTextWrong : ChangeSpec := { name := "treeOneText", fn := fun _ => fun
  | [d1, d2] => { results := [.lit (.bool false)], args := [d1, d2] }
  | _ => none }
def TreeOneTextWrongFalsely : Prop := treeOneTextRow.holds Tryd.pinned (OpenSpec.ofChange treeOneTextWrong)

/-- 'recouplaw10.TreeBrackets': WHATEVER THE INPUT: true; the input reads as it did. -/
def treeBracketsSpec : ChangeSpec := { name := "treeBrackets", fn := fun _ => fun
  | [d] => { results := [.lit (.bool true)], args := [d] }
  | _ => none }
def treeBracketsRow : OpenClaim := { program := "ytdimkfcanegahaadoor", sum := "791e819d606fe78ddb79361dcd29fcbf963e57df80b663896965b0dad34cd6ce", func := "recoup/recouplaw10.TreeBrackets", spec := "treeBrackets", inPlace := ["internal/bytealg.IndexByteString"], unfollowed := true, recurses := true, named := ["recoup/token.words", "internal/strconv.uint64pow10", "math/bits.deBruijn32tab", "math/bits.deBruijn64tab", "recoup/tree.exprSigns"], loops := true, apart := false, laid := [("math/bits.deBruijn32tab", laid_math_bits_deBruijn32tab), ("math/bits.deBruijn64tab", laid_math_bits_deBruijn64tab), ("internal/strconv.uint64pow10", laid_internal_strconv_uint64pow10), ("recoup/token.words", laid_recoup_token_words), ("recoup/tree.exprSigns", laid_recoup_tree_exprSigns)] }
def TreeBracketsSaid : Prop := treeBracketsRow.holds Tryd.pinned (OpenSpec.ofChange treeBracketsSpec)

/-- ITS FALSE NEIGHBOUR: 'it returns false'. Refute it at one input. -/
def treeBracketsWrong : ChangeSpec := { name := "treeBrackets", fn := fun _ => fun
  | [d] => { results := [.lit (.bool false)], args := [d] }
  | _ => none }
def TreeBracketsWrongFalsely : Prop := treeBracketsRow.holds Tryd.pinned (OpenSpec.ofChange treeBracketsWrong)

/- THE SECOND FORM. 'bulk': how many values and letters a reading holds, each counted each time it is reached (what is shared counts as often as it is met; a slice's spare places count too). A statement '..UptoSaid' is the law's where the arguments, and the package variables that the reading takes, are together of bulk at most 1048576: NARROWER than '..Said'. Prove '..Said' where nothing that the law and all that it calls make is longer than what came in: it says more and counts as full. Else prove '..UptoSaid'. A law counts once. -/
mutual
def uptoBulk {H : Type} : DataW H → Nat
  | .lit (.string bytes) => bytes.length + 1
  | .lit _ => 1
  | .nil => 1
  | .ptr d => uptoBulk d + 1
  | .slice elems spare => uptoBulkAll elems + uptoBulkAll spare + 1
  | .agg parts => uptoBulkAll parts + 1
  | .iface _ d => uptoBulk d + 1
  | .map entries => uptoBulkEntries entries + 1
  | .held _ => 1
def uptoBulkAll {H : Type} : List (DataW H) → Nat
  | [] => 0
  | d :: r => uptoBulk d + uptoBulkAll r
def uptoBulkEntries {H : Type} : List (Lit × DataW H) → Nat
  | [] => 0
  | x :: r => uptoBulkEntry x + uptoBulkEntries r
def uptoBulkEntry {H : Type} : Lit × DataW H → Nat
  | (.string bytes, d) => bytes.length + uptoBulk d + 1
  | (_, d) => uptoBulk d + 1
 end
def uptoSmall : (H : Type) → List (DataW H) → Bool := fun _ ds => decide (uptoBulkAll ds ≤ 1048576)
def OpenSpec.upto (s : _root_.Go.ChangeSpec) : _root_.Go.OpenSpec := { _root_.Go.OpenSpec.ofChange s with cond := some uptoSmall }

/-- 'recouplaw10.TreeNames', WHERE WHAT IT READS IS OF BULK AT MOST 1048576: true; the input reads as it did. -/
def treeNamesUptoRow : OpenClaim := { program := "ytdimkfcanegahaadoor", sum := "791e819d606fe78ddb79361dcd29fcbf963e57df80b663896965b0dad34cd6ce", func := "recoup/recouplaw10.TreeNames", spec := "treeNames", inPlace := ["internal/bytealg.IndexByteString"], unfollowed := true, recurses := true, named := ["recoup/token.words", "internal/strconv.uint64pow10", "math/bits.deBruijn32tab", "math/bits.deBruijn64tab", "recoup/tree.exprSigns"], apart := false, laid := [("math/bits.deBruijn32tab", laid_math_bits_deBruijn32tab), ("math/bits.deBruijn64tab", laid_math_bits_deBruijn64tab), ("internal/strconv.uint64pow10", laid_internal_strconv_uint64pow10), ("recoup/token.words", laid_recoup_token_words), ("recoup/tree.exprSigns", laid_recoup_tree_exprSigns)], narrowed := true }
def TreeNamesUptoSaid : Prop := treeNamesUptoRow.holds Tryd.pinned (OpenSpec.upto treeNamesSpec)

/-- 'recouplaw10.TreeMays', WHERE WHAT IT READS IS OF BULK AT MOST 1048576: true; the input reads as it did. -/
def treeMaysUptoRow : OpenClaim := { program := "ytdimkfcanegahaadoor", sum := "791e819d606fe78ddb79361dcd29fcbf963e57df80b663896965b0dad34cd6ce", func := "recoup/recouplaw10.TreeMays", spec := "treeMays", inPlace := ["internal/bytealg.IndexByteString"], unfollowed := true, recurses := true, named := ["recoup/token.words", "internal/strconv.uint64pow10", "math/bits.deBruijn32tab", "math/bits.deBruijn64tab", "recoup/tree.exprSigns"], loops := true, apart := false, laid := [("math/bits.deBruijn32tab", laid_math_bits_deBruijn32tab), ("math/bits.deBruijn64tab", laid_math_bits_deBruijn64tab), ("internal/strconv.uint64pow10", laid_internal_strconv_uint64pow10), ("recoup/token.words", laid_recoup_token_words), ("recoup/tree.exprSigns", laid_recoup_tree_exprSigns)], narrowed := true }
def TreeMaysUptoSaid : Prop := treeMaysUptoRow.holds Tryd.pinned (OpenSpec.upto treeMaysSpec)

/-- 'recouplaw10.TreeTexts', WHERE WHAT IT READS IS OF BULK AT MOST 1048576: true; the input reads as it did. -/
def treeTextsUptoRow : OpenClaim := { program := "ytdimkfcanegahaadoor", sum := "791e819d606fe78ddb79361dcd29fcbf963e57df80b663896965b0dad34cd6ce", func := "recoup/recouplaw10.TreeTexts", spec := "treeTexts", inPlace := ["internal/bytealg.IndexByteString"], unfollowed := true, recurses := true, named := ["recoup/token.words", "internal/strconv.uint64pow10", "math/bits.deBruijn32tab", "math/bits.deBruijn64tab", "recoup/tree.itemWords", "recoup/tree.exprSigns", "recoup/tree.shapeWords", "recoup/tree.placeWords"], loops := true, apart := false, laid := [("math/bits.deBruijn32tab", laid_math_bits_deBruijn32tab), ("math/bits.deBruijn64tab", laid_math_bits_deBruijn64tab), ("internal/strconv.uint64pow10", laid_internal_strconv_uint64pow10), ("recoup/token.words", laid_recoup_token_words), ("recoup/tree.exprSigns", laid_recoup_tree_exprSigns), ("recoup/tree.shapeWords", laid_recoup_tree_shapeWords), ("recoup/tree.itemWords", laid_recoup_tree_itemWords), ("recoup/tree.placeWords", laid_recoup_tree_placeWords)], narrowed := true }
def TreeTextsUptoSaid : Prop := treeTextsUptoRow.holds Tryd.pinned (OpenSpec.upto treeTextsSpec)

/-- 'recouplaw10.TreeSames', WHERE WHAT IT READS IS OF BULK AT MOST 1048576: true; the input reads as it did. -/
def treeSamesUptoRow : OpenClaim := { program := "ytdimkfcanegahaadoor", sum := "791e819d606fe78ddb79361dcd29fcbf963e57df80b663896965b0dad34cd6ce", func := "recoup/recouplaw10.TreeSames", spec := "treeSames", inPlace := ["internal/bytealg.IndexByteString"], unfollowed := true, recurses := true, named := ["recoup/token.words", "internal/strconv.uint64pow10", "math/bits.deBruijn32tab", "math/bits.deBruijn64tab", "recoup/tree.exprSigns"], loops := true, apart := false, laid := [("math/bits.deBruijn32tab", laid_math_bits_deBruijn32tab), ("math/bits.deBruijn64tab", laid_math_bits_deBruijn64tab), ("internal/strconv.uint64pow10", laid_internal_strconv_uint64pow10), ("recoup/token.words", laid_recoup_token_words), ("recoup/tree.exprSigns", laid_recoup_tree_exprSigns)], narrowed := true }
def TreeSamesUptoSaid : Prop := treeSamesUptoRow.holds Tryd.pinned (OpenSpec.upto treeSamesSpec)

/-- 'recouplaw10.TreeOneText', WHERE WHAT IT READS IS OF BULK AT MOST 1048576: true; the input reads as it did. -/
def treeOneTextUptoRow : OpenClaim := { program := "ytdimkfcanegahaadoor", sum := "791e819d606fe78ddb79361dcd29fcbf963e57df80b663896965b0dad34cd6ce", func := "recoup/recouplaw10.TreeOneText", spec := "treeOneText", inPlace := ["internal/bytealg.IndexByteString"], unfollowed := true, recurses := true, named := ["recoup/token.words", "internal/strconv.uint64pow10", "math/bits.deBruijn32tab", "math/bits.deBruijn64tab", "recoup/tree.itemWords", "recoup/tree.exprSigns", "recoup/tree.shapeWords", "recoup/tree.placeWords"], loops := true, apart := false, laid := [("math/bits.deBruijn32tab", laid_math_bits_deBruijn32tab), ("math/bits.deBruijn64tab", laid_math_bits_deBruijn64tab), ("internal/strconv.uint64pow10", laid_internal_strconv_uint64pow10), ("recoup/token.words", laid_recoup_token_words), ("recoup/tree.exprSigns", laid_recoup_tree_exprSigns), ("recoup/tree.shapeWords", laid_recoup_tree_shapeWords), ("recoup/tree.itemWords", laid_recoup_tree_itemWords), ("recoup/tree.placeWords", laid_recoup_tree_placeWords)], narrowed := true }
def TreeOneTextUptoSaid : Prop := treeOneTextUptoRow.holds Tryd.pinned (OpenSpec.upto treeOneTextSpec)

/-- 'recouplaw10.TreeBrackets', WHERE WHAT IT READS IS OF BULK AT MOST 1048576: true; the input reads as it did. -/
def treeBracketsUptoRow : OpenClaim := { program := "ytdimkfcanegahaadoor", sum := "791e819d606fe78ddb79361dcd29fcbf963e57df80b663896965b0dad34cd6ce", func := "recoup/recouplaw10.TreeBrackets", spec := "treeBrackets", inPlace := ["internal/bytealg.IndexByteString"], unfollowed := true, recurses := true, named := ["recoup/token.words", "internal/strconv.uint64pow10", "math/bits.deBruijn32tab", "math/bits.deBruijn64tab", "recoup/tree.exprSigns"], loops := true, apart := false, laid := [("math/bits.deBruijn32tab", laid_math_bits_deBruijn32tab), ("math/bits.deBruijn64tab", laid_math_bits_deBruijn64tab), ("internal/strconv.uint64pow10", laid_internal_strconv_uint64pow10), ("recoup/token.words", laid_recoup_token_words), ("recoup/tree.exprSigns", laid_recoup_tree_exprSigns)], narrowed := true }
def TreeBracketsUptoSaid : Prop := treeBracketsUptoRow.holds Tryd.pinned (OpenSpec.upto treeBracketsSpec)

end Rows
end Go.Proofs.YtdimkfcanegahaaDoor
