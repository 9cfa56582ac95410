/-
  Contracts of the tables: powersOfTwo, exponentsOfTwo.
-/
import Derived.Test.YtkffkhlaljeimaaQttms00
import Derived.Test.YtkffkhlaljeimaaQttms01
import Derived.Laws.Rows
import Derived.Laws.Tables
import Derived.Below
import Derived.OneCell
import Derived.Laws.CopyOwn
set_option maxRecDepth 100000
set_option maxHeartbeats 16000000
namespace Go.Proofs.Ytkffkhlaljeimaa
open Go.RowKit
/-- The cells of an array of n bytes, by their numbers. -/
def row (n : Nat) (f : Nat → Nat) : Array Value := (Array.range n).map fun i => .int .u8 (f i : Nat)
end Go.Proofs.Ytkffkhlaljeimaa
