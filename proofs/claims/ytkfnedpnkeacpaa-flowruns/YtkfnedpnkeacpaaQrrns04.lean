/-
  Contracts of Pow (all of it), Exp, Log, Inv, Div.
-/
import Derived.Test.YtkfnedpnkeacpaaQrrns00
import Derived.Test.YtkfnedpnkeacpaaQrrns03
set_option maxRecDepth 100000
set_option maxHeartbeats 16000000
namespace Go.Proofs.Ytkfnedpnkeacpaa
open Go.RowKit
theorem qcu {w w1 w2 : World} (h1 : Below w.heap.size w w1) (h2 : Below w1.heap.size w1 w2) : Below w.heap.size w w2 := h1.trans (h2.mono h1.size)
end Go.Proofs.Ytkfnedpnkeacpaa
