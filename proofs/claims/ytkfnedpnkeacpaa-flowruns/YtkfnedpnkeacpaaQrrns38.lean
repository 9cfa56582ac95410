/-
  Stage 21: Cost of both sides (made by gen34a.py).
  Stage 21: to trim once more changes nothing; the trimmed flow costs no more.
-/
import Derived.Test.YtkfnedpnkeacpaaQrrns00
import Derived.Test.YtkfnedpnkeacpaaQrrns27
import Derived.Lib.MinMax
import Derived.Test.YtkfnedpnkeacpaaQrrns34
import Derived.Test.YtkfnedpnkeacpaaQrrns37
set_option maxRecDepth 100000
set_option maxHeartbeats 16000000
namespace Go.Proofs.Ytkfnedpnkeacpaa
open Go.RowKit
theorem qd6 {F : Fl} {v : Nat} (h : F.ni ≤ v) : tn F v = F.nt (v - F.ni) := if_neg (by omega)
end Go.Proofs.Ytkfnedpnkeacpaa
