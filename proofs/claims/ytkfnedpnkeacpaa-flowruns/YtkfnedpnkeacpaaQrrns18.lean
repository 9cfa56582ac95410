/-
  Drawn regions whose last operation waits for all others: it may be left for behind the region.
  Contract of the matrices' reference: Transpose.
  Contract of the matrices' reference: Mul.
  Contracts of the matrices' reference: what fails in Transpose and Mul; Apply.
  Contract of the matrices' reference: Kron.
  Contracts of the matrices' reference: what fails in Kron; Same.
  Contract of the matrices' reference: Stack.
  Contracts of the matrices' reference: what fails in Stack; Same; Copy.
  Contract of the matrices' reference: Pick.
  Contracts of the matrices' reference: what fails in Pick.
-/
import Derived.Test.YtkfnedpnkeacpaaQrrns00
import Derived.OrdersHeld
import Derived.KernelRfl
import Derived.Deep.RegionHeld
import Derived.Test.YtkfnedpnkeacpaaQrrns17
import Derived.Deep.AppendLies
import Derived.Laws.AppendOwnNone
set_option maxRecDepth 100000
set_option maxHeartbeats 16000000
namespace Go.Proofs.Ytkfnedpnkeacpaa
variable {P : Program} {ops : Array Oper} {md : Region.Mode}
end Go.Proofs.Ytkfnedpnkeacpaa
