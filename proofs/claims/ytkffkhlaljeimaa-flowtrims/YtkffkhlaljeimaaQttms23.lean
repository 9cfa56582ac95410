/-
  Contracts of the matrices' reference: what fails in Kron; Same.
  Contract of the matrices' reference: Stack.
-/
import Derived.Test.YtkffkhlaljeimaaQttms00
import Derived.Test.YtkffkhlaljeimaaQttms22
import Derived.Laws.AppendOwnNone
set_option maxRecDepth 100000
set_option maxHeartbeats 16000000

