/-
  Contracts of the matrices' reference: what fails in Transpose and Mul; Apply.
  Contract of the matrices' reference: Kron.
-/
import Derived.Test.YtkffkhlaljeimaaQttms00
import Derived.Test.YtkffkhlaljeimaaQttms21
set_option maxRecDepth 100000
set_option maxHeartbeats 16000000

