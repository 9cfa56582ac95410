/-
  Contract of the matrices' reference: Mul.
  Contracts of the matrices' reference: what fails in Transpose and Mul; Apply.
-/
import Derived.Test.YtkffkhlaljeimaaQmmys00
import Derived.Test.YtkffkhlaljeimaaQmmys25
set_option maxRecDepth 100000
set_option maxHeartbeats 16000000

