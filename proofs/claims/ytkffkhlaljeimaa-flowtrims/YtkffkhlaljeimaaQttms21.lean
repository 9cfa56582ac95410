/-
  Contract of the matrices' reference: Transpose.
  Contract of the matrices' reference: Mul.
-/
import Derived.Test.YtkffkhlaljeimaaQttms00
import Derived.Test.YtkffkhlaljeimaaQttms19
import Derived.Test.YtkffkhlaljeimaaQttms20
import Derived.Deep.AppendLies
set_option maxRecDepth 100000
set_option maxHeartbeats 16000000

