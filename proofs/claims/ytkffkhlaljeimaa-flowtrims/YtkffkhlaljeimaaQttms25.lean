/-
  Contracts of the matrices' reference: what fails in Pick.
  Contracts of the matrices' reference: Of.
-/
import Derived.Test.YtkffkhlaljeimaaQttms00
import Derived.Test.YtkffkhlaljeimaaQttms24
set_option maxRecDepth 100000
set_option maxHeartbeats 16000000

