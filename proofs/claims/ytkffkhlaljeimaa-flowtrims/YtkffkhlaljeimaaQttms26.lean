/-
  Contracts of the matrices' reference: Of without rows; what fails in Of.
  Contracts of the matrices' reference: Same, Copy.
-/
import Derived.Test.YtkffkhlaljeimaaQttms00
import Derived.Test.YtkffkhlaljeimaaQttms25
set_option maxRecDepth 100000
set_option maxHeartbeats 16000000

