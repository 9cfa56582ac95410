/-
  Contracts of the matrices' reference: Of without rows; what fails in Of.
  Contracts of the matrices' reference: Same, Copy.
-/
import Derived.Test.YtkffkhlaljeimaaQmmys00
import Derived.Test.YtkffkhlaljeimaaQmmys31
set_option maxRecDepth 100000
set_option maxHeartbeats 16000000

