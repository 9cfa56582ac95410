/-
  Contracts of the matrices' reference: what fails in Stack; Same; Copy.
-/
import Derived.Test.YtkffkhlaljeimaaQmmys00
import Derived.Test.YtkffkhlaljeimaaQmmys28
set_option maxRecDepth 100000
set_option maxHeartbeats 16000000

