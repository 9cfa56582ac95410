/-
  Contracts of the matrices' reference: Make, Same of lists, Like, Identity, Row.
-/
import Derived.Test.YtkffkhlaljeimaaQmmys00
import Derived.Test.YtkffkhlaljeimaaQmmys17
import Derived.Test.YtkffkhlaljeimaaQmmys18
set_option maxRecDepth 100000
set_option maxHeartbeats 16000000

