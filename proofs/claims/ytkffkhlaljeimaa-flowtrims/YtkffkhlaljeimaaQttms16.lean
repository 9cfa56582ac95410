/-
  Contracts of the matrices' reference: Right, At, Zero, Make, Like.
  Contracts of the matrices' reference: Make, Same of lists, Like, Identity, Row.
-/
import Derived.Test.YtkffkhlaljeimaaQttms00
import Derived.Test.YtkffkhlaljeimaaQttms11
import Derived.Deep.MidRow
import Derived.Test.YtkffkhlaljeimaaQttms15
set_option maxRecDepth 100000
set_option maxHeartbeats 16000000

