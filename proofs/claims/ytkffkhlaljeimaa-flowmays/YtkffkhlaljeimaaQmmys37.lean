/-
  Contracts of the program's matrices: allRight, Make, Identity.
  Contracts of the program's matrices: Make, Identity, Row, Same.
-/
import Derived.Test.YtkffkhlaljeimaaQmmys00
import Derived.Test.YtkffkhlaljeimaaQmmys35
set_option maxRecDepth 100000
set_option maxHeartbeats 16000000

