/-
  Contracts of the matrices' reference: Identity, Row, Same.
-/
import Derived.Test.YtkffkhlaljeimaaQmmys00
import Derived.Test.YtkffkhlaljeimaaQmmys19
set_option maxRecDepth 100000
set_option maxHeartbeats 16000000

