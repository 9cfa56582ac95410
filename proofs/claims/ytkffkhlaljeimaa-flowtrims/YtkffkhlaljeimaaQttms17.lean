/-
  Contracts of the matrices' reference: Identity, Row, Same.
  Contracts of the matrices' reference: Row, Same.
-/
import Derived.Test.YtkffkhlaljeimaaQttms00
import Derived.Test.YtkffkhlaljeimaaQttms16
set_option maxRecDepth 100000
set_option maxHeartbeats 16000000

