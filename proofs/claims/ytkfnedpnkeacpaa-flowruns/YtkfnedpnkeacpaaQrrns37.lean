/-
  Stage 21: Same of the reference.
-/
import Derived.Test.YtkfnedpnkeacpaaQrrns00
import Derived.Test.YtkfnedpnkeacpaaQrrns30
set_option maxRecDepth 100000
set_option maxHeartbeats 16000000

