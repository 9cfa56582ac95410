/-
  Contracts of addProducts, Scale, Mac.
  Contracts of Scale, Mac.
-/
import Derived.Test.YtkffkhlaljeimaaQttms00
import Derived.Test.YtkffkhlaljeimaaQttms07
set_option maxRecDepth 100000
set_option maxHeartbeats 16000000

