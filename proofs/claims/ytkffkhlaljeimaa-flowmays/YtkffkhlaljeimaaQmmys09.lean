/-
  Contracts of addProducts, Scale, Mac.
  Contracts of Scale, Mac.
-/
import Derived.Test.YtkffkhlaljeimaaQmmys00
import Derived.Test.YtkffkhlaljeimaaQmmys08
set_option maxRecDepth 100000
set_option maxHeartbeats 16000000

