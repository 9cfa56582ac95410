/-
  Contracts of copyOf, Sum, Dot.
  Contracts of multiples, addProducts, Scale, Mac.
-/
import Derived.Test.YtkffkhlaljeimaaQttms00
import Derived.Test.YtkffkhlaljeimaaQttms06
import Derived.Laws.CopyOwn
import Derived.RegionTactic
import Derived.BigRegion
set_option maxRecDepth 100000
set_option maxHeartbeats 16000000

