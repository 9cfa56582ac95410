/-
  Lists that are not the same: the reference's Same, exactly.
-/
import Derived.Test.YtkffkhlaljeimaaQttms00
import Derived.Test.YtkffkhlaljeimaaQttms06
import Derived.Lib.Bytes
set_option maxRecDepth 100000
set_option maxHeartbeats 16000000

