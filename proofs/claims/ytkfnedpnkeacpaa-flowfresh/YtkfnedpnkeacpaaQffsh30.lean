/-
  Stage 21: Cost of both sides (made by gen34a.py).
-/
import Derived.Test.YtkfnedpnkeacpaaQffsh00
import Derived.Test.YtkfnedpnkeacpaaQffsh18
import Derived.Lib.MinMax
set_option maxRecDepth 100000
set_option maxHeartbeats 16000000

