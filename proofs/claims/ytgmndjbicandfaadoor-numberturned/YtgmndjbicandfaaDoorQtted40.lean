/-
  Stage 12: Eval, of the reference.
-/
import Derived.Test.YtgmndjbicandfaaDoorQtted00
import Derived.Test.YtgmndjbicandfaaDoorQtted23
import Derived.Test.YtgmndjbicandfaaDoorQtted39
set_option maxRecDepth 100000
set_option maxHeartbeats 16000000

