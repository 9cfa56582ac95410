/-
  Stage 12: Value, of the reference.
-/
import Derived.Test.YtgmndjbicandfaaDoorQtted00
import Derived.Test.YtgmndjbicandfaaDoorQtted22
import Derived.Test.YtgmndjbicandfaaDoorQtted30
set_option maxRecDepth 100000
set_option maxHeartbeats 16000000

