/-
  Stage 12: replaced, copied.
-/
import Derived.Test.YtgmndjbicandfaaDoorQtted00
import Derived.Test.YtgmndjbicandfaaDoorQtted32
set_option maxRecDepth 100000
set_option maxHeartbeats 16000000

