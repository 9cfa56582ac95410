/-
  Stage 12: Put, of the program.
-/
import Derived.Test.YtgmndjbicandfaaDoorQtted00
import Derived.Test.YtgmndjbicandfaaDoorQtted33
set_option maxRecDepth 100000
set_option maxHeartbeats 16000000

