/-
  Stage 12: MayEnv, of the reference.
-/
import Derived.Test.YtgmndjbicandfaaDoorQnnes10
import Derived.Test.YtgmndjbicandfaaDoorQnnes36
import Derived.Test.YtgmndjbicandfaaDoorQnnes00
set_option maxRecDepth 100000
set_option maxHeartbeats 16000000

