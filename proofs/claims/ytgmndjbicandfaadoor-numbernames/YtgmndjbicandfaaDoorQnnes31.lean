/-
  Stage 12: environments that came in; what quotients and rests are.
-/
import Derived.Test.YtgmndjbicandfaaDoorQnnes00
import Derived.Test.YtgmndjbicandfaaDoorQnnes23
import Derived.Test.YtgmndjbicandfaaDoorQnnes24
set_option maxRecDepth 100000
set_option maxHeartbeats 16000000

