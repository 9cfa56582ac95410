/-
  Stage 12: environments that came in; what quotients and rests are.
-/
import Derived.Test.YtemhodenkgngmaaDoorQllks00
import Derived.Test.YtemhodenkgngmaaDoorQllks23
import Derived.Test.YtemhodenkgngmaaDoorQllks24
set_option maxRecDepth 100000
set_option maxHeartbeats 16000000

