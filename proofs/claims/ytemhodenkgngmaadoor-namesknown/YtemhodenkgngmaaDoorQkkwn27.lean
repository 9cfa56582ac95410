/-
  Stage 12: environments that came in; what quotients and rests are.
-/
import Derived.Test.YtemhodenkgngmaaDoorQkkwn00
import Derived.Test.YtemhodenkgngmaaDoorQkkwn25
import Derived.Test.YtemhodenkgngmaaDoorQkkwn26
set_option maxRecDepth 100000
set_option maxHeartbeats 16000000

