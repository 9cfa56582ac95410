/-
  Stage 13: the reference's Env.
-/
import Derived.Test.YtemhodenkgngmaaDoorQkkwn00
import Derived.Test.YtemhodenkgngmaaDoorQkkwn29
set_option maxRecDepth 100000
set_option maxHeartbeats 16000000

