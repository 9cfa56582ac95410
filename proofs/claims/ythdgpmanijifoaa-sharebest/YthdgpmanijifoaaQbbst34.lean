/-
  Stage 21: Same of the reference.
-/
import Derived.Test.YthdgpmanijifoaaQbbst00
import Derived.Test.YthdgpmanijifoaaQbbst32
set_option maxRecDepth 100000
set_option maxHeartbeats 16000000

