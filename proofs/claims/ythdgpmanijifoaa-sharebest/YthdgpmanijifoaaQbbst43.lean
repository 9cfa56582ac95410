/-
  Stage 21: the reference's Copy of a flow.
-/
import Derived.Test.YthdgpmanijifoaaQbbst00
import Derived.Test.YthdgpmanijifoaaQbbst42
set_option maxRecDepth 100000
set_option maxHeartbeats 16000000

