/-
  Stage 21: the reference's CopyBlocks.
-/
import Derived.Test.YthdgpmanijifoaaQbbst00
import Derived.Test.YthdgpmanijifoaaQbbst39
set_option maxRecDepth 100000
set_option maxHeartbeats 16000000

