/-
  The checks' own anchor: one place and one number that the document fixes.
-/
import Derived.Test.YtblagbghpfopcaaGreatQsses00
import Derived.Test.YtblagbghpfopcaaGreatQsses15
set_option maxRecDepth 100000
set_option maxHeartbeats 16000000

