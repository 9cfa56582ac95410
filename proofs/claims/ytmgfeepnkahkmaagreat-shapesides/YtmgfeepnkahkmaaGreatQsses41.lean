/-
  Contract of the rows' reference: Circuit.
-/
import Derived.Test.YtmgfeepnkahkmaaGreatQsses00
import Derived.Test.YtmgfeepnkahkmaaGreatQsses40
set_option maxRecDepth 100000
set_option maxHeartbeats 16000000

