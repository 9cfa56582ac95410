/-
  Contract of the rows' reference: Circuit.
-/
import Derived.Test.YtmgfeepnkahkmaaGreatQggid00
import Derived.Test.YtmgfeepnkahkmaaGreatQggid40
set_option maxRecDepth 100000
set_option maxHeartbeats 16000000

