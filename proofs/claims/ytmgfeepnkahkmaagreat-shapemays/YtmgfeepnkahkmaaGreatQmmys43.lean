/-
  Contract of the rows' reference: Circuit.
-/
import Derived.Test.YtmgfeepnkahkmaaGreatQmmys00
import Derived.Test.YtmgfeepnkahkmaaGreatQmmys42
set_option maxRecDepth 100000
set_option maxHeartbeats 16000000

