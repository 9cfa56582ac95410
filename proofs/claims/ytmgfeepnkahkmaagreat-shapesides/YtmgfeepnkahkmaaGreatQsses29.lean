/-
  What echelon forms tell: of what is sent to b, of inverses, of the rows that are no combination of those above.
-/
import Derived.Test.YtmgfeepnkahkmaaGreatQsses00
import Derived.Test.YtmgfeepnkahkmaaGreatQsses19
import Derived.Test.YtmgfeepnkahkmaaGreatQsses24
set_option maxRecDepth 100000
set_option maxHeartbeats 16000000

