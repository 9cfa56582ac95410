/-
  What echelon forms tell: of what is sent to b, of inverses, of the rows that are no combination of those above.
-/
import Derived.Test.YtmgfeepnkahkmaaGreatQmmys00
import Derived.Test.YtmgfeepnkahkmaaGreatQmmys19
import Derived.Test.YtmgfeepnkahkmaaGreatQmmys25
set_option maxRecDepth 100000
set_option maxHeartbeats 16000000

