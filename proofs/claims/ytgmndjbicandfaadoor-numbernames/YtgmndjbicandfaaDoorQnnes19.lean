/-
  Contracts of the program's tree: which items may be; May.
-/
import Derived.Test.YtgmndjbicandfaaDoorQnnes00
import Derived.Test.YtgmndjbicandfaaDoorQnnes16
import Derived.Test.YtgmndjbicandfaaDoorQnnes17
import Derived.Test.YtgmndjbicandfaaDoorQnnes18
set_option maxRecDepth 100000
set_option maxHeartbeats 16000000

