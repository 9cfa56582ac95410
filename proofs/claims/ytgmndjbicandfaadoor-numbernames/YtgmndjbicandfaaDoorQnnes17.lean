/-
  Contracts of the program's tree: what an item is asked for; what is zero.
-/
import Derived.Test.YtgmndjbicandfaaDoorQnnes00
import Derived.Test.YtgmndjbicandfaaDoorQnnes15
set_option maxRecDepth 100000
set_option maxHeartbeats 16000000

