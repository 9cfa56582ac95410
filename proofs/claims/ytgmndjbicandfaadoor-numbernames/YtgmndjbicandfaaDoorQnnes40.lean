/-
  Contracts of the program's tree: how many nodes an item leaves; May.
-/
import Derived.Test.YtgmndjbicandfaaDoorQnnes00
import Derived.Test.YtgmndjbicandfaaDoorQnnes19
set_option maxRecDepth 100000
set_option maxHeartbeats 16000000

