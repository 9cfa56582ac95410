/-
  Contracts of the program's tree: which shapes may be.
-/
import Derived.Test.YtgmndjbicandfaaDoorQnnes00
import Derived.Test.YtgmndjbicandfaaDoorQnnes14
import Derived.Laws.StructEq
set_option maxRecDepth 100000
set_option maxHeartbeats 16000000

