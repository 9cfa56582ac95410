/-
  Contracts of the program's tree: what a shape is asked for.
-/
import Derived.Test.YtgmndjbicandfaaDoorQtted00
import Derived.Test.YtgmndjbicandfaaDoorQtted09
set_option maxRecDepth 100000
set_option maxHeartbeats 16000000

