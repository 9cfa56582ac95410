/-
  Contracts of the program's tree: what a shape is asked for.
-/
import Derived.Test.YtgmndjbicandfaaDoorQnnes00
import Derived.Test.YtgmndjbicandfaaDoorQnnes09
set_option maxRecDepth 100000
set_option maxHeartbeats 16000000

