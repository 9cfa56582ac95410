/-
  Stage 12: the reference's Work.
-/
import Derived.Test.YtgmndjbicandfaaDoorQnnes00
import Derived.Test.YtgmndjbicandfaaDoorQnnes05
set_option maxRecDepth 100000
set_option maxHeartbeats 16000000

