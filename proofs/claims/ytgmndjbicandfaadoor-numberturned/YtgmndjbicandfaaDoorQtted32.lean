/-
  Stage 12: withParts: an expression with a list of its own of what is made of its parts.
-/
import Derived.Test.YtgmndjbicandfaaDoorQtted00
import Derived.Test.YtgmndjbicandfaaDoorQtted31
import Derived.Test.YtgmndjbicandfaaDoorQtted22
set_option maxRecDepth 100000
set_option maxHeartbeats 16000000

