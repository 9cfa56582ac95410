/-
  Contract of the rows' reference: Circuit.
-/
import Derived.Test.YtlmanliinncdiaaGreatQggps00
import Derived.Test.YtlmanliinncdiaaGreatQggps46
set_option maxRecDepth 100000
set_option maxHeartbeats 16000000

