/-
  What echelon forms tell: of what is sent to b, of inverses, of the rows that are no combination of those above.
-/
import Derived.Test.YtlmanliinncdiaaGreatQggps00
import Derived.Test.YtlmanliinncdiaaGreatQggps32
import Derived.Test.YtlmanliinncdiaaGreatQggps34
set_option maxRecDepth 100000
set_option maxHeartbeats 16000000

