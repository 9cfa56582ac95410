/-
  What the program's gauss answers of lists; the reference's, in the same words.
-/
import Derived.Test.YtlmanliinncdiaaGreatQggps00
import Derived.Test.YtlmanliinncdiaaGreatQggps32
set_option maxRecDepth 100000
set_option maxHeartbeats 16000000

