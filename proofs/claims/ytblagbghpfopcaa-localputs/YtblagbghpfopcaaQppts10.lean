/-
  What the laws about matrices ask: two answers, matrix and error, are alike.
-/
import Derived.Test.YtblagbghpfopcaaQppts00
import Derived.Test.YtblagbghpfopcaaQppts05
set_option maxRecDepth 100000
set_option maxHeartbeats 16000000

