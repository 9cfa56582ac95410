/-
  What the laws about matrices ask: two answers, matrix and error, are alike.
-/
import Derived.Test.YtblagbghpfopcaaQffst00
import Derived.Test.YtblagbghpfopcaaQffst05
set_option maxRecDepth 100000
set_option maxHeartbeats 16000000

