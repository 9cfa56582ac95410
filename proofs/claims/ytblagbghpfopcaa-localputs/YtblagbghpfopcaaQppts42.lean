/-
  The checks' own anchor: one place and one number that the document fixes.
-/
import Derived.Test.YtblagbghpfopcaaQppts00
import Derived.Test.YtblagbghpfopcaaQppts16
set_option maxRecDepth 100000
set_option maxHeartbeats 16000000

