/-
  The checks' own anchor: one place and one number that the document fixes.
  For what stays: a copy; two lists or matrices that are alike.
-/
import Derived.Test.YtblagbghpfopcaaGreatQllst00
import Derived.Test.YtblagbghpfopcaaGreatQllst11
import Derived.Test.YtblagbghpfopcaaGreatQllst40
import Derived.Test.YtblagbghpfopcaaGreatQllst09
import Derived.Test.YtblagbghpfopcaaGreatQllst08
set_option maxRecDepth 100000
set_option maxHeartbeats 16000000

