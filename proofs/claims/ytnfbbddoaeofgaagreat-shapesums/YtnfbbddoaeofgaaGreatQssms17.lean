/-
  Contracts of the reference's times, Pow, Exp, Log, Inv, Div.
-/
import Derived.Test.YtnfbbddoaeofgaaGreatQssms00
import Derived.Test.YtnfbbddoaeofgaaGreatQssms01
set_option maxRecDepth 100000
set_option maxHeartbeats 16000000

