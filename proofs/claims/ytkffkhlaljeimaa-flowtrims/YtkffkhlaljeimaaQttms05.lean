/-
  Contracts of Pow (all of it), Exp, Log, Inv, Div.
-/
import Derived.Test.YtkffkhlaljeimaaQttms00
import Derived.Test.YtkffkhlaljeimaaQttms04
set_option maxRecDepth 100000
set_option maxHeartbeats 16000000

