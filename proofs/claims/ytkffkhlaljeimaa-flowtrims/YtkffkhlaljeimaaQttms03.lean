/-
  Contract of the table of exponents.
  Contracts of inBounds, powerWithin, Pow, Exp, Log, Inv, Div.
-/
import Derived.Test.YtkffkhlaljeimaaQttms00
import Derived.Test.YtkffkhlaljeimaaQttms02
import Derived.Deep.QuietTactic
import Derived.BigQuiet
set_option maxRecDepth 100000
set_option maxHeartbeats 16000000

