/-
  From what a law's shell tells of a slice that came in to what the contracts ask.
-/
import Derived.Test.YtkffkhlaljeimaaQmmys00
import Derived.Test.YtkffkhlaljeimaaQmmys11
set_option maxRecDepth 100000
set_option maxHeartbeats 16000000

