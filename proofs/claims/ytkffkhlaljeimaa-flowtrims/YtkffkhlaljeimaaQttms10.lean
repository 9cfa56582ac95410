/-
  Contract of the reference's Mac.
  From what a law's shell tells of a slice that came in to what the contracts ask.
-/
import Derived.Test.YtkffkhlaljeimaaQttms00
import Derived.Test.YtkffkhlaljeimaaQttms09
set_option maxRecDepth 100000
set_option maxHeartbeats 16000000

