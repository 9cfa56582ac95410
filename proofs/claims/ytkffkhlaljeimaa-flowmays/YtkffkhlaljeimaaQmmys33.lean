/-
  What the laws about matrices ask: two answers, matrix and error, are alike.
  The laws' parameters in the contracts' words: slices of ints; a place where a list of ints leaves its bounds.
-/
import Derived.Test.YtkffkhlaljeimaaQmmys00
import Derived.Test.YtkffkhlaljeimaaQmmys19
import Derived.Test.YtkffkhlaljeimaaQmmys32
set_option maxRecDepth 100000
set_option maxHeartbeats 16000000

