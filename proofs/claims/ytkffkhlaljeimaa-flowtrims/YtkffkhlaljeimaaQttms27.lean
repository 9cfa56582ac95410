/-
  What the laws about matrices ask: two answers, matrix and error, are alike.
  The laws' parameters in the contracts' words: slices of ints; a place where a list of ints leaves its bounds.
  Contracts of the program's matrices: isSide, hasRow, Right, noughts, piece, rowOf.
-/
import Derived.Test.YtkffkhlaljeimaaQttms00
import Derived.Test.YtkffkhlaljeimaaQttms16
import Derived.Test.YtkffkhlaljeimaaQttms26
set_option maxRecDepth 100000
set_option maxHeartbeats 16000000

