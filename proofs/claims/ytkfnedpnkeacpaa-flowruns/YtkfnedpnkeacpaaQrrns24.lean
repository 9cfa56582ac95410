/-
  Contracts of the program's matrices: Make, Identity, Row, Same.
  Contracts of the program's matrices: Row, Same.
  Stage 21: numbers that have a property, in order; usedColumns.
-/
import Derived.Test.YtkfnedpnkeacpaaQrrns00
import Derived.Test.YtkfnedpnkeacpaaQrrns23
import Derived.Laws.OwnMore
import Derived.Test.YtkfnedpnkeacpaaQrrns22
set_option maxRecDepth 100000
set_option maxHeartbeats 16000000

