/-
  Contracts of the program's matrices: Make, Identity, Row, Same.
-/
import Derived.Test.YthdgpmanijifoaaQbbst00
import Derived.Test.YthdgpmanijifoaaQbbst28
set_option maxRecDepth 100000
set_option maxHeartbeats 16000000

