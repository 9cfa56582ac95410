/-
  Contracts of the matrices' reference: Right, At, Zero, Make, Like.
  Lists that are not the same: the reference's Same, exactly.
  Contracts of the matrices' reference: Make, Same of lists, Like, Identity, Row.
-/
import Derived.Test.YthdgpmanijifoaaQbbst00
import Derived.Test.YthdgpmanijifoaaQbbst09
import Derived.Deep.MidRow
import Derived.Test.YthdgpmanijifoaaQbbst07
import Derived.Lib.Bytes
set_option maxRecDepth 100000
set_option maxHeartbeats 16000000

