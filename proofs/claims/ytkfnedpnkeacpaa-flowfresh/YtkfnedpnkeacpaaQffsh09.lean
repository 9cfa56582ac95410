/-
  Contracts of the matrices' reference: Of without rows; what fails in Of.
-/
import Derived.Test.YtkfnedpnkeacpaaQffsh00
import Derived.Test.YtkfnedpnkeacpaaQffsh08
set_option maxRecDepth 100000
set_option maxHeartbeats 16000000

