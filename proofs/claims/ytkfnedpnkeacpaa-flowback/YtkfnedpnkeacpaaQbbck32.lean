/-
  Stage 21: flows that came in.
-/
import Derived.Test.YtkfnedpnkeacpaaQbbck00
import Derived.Test.YtkfnedpnkeacpaaQbbck31
import Derived.Deep.Slices
import Derived.SizedLaws
set_option maxRecDepth 100000
set_option maxHeartbeats 16000000

