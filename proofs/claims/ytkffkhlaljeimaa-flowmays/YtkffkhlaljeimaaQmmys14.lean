/-
  Choices of k of n, one after the other.
  How many choices of k of n there are.
-/
import Derived.Test.YtkffkhlaljeimaaQmmys00
set_option maxRecDepth 100000
set_option maxHeartbeats 16000000

