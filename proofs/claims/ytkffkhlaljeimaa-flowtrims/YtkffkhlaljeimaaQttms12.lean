/-
  Choices of k of n, one after the other.
-/
import Derived.Test.YtkffkhlaljeimaaQttms00
set_option maxRecDepth 100000
set_option maxHeartbeats 16000000
namespace Go.Proofs.Ytkffkhlaljeimaa
/-- The choice as a number. -/
def vl (n : Nat) (q : Nat → Nat) : Nat → Nat
 | 0 => 0
 | k + 1 => vl n q k * n + q k
end Go.Proofs.Ytkffkhlaljeimaa
