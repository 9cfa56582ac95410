/-
  The plain mathematics of sums and of polynomials over the field: no Go in sight. A polynomial is the function of its coefficients.
-/
import Derived.Test.YtkffkhlaljeimaaQttms00
set_option maxRecDepth 100000
set_option maxHeartbeats 16000000
namespace Go.Proofs.Ytkffkhlaljeimaa

/-! ### Sums -/
/-- The sum of f 0, .., f (n - 1). -/
def xs (f : Nat → Nat) : Nat → Nat
 | 0 => 0
 | n + 1 => xs f n ^^^ f n
/-! ### Products -/
end Go.Proofs.Ytkffkhlaljeimaa
