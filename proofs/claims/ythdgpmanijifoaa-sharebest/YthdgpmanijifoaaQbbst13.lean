/-
  Contracts of the matrices' reference: Identity, Row, Same.
  Contracts of the matrices' reference: Row, Same.
  The plain mathematics of sums and of polynomials over the field: no Go in sight. A polynomial is the function of its coefficients.
  Words for the matrices' products.
-/
import Derived.Test.YthdgpmanijifoaaQbbst12
import Derived.Test.YthdgpmanijifoaaQbbst00
set_option maxRecDepth 100000
set_option maxHeartbeats 16000000
namespace Go.Proofs.Ythdgpmanijifoaa

/-! ### Sums -/
/-- The sum of f 0, .., f (n - 1). -/
def xs (f : Nat → Nat) : Nat → Nat
 | 0 => 0
 | n + 1 => xs f n ^^^ f n
/-! ### Products -/
open Go.RowKit
theorem keepc {w w' : World} {b o : Nat} {v : Value} (hb : Below w.heap.size w w') (h : w.cell? ⟨b, o, none⟩ = some v) : w'.cell? ⟨b, o, none⟩ = some v := by rw [hb.cell (p := ⟨b, o, none⟩) (qa2 h)]; exact h
end Go.Proofs.Ythdgpmanijifoaa
