/-
  Contract of the matrices' reference: Transpose.
  Contract of the matrices' reference: Mul.
  Contracts of the matrices' reference: what fails in Transpose and Mul; Apply.
  Contract of the matrices' reference: Kron.
  Contracts of the matrices' reference: what fails in Kron; Same.
  Contract of the matrices' reference: Stack.
  Contracts of the matrices' reference: what fails in Stack; Same; Copy.
  Contract of the matrices' reference: Pick.
  Contracts of the matrices' reference: what fails in Pick.
  Contracts of the matrices' reference: Of.
-/
import Derived.Test.YthdgpmanijifoaaQbbst00
import Derived.Test.YthdgpmanijifoaaQbbst13
import Derived.Test.YthdgpmanijifoaaQbbst14
import Derived.Deep.AppendLies
import Derived.Laws.AppendOwnNone
set_option maxRecDepth 100000
set_option maxHeartbeats 16000000
namespace Go.Proofs.Ythdgpmanijifoaa
open Go.RowKit
/-- The rows' entries, one behind the other. -/
def off (f : Nat → Nat → Nat) (c p : Nat) : Nat := f (p / c) (p % c)
end Go.Proofs.Ythdgpmanijifoaa
