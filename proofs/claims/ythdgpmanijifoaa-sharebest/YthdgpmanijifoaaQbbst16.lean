/-
  Contracts of the matrices' reference: Of without rows; what fails in Of.
  Contracts of the matrices' reference: Same, Copy.
  What the laws about matrices ask: two answers, matrix and error, are alike.
  The laws' parameters in the contracts' words: slices of ints; a place where a list of ints leaves its bounds.
  Contracts of the program's matrices: isSide, hasRow, Right, noughts, piece, rowOf.
-/
import Derived.Test.YthdgpmanijifoaaQbbst00
import Derived.Test.YthdgpmanijifoaaQbbst15
import Derived.Test.YthdgpmanijifoaaQbbst12
set_option maxRecDepth 100000
set_option maxHeartbeats 16000000
namespace Go.Proofs.Ythdgpmanijifoaa
open Go.RowKit
/-- Where a piece of c elements begins that starts at place p. -/
def pc (a : Option Addr) (p c : Nat) : Option Addr := if c = 0 then a else a.map fun x => x.add p
end Go.Proofs.Ythdgpmanijifoaa
