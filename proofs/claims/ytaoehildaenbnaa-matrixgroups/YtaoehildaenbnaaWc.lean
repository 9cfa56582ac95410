/-
  Contract of the table of exponents.
-/
import Derived.Test.YtaoehildaenbnaaWb
namespace Go.Proofs.Ytaoehildaenbnaa
open Go.RowKit
end Go.Proofs.Ytaoehildaenbnaa
