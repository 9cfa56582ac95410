/-
  Contract of the table of exponents.
-/
import Derived.Test.YtaoehildaenbnabWb
namespace Go.Proofs.Ytaoehildaenbnab
open Go.RowKit
end Go.Proofs.Ytaoehildaenbnab
