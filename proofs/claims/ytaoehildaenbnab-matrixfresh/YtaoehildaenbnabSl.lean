/-
  Contracts of the matrices' reference: what fails in Stack; Same; Copy.
-/
import Derived.Test.YtaoehildaenbnabSk
namespace Go.Proofs.Ytaoehildaenbnab
open Go.RowKit
end Go.Proofs.Ytaoehildaenbnab
