/-
  Contracts of the matrices' reference: Of without rows; what fails in Of.
-/
import Derived.Test.YtaoehildaenbnabSo
namespace Go.Proofs.Ytaoehildaenbnab
open Go.RowKit
end Go.Proofs.Ytaoehildaenbnab
