/-
  Contracts of the program's matrices: Of.
-/
import Derived.Test.YtaoehildaenbnabMj
namespace Go.Proofs.Ytaoehildaenbnab
open Go.RowKit
end Go.Proofs.Ytaoehildaenbnab
