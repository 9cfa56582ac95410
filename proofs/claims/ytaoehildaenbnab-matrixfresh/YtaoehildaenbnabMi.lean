/-
  Contracts of the program's matrices: Pick.
-/
import Derived.Test.YtaoehildaenbnabMh
namespace Go.Proofs.Ytaoehildaenbnab
open Go.RowKit
end Go.Proofs.Ytaoehildaenbnab
