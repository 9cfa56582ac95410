/-
  Contracts of the sets' reference: Choose, Upto.
-/
import Derived.Test.YtfajmoiffjbcbabJi
namespace Go.Proofs.Ytfajmoiffjbcbab
open Go.RowKit
end Go.Proofs.Ytfajmoiffjbcbab
