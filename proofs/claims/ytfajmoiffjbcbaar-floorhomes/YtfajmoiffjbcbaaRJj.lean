/-
  Contracts of the sets' reference: Choose, Upto.
-/
import Derived.Test.YtfajmoiffjbcbaaRJi
namespace Go.Proofs.YtfajmoiffjbcbaaR
open Go.RowKit
end Go.Proofs.YtfajmoiffjbcbaaR
