/-
  Contract of the table of exponents.
-/
import Derived.Test.YtlfmekjkgegclaaWb
namespace Go.Proofs.Ytlfmekjkgegclaa
open Go.RowKit
end Go.Proofs.Ytlfmekjkgegclaa
