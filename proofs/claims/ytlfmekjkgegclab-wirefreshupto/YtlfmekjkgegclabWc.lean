/-
  Contract of the table of exponents.
-/
import Derived.Test.YtlfmekjkgegclabWb
namespace Go.Proofs.Ytlfmekjkgegclab
open Go.RowKit
end Go.Proofs.Ytlfmekjkgegclab
