/-
  Contracts of Scale, Mac.
-/
import Derived.Test.YtlfmekjkgegclabLd
namespace Go.Proofs.Ytlfmekjkgegclab
open Go.RowKit
theorem below_grown {w w1 w2 : World} (h1 : Below w.heap.size w w1) (h2 : w1.grownBy w2 (some w.heap.size)) : Below w.heap.size w w2 :=
  h1.grown h2 h1.size (fun k hk => by cases hk; exact Nat.le_refl _)
end Go.Proofs.Ytlfmekjkgegclab
