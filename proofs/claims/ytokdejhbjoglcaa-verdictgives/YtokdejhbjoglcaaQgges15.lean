/-
  What the laws about matrices ask: two answers, matrix and error, are alike.
-/
import Derived.Test.YtokdejhbjoglcaaQgges00
import Derived.Test.YtokdejhbjoglcaaQgges08
set_option maxRecDepth 100000
set_option maxHeartbeats 16000000
namespace Go.Proofs.Ytokdejhbjoglcaa
open Go.RowKit
theorem qhn {r c : Int} {n : Nat} {f h : Nat → Nat} (e : ∀ i, i < n → f i = h i) : likeB r c r c n n f h = true := by
 unfold likeB sameB
 simp
 exact e
end Go.Proofs.Ytokdejhbjoglcaa
