/-
  Contracts of the field's plain calls: Add, double, Mul, and the reference's Mul.
-/
import Derived.Test.YtlfmekjkgegclabMath
import Derived.Test.YtlfmekjkgegclabRows
import Derived.WalkKit
import Derived.WalkSpells
import Derived.WalkLawsBesides
import Derived.ProofKit
namespace Go.Proofs.Ytlfmekjkgegclab
open Go.RowKit
theorem ret_int {k : IntKind} {a b : Int} (h : a = b) : Ending.returned (.int k a) = .returned (.int k b) := by rw [h]
theorem anch1 : imul 2 128 = 29 := by kernel_rfl
theorem anch2 : ixor 5 3 = 6 := by kernel_rfl
end Go.Proofs.Ytlfmekjkgegclab
