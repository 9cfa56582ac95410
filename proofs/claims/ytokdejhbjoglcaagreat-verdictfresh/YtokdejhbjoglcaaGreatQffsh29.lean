/-
  What the program's gauss answers of lists; the reference's, in the same words.
-/
import Derived.Test.YtokdejhbjoglcaaGreatQffsh00
import Derived.Test.YtokdejhbjoglcaaGreatQffsh28
set_option maxRecDepth 100000
set_option maxHeartbeats 16000000
namespace Go.Proofs.YtokdejhbjoglcaaGreat
open Go.RowKit
/-- What First answers. -/
def FstP (w w' : World) (e : Ending) (r c : Nat) (F : Nat → Nat) : Prop := ∃ ps pd t q, e = .returned (.tuple #[.slice ps t pd, .int .i64 0]) ∧ Il w' ps t (fun i => (q i : Int)) ∧ FstL (m2 F r c) r t q ∧ Rk (m2 F r c) r t ∧ t ≤ r ∧ Below w.heap.size w w'
/-- What Inverse answers. -/
def InvP (w w' : World) (e : Ending) (r n : Nat) (F : Nat → Nat) : Prop := ∃ s d O, e = .returned (.tuple #[mv r r s n d, .int .i64 0]) ∧ Mt w' s n d O ∧ (∀ i j, i < r → j < r → pr (m2 F r r) (m2 O r r) r i j = dl i j) ∧ Below w.heap.size w w'
end Go.Proofs.YtokdejhbjoglcaaGreat
