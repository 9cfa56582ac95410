/-
  What the program's gauss answers of lists; the reference's, in the same words.
-/
import Derived.Test.YtblagbghpfopcaaGreatQwwin00
import Derived.Test.YtblagbghpfopcaaGreatQwwin29
set_option maxRecDepth 100000
set_option maxHeartbeats 16000000
namespace Go.Proofs.YtblagbghpfopcaaGreat
open Go.RowKit
/-- What Solve, Combine answer. -/
def LstP (w w' : World) (e : Ending) (n : Nat) (Q : (Nat → Nat) → Prop) : Prop := ∃ s d x, e = .returned (.tuple #[.slice s n d, .bool true, .int .i64 0]) ∧ Mt w' s n d x ∧ Q x ∧ Below w.heap.size w w'
def NoneP (w w' : World) (e : Ending) (E : Int) : Prop := e = .returned (.tuple #[.slice none 0 0, .bool false, .int .i64 E]) ∧ Below w.heap.size w w'
end Go.Proofs.YtblagbghpfopcaaGreat
