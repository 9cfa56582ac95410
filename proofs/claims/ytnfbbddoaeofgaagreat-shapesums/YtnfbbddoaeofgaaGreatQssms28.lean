/-
  What the program's gauss answers of lists; the reference's, in the same words.
-/
import Derived.Test.YtnfbbddoaeofgaaGreatQssms00
import Derived.Test.YtnfbbddoaeofgaaGreatQssms27
set_option maxRecDepth 100000
set_option maxHeartbeats 16000000
namespace Go.Proofs.YtnfbbddoaeofgaaGreat
open Go.RowKit
theorem ob_mt {w : World} {B n d : Nat} {s : Option Addr} {f : Nat → Nat} (h : Ob w B (.slice s n d) n f) (hf : ∀ i, i < n → f i < 256) : Mt w s n d f := own_mt4 h hf
/-- What Inverse answers. -/
def InvP (w w' : World) (e : Ending) (r n : Nat) (F : Nat → Nat) : Prop := ∃ s d O, e = .returned (.tuple #[mv r r s n d, .int .i64 0]) ∧ Mt w' s n d O ∧ (∀ i j, i < r → j < r → pr (m2 F r r) (m2 O r r) r i j = dl i j) ∧ Below w.heap.size w w'
end Go.Proofs.YtnfbbddoaeofgaaGreat
