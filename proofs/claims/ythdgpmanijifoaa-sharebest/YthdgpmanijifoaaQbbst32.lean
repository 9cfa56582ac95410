/-
  Stage 21: lists of numbers, of terms, of nodes that are the same; Same, of the program.
  Stage 21: Same of both sides.
-/
import Derived.Test.YthdgpmanijifoaaQbbst00
import Derived.Test.YthdgpmanijifoaaQbbst19
import Derived.Test.YthdgpmanijifoaaQbbst25
set_option maxRecDepth 100000
set_option maxHeartbeats 16000000
namespace Go.Proofs.Ythdgpmanijifoaa
open Go.RowKit
def EqI (n m : Nat) (q q' : Nat → Int) : Prop := n = m ∧ ∀ i, i < n → q i = q' i
def EqT (n m : Nat) (f f' : Nat → Int) (g g' : Nat → Nat) : Prop := n = m ∧ ∀ i, i < n → f i = f' i ∧ g i = g' i
def EqN (n m : Nat) (t t' : Nat → Nat) (f f' : Nat → Nat → Int) (g g' : Nat → Nat → Nat) : Prop := n = m ∧ ∀ i, i < n → EqT (t i) (t' i) (f i) (f' i) (g i) (g' i)
structure EqF (F G : Fl) : Prop where
 inp : EqI F.ni G.ni F.inp G.inp
 nodes : EqN F.nn G.nn F.nt G.nt F.of G.of F.fc G.fc
 outs : EqI F.no G.no F.out G.out
open Go.RowKit
theorem Vf.new1 (w : World) (o : Obj) (T : TypeId) (xs : Array Value) : Vf ((w.alloc o).alloc (.cells xs T)) (w.heap.size + 1) T xs := by
 have := Vf.new (w.alloc o) T xs
 rwa [show (w.alloc o).heap.size = w.heap.size + 1 by simp] at this
end Go.Proofs.Ythdgpmanijifoaa
