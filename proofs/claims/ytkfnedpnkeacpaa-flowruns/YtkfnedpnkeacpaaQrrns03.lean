/-
  Contract of the table of exponents.
  Contracts of inBounds, powerWithin, Pow, Exp, Log, Inv, Div.
  Contracts of Pow, Exp, Log, Inv, Div.
-/
import Derived.Test.YtkfnedpnkeacpaaQrrns00
import Derived.Test.YtkfnedpnkeacpaaQrrns02
import Derived.Deep.QuietTactic
import Derived.BigQuiet
set_option maxRecDepth 100000
set_option maxHeartbeats 16000000
namespace Go.Proofs.Ytkfnedpnkeacpaa
open Go.RowKit
theorem new_at (w : World) (o : Obj) : (w.alloc o).heap[w.heap.size]? = some o := Go.heap_alloc_new w o
theorem facts (t : TypeId) (n : Nat) (f : Nat → Nat) (cs zs : Array Value) (hs : (Try.prog.info? t).map (·.size) = some n) (HC : Hid (cs = row n f)) (HZ : Hid (zs = row n fun _ => 0)) :
  (Try.prog.info? t).map (·.size) = some cs.size ∧ zs.size = cs.size ∧ cs.all (·.oneCell') = true := by
 rw [HC.out, HZ.out]; exact ⟨by rw [qa2]; exact hs, by rw [qa2, qa2], row_one _ _⟩
end Go.Proofs.Ytkfnedpnkeacpaa
