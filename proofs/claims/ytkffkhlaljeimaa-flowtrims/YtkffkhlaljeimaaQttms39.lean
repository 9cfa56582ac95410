/-
  Stage 21: Same of both sides.
-/
import Derived.Test.YtkffkhlaljeimaaQttms00
import Derived.Test.YtkffkhlaljeimaaQttms31
import Derived.Test.YtkffkhlaljeimaaQttms38
set_option maxRecDepth 100000
set_option maxHeartbeats 16000000
namespace Go.Proofs.Ytkffkhlaljeimaa
open Go.RowKit
theorem Vf.new1 (w : World) (o : Obj) (T : TypeId) (xs : Array Value) : Vf ((w.alloc o).alloc (.cells xs T)) (w.heap.size + 1) T xs := by
 have := Vf.new (w.alloc o) T xs
 rwa [show (w.alloc o).heap.size = w.heap.size + 1 by simp] at this
end Go.Proofs.Ytkffkhlaljeimaa
