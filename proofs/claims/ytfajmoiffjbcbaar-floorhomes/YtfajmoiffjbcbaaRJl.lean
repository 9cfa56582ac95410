/-
  Contracts of List and the reference's; two lists alike.
-/
import Derived.Test.YtfajmoiffjbcbaaRJk
namespace Go.Proofs.YtfajmoiffjbcbaaR
open Go.RowKit
/-- A number is put behind a list of the call's own. -/
theorem Jo.push {w w2 : World} {B n : Nat} {T : TypeId} {K : IntKind} {v v' : Value} {f : Nat → Nat} {x : Nat} {o : Obj} (h : Jo w B T K v n f) (hB : B ≤ w.heap.size)
    (hown : w2.ownsRow B T 1 v' (n + 1) ((jrow K n f).toList ++ [.int K (x : Int)])) (hg : (w.alloc o).grownBy w2 v.ownBlock) : Jo w2 B T K v' (n + 1) (fun i => if i = n then x else f i) ∧ Below B w w2 := by
  refine ⟨?_, ?_⟩
  · unfold Jo
    rw [← jrow_push]
    exact hown
  · have h1 : Below B w (w.alloc o) := (jlow w o).mono hB
    exact h1.trans (jbelow hg (by have := (jlow w o).size; omega) (fun g hg' => (h.base hg').1))
end Go.Proofs.YtfajmoiffjbcbaaR
