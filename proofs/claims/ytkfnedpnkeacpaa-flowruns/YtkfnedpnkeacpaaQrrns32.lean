/-
  Stage 21: numbersAnew, renumbered.
-/
import Derived.Test.YtkfnedpnkeacpaaQrrns00
import Derived.Test.YtkfnedpnkeacpaaQrrns29
import Derived.Test.YtkfnedpnkeacpaaQrrns31
set_option maxRecDepth 100000
set_option maxHeartbeats 16000000
namespace Go.Proofs.Ytkfnedpnkeacpaa
open Go.RowKit
/-- A list in a new block is answered. -/
def GaA (w0 w : World) (T : TypeId) (N : Nat) (v : Nat → Value) (e : Ending) : Prop := ∃ g : Nat, e = .returned (.slice (some ⟨g, 0, none⟩) N N) ∧ w0.heap.size ≤ g ∧ Ga w g T N v
theorem InP.ge {n : Nat} {q : Nat → Int} (h : InP n q) : ∀ i, i < n → (i : Int) ≤ q i := by
 intro i
 induction i with
 | zero => intro hi; exact (h 0 hi).1
 | succ i ih =>
  intro hi
  have h1 := ih (by omega)
  have h2 := (h (i + 1) hi).2.2 (by omega)
  rw [Nat.add_sub_cancel] at h2
  omega
theorem InP.le {n : Nat} {q : Nat → Int} (h : InP n q) : n ≤ 64 := by
 by_cases h0 : n = 0
 ·omega
 ·have h1 := h.ge (n - 1) (by omega)
  have h2 := (h (n - 1) (by omega)).2.1
  omega
end Go.Proofs.Ytkfnedpnkeacpaa
