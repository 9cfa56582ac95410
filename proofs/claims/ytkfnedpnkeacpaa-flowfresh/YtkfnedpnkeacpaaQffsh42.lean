/-
  Stage 21: the reference's Matrix, the good way.
-/
import Derived.Test.YtkfnedpnkeacpaaQffsh00
import Derived.Test.YtkfnedpnkeacpaaQffsh39
set_option maxRecDepth 100000
set_option maxHeartbeats 16000000
namespace Go.Proofs.Ytkfnedpnkeacpaa
open Go.RowKit
theorem qek {w : World} {g : Nat} {t : TypeId} {n : Nat} {f : Nat → Nat} (h : RowAt w g t n f) (i : Nat) : w.frozen? ⟨g, i, none⟩ = false := by
 unfold RowAt at h
 simp [World.frozen?, h]
theorem Bo.lt21 {w : World} {B : Nat} {a : Option Addr} {n d L : Nat} {x : Nat → Nat → Nat} (h : Bo w B (.slice a n d) n L x) : ∀ gv, a = some ⟨gv, 0, none⟩ → gv < w.heap.size := fun gv e => by
 obtain ⟨vs, h1, _⟩ := h
 rcases h1.2 with ⟨e1, _⟩ | ⟨g9, cap, cur, e1, _, hg, _⟩
 ·rw [e] at e1; cases e1
 ·rw [e] at e1
  cases e1
  exact lt_of_block hg
end Go.Proofs.Ytkfnedpnkeacpaa
