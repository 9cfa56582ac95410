/-
  Stage 21: May of the reference.
-/
import Derived.Test.YtkfnedpnkeacpaaQaaes00
import Derived.Test.YtkfnedpnkeacpaaQaaes24
set_option maxRecDepth 100000
set_option maxHeartbeats 16000000
namespace Go.Proofs.Ytkfnedpnkeacpaa
open Go.RowKit
theorem Vf.drewN {w : World} {b : Nat} {T : TypeId} {xs : Array Value} (h : Vf w b T xs) (k : Nat) : Vf (w.drewN k) b T xs := h.later (below_drewN (Below.refl _ _) _)
theorem InP.stepr {q : Nat → Int} {i : Nat} (h : InP i q) (h0 : ¬ q i < 0) (h1 : 0 < i → ¬ q i ≤ q (i - 1)) (h2 : ¬ 64 ≤ q i) : InP (i + 1) q := fun j hj => by
 by_cases e : j = i
 ·subst e
  exact ⟨by omega, by omega, fun h => by have := h1 h; omega⟩
 ·exact h j (by omega)
theorem TmP.stepr {m : Int} {f : Nat → Int} {g : Nat → Nat} {i : Nat} (h : TmP m i f g) (h0 : ¬ f i < 0) (h1 : 0 < i → ¬ f i ≤ f (i - 1)) (h2 : ¬ m ≤ f i) (h3 : g i ≠ 0) : TmP m (i + 1) f g := fun j hj => by
 by_cases e : j = i
 ·subst e
  exact ⟨h3, by omega, by omega, fun h => by have := h1 h; omega⟩
 ·exact h j (by omega)
end Go.Proofs.Ytkfnedpnkeacpaa
