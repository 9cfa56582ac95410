/-
  Stage 21: Of, of the program.
  Stage 21: Of, of the program, of a right matrix (made by gen33d.py).
-/
import Derived.Test.YtkfnedpnkeacpaaQrrns00
import Derived.Test.YtkfnedpnkeacpaaQrrns25
import Derived.Test.YtkfnedpnkeacpaaQrrns30
import Derived.Deep.RegionHeld
set_option maxRecDepth 100000
set_option maxHeartbeats 16000000
namespace Go.Proofs.Ytkfnedpnkeacpaa
open Go.RowKit
theorem Ndl.congr {w : World} {b : Option Addr} {m : Nat} {nt nt' : Nat → Nat} {f f' : Nat → Nat → Int} {g g' : Nat → Nat → Nat} (h : Ndl w b m nt f g) (e1 : ∀ i, i < m → nt i = nt' i) (e2 : ∀ i, i < m → f i = f' i) (e3 : ∀ i, i < m → g i = g' i) : Ndl w b m nt' f' g' := fun i hi => by
 obtain ⟨h1, x, o, t, d, e, c, ht⟩ := h i hi
 rw [e1 i hi] at h1 c ht
 rw [e2 i hi, e3 i hi] at ht
 exact ⟨h1, x, o, t, d, e, c, ht⟩
open Go.RowKit
theorem qar {w : World} {B : Nat} {e : TypeId} {s : Nat} {v : Value} {n : Nat} {xs : List Value} (h : w.ownsRow B e s v n xs) : ∃ a d, v = .slice a n d := by
 rcases h.2 with ⟨e1, h0⟩ | ⟨g, cap, cur, e1, _⟩
 ·exact ⟨none, 0, by rw [e1, h0]⟩
 ·exact ⟨_, _, e1⟩
end Go.Proofs.Ytkfnedpnkeacpaa
