/-
  Stage 21: Of, of the program.
  Stage 21: Of, of the program, of a right matrix (made by gen33d.py).
-/
import Derived.Test.YthdgpmanijifoaaQbbst00
import Derived.Test.YthdgpmanijifoaaQbbst31
import Derived.Test.YthdgpmanijifoaaQbbst32
import Derived.Deep.RegionHeld
set_option maxRecDepth 100000
set_option maxHeartbeats 16000000
namespace Go.Proofs.Ythdgpmanijifoaa
open Go.RowKit
theorem Ndl.congr {w : World} {b : Option Addr} {m : Nat} {nt nt' : Nat → Nat} {f f' : Nat → Nat → Int} {g g' : Nat → Nat → Nat} (h : Ndl w b m nt f g) (e1 : ∀ i, i < m → nt i = nt' i) (e2 : ∀ i, i < m → f i = f' i) (e3 : ∀ i, i < m → g i = g' i) : Ndl w b m nt' f' g' := fun i hi => by
 obtain ⟨h1, x, o, t, d, e, c, ht⟩ := h i hi
 rw [e1 i hi] at h1 c ht
 rw [e2 i hi, e3 i hi] at ht
 exact ⟨h1, x, o, t, d, e, c, ht⟩
end Go.Proofs.Ythdgpmanijifoaa
