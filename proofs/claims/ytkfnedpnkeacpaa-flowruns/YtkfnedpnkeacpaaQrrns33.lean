/-
  Stage 21: what Trim's loops keep.
  Stage 21: Trim, of the program (made by gen34f.py).
-/
import Derived.Test.YtkfnedpnkeacpaaQrrns00
import Derived.Test.YtkfnedpnkeacpaaQrrns32
set_option maxRecDepth 100000
set_option maxHeartbeats 16000000
namespace Go.Proofs.Ytkfnedpnkeacpaa
open Go.RowKit
theorem own_ne21 {w : World} {B V : Nat} {e : TypeId} {s n : Nat} {v : Value} {xs : List Value} (h : w.ownsRow B e s v n xs) (hV : V < B) : v.ownBlock = none ∨ v.ownBlock ≠ some V := by
 cases hv : v.ownBlock with
 | none => exact .inl rfl
 | some g => exact .inr fun e2 => by cases e2; have := qa9 h V hv; omega
theorem own_ne22 {w : World} {B V : Nat} {e : TypeId} {s n : Nat} {v : Value} {xs : List Value} (h : w.ownsRow B e s v n xs) (hV : V < B) : v.ownBlock ≠ some V := fun e2 => by have := qa9 h V e2; omega
end Go.Proofs.Ytkfnedpnkeacpaa
