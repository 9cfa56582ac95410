/-
  Stage 21: numbersAnew, renumbered.
  Stage 21: what Trim's loops keep.
  Stage 21: Trim, of the program (made by gen34f.py).
-/
import Derived.Test.YtkfnedpnkeacpaaQmmde00
import Derived.Test.YtkfnedpnkeacpaaQmmde22
import Derived.Test.YtkfnedpnkeacpaaQmmde27
set_option maxRecDepth 100000
set_option maxHeartbeats 16000000
namespace Go.Proofs.Ytkfnedpnkeacpaa
open Go.RowKit
/-- A list in a new block is answered. -/
def GaA (w0 w : World) (T : TypeId) (N : Nat) (v : Nat → Value) (e : Ending) : Prop := ∃ g : Nat, e = .returned (.slice (some ⟨g, 0, none⟩) N N) ∧ w0.heap.size ≤ g ∧ Ga w g T N v
theorem InP.ge {n : Nat} {q : Nat → Int} (h : InP n q) : ∀ i, i < n → (i : Int) ≤ q i := by
 intro i
 induction i with
 | zero => intro hi; exact (h 0 hi).1
 | succ i ih =>
  intro hi
  have h1 := ih (by omega)
  have h2 := (h (i + 1) hi).2.2 (by omega)
  rw [Nat.add_sub_cancel] at h2
  omega
theorem InP.le {n : Nat} {q : Nat → Int} (h : InP n q) : n ≤ 64 := by
 by_cases h0 : n = 0
 ·omega
 ·have h1 := h.ge (n - 1) (by omega)
  have h2 := (h (n - 1) (by omega)).2.1
  omega
open Go.RowKit
theorem qaa {w : World} {B V : Nat} {e : TypeId} {s n : Nat} {v : Value} {xs : List Value} (h : w.ownsRow B e s v n xs) (hV : V < B) : v.ownBlock = none ∨ v.ownBlock ≠ some V := by
 cases hv : v.ownBlock with
 | none => exact .inl rfl
 | some g => exact .inr fun e2 => by cases e2; have := qa6 h V hv; omega
theorem qae {w : World} {B V : Nat} {e : TypeId} {s n : Nat} {v : Value} {xs : List Value} (h : w.ownsRow B e s v n xs) (hV : V < B) : v.ownBlock ≠ some V := fun e2 => by have := qa6 h V e2; omega
theorem Nw.store {w : World} {B V i : Nat} {v x : Value} {N : List (List Trm)} (h : Nw w B v N) (hV : V < B) : Nw (w.setCell ⟨V, i, none⟩ x) B v N := by
 obtain ⟨ws, q1, q2⟩ := h
 have gs := qa1 w V i x
 refine ⟨ws, World.ownsRow.kept q1 gs (qaa q1 hV), fun j L hj => ?_⟩
 obtain ⟨x, hx, ht⟩ := q2 j L hj
 exact ⟨x, hx, ht.kept gs (qaa ht hV)⟩
end Go.Proofs.Ytkfnedpnkeacpaa
