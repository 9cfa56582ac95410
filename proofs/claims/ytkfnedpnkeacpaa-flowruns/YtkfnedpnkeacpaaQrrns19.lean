/-
  Contracts of the matrices' reference: Of.
-/
import Derived.Test.YtkfnedpnkeacpaaQrrns00
import Derived.Test.YtkfnedpnkeacpaaQrrns18
set_option maxRecDepth 100000
set_option maxHeartbeats 16000000
namespace Go.Proofs.Ytkfnedpnkeacpaa
open Go.RowKit
/-- A slice of lists: the i-th lies at A i, has the length L i and the room C i, and reads as f i 0, f i 1, .. -/
structure Rl (w : World) (b : Option Addr) (m : Nat) (A : Nat → Option Addr) (L C : Nat → Nat) (f : Nat → Nat → Nat) : Prop where
 at' : ∀ i, i < m → ∃ x o, b = some ⟨x, o, none⟩ ∧ w.cell? ⟨x, o + i, none⟩ = some (.slice (A i) (L i) (C i))
 sl : ∀ i, i < m → Sl w (A i) (L i) (f i)
 nil : ∀ i, i < m → A i = none → L i = 0 ∧ C i = 0
theorem Rl.later {w w' : World} {b : Option Addr} {m : Nat} {A : Nat → Option Addr} {L C : Nat → Nat} {f : Nat → Nat → Nat} (h : Rl w b m A L C f) (hb : Below w.heap.size w w') : Rl w' b m A L C f :=
 ⟨fun i hi => by
  obtain ⟨x, o, e, hc⟩ := h.at' i hi
  exact ⟨x, o, e, by rw [hb.cell (p := ⟨x, o + i, none⟩) (qa3 hc)]; exact hc⟩, fun i hi => (h.sl i hi).later hb, h.nil⟩
/-- The rows' entries, one behind the other. -/
def off (f : Nat → Nat → Nat) (c p : Nat) : Nat := f (p / c) (p % c)
end Go.Proofs.Ytkfnedpnkeacpaa
