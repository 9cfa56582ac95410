/-
  Stage 21: what comes out of a flow is its matrix, applied; the reference's Apply.
  Stage 21: Trim of a flow that may not be.
  Stage 21: what trimming leaves, as one; what comes out of it.
  Stage 21: the law of Less.
  Stage 21: the law of Applies.
-/
import Derived.Test.YtkfnedpnkeacpaaQmmde00
import Derived.Test.YtkfnedpnkeacpaaQmmde45
import Derived.Test.YtkfnedpnkeacpaaQmmde28
import Derived.Test.YtkfnedpnkeacpaaQmmde32
import Derived.Test.YtkfnedpnkeacpaaQmmde41
import Derived.Test.YtkfnedpnkeacpaaQmmde29
import Derived.Test.YtkfnedpnkeacpaaQmmde31
set_option maxRecDepth 100000
set_option maxHeartbeats 16000000
namespace Go.Proofs.Ytkfnedpnkeacpaa
open Go.RowKit
theorem Rl.congr {w : World} {b : Option Addr} {m : Nat} {A : Nat → Option Addr} {L C : Nat → Nat} {f f' : Nat → Nat → Nat} (h : Rl w b m A L C f) (e : ∀ i, i < m → f i = f' i) : Rl w b m A L C f' :=
 ⟨h.at', fun i hi => by rw [← e i hi]; exact h.sl i hi, h.nil⟩
open Go.RowKit
theorem Rl.congr2 {w : World} {b : Option Addr} {m : Nat} {A : Nat → Option Addr} {L C : Nat → Nat} {f f' : Nat → Nat → Nat} (h : Rl w b m A L C f) (e : ∀ i j, i < m → j < L i → f i j = f' i j) : Rl w b m A L C f' :=
 ⟨h.at', fun i hi => (h.sl i hi).congr fun j hj => e i j hi hj, h.nil⟩
end Go.Proofs.Ytkfnedpnkeacpaa
