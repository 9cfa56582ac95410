/-
  Lists of numbers in memory, of any kind of number; what stays.
-/
import Derived.Test.YthdgpmanijifoaaQbbst00
import Derived.Test.YthdgpmanijifoaaQbbst10
import Derived.Test.YthdgpmanijifoaaRows
import Derived.WalkKit
import Derived.WalkSpells
import Derived.WalkLawsBesides
import Derived.ProofKit
import Derived.OwnWalk
import Derived.Deep.QuietTactic
import Derived.BigQuiet
import Derived.RegionTactic
import Derived.Lib.MinMax
set_option maxRecDepth 100000
set_option maxHeartbeats 16000000
namespace Go.Proofs.Ythdgpmanijifoaa
open Go.RowKit
theorem jcell_lt {w : World} {b o : Nat} {v : Value} (h : w.cell? ⟨b, o, none⟩ = some v) : b < w.heap.size := by
 by_cases hb : b < w.heap.size
 ·exact hb
 ·simp [World.cell?, hb] at h
theorem jtwo {w w1 w2 : World} (h1 : Below w.heap.size w w1) (h2 : Below w1.heap.size w1 w2) : Below w.heap.size w w2 := h1.trans (h2.mono h1.size)
theorem jlow (w : World) (o : Obj) : Below w.heap.size w (w.alloc o) := (Below.refl _ _).alloc (Nat.le_refl _) _
/-- A slice reads as q 0, q 1, .. -/
def Jl (w : World) (b : Option Addr) (K : IntKind) (m : Nat) (q : Nat → Int) : Prop := ∀ i, i < m → ∃ x o, b = some ⟨x, o, none⟩ ∧ w.cell? ⟨x, o + i, none⟩ = some (.int K (q i))
theorem Jl.later {w w' : World} {b : Option Addr} {K : IntKind} {m : Nat} {q : Nat → Int} (h : Jl w b K m q) (hb : Below w.heap.size w w') : Jl w' b K m q := fun i hi => by
 obtain ⟨x, o, e, hc⟩ := h i hi
 exact ⟨x, o, e, by rw [hb.cell (p := ⟨x, o + i, none⟩) (jcell_lt hc)]; exact hc⟩
end Go.Proofs.Ythdgpmanijifoaa
