/-
  Contract of the matrices' reference: Transpose.
-/
import Derived.Test.YtkffkhlaljeimaaQmmys00
import Derived.Test.YtkffkhlaljeimaaQmmys23
import Derived.Test.YtkffkhlaljeimaaQmmys24
import Derived.Deep.AppendLies
set_option maxRecDepth 100000
set_option maxHeartbeats 16000000
namespace Go.Proofs.Ytkffkhlaljeimaa
open Go.RowKit
theorem Vr.grown {w w' : World} {b : Nat} {x y z : Value} {row : Option Nat} (h : Vr w b x y z) (hg : w.grownBy w' row) (hne : row ≠ some b) : Vr w' b x y z := by unfold Vr; rw [hg.block b h.lt (fun e => hne e.symm)]; exact h
end Go.Proofs.Ytkffkhlaljeimaa
