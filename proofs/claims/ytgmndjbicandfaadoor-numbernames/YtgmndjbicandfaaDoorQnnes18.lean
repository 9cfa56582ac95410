/-
  Contracts of the program's tree: a line of tokens (line, put, text).
-/
import Derived.Test.YtgmndjbicandfaaDoorQnnes00
import Derived.Test.YtgmndjbicandfaaDoorQnnes08
import Derived.Test.YtgmndjbicandfaaDoorQnnes06
set_option maxRecDepth 100000
set_option maxHeartbeats 16000000
namespace Go.Proofs.YtgmndjbicandfaaDoor
open Go.RowKit
theorem Vn.kept {w w' : World} {b : Nat} {T : TypeId} {xs : Array Value} {row : Option Nat} (h : Vn w b T xs) (hg : w.grownBy w' row) (hne : some b ≠ row) : Vn w' b T xs := by
 have := h.lt
 unfold Vn at *
 rw [hg.block b this hne]
 exact h
end Go.Proofs.YtgmndjbicandfaaDoor
