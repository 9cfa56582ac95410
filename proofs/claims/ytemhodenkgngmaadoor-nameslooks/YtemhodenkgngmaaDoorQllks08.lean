/-
  Contracts of the tree's reference: exprs, MayExpr, Deep.
-/
import Derived.Test.YtemhodenkgngmaaDoorQllks00
import Derived.Test.YtemhodenkgngmaaDoorQllks07
import Derived.Lib.MinMax
set_option maxRecDepth 100000
set_option maxHeartbeats 16000000
namespace Go.Proofs.YtemhodenkgngmaaDoor
open Go.RowKit
/-- May an expression be? -/
def mayX (T : Xt) : Bool := decide (0 ≤ xleft 16 T 8192)
theorem mayX_mx {T : Xt} (h : mayX T = true) : MX 16 T := ⟨8192, by omega, of_decide_eq_true h⟩
theorem MX.len {d : Nat} {T : Xt} (h : MX (d + 1) T) : (T []).len ≤ 2 := by
 obtain ⟨left, _, h⟩ := h
 obtain ⟨m, hw, _⟩ := qaa h
 have := qar hw
 omega
theorem MX.no {T : Xt} (h : MX 0 T) : False := by
 obtain ⟨left, _, h⟩ := h
 rw [qad] at h
 omega
end Go.Proofs.YtemhodenkgngmaaDoor
