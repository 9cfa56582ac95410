/-
  Contracts of the tree's reference: exprs, MayExpr, Deep.
-/
import Derived.Test.YtemhodenkgngmaaDoorQkkwn00
import Derived.Test.YtemhodenkgngmaaDoorQkkwn05
import Derived.Lib.MinMax
set_option maxRecDepth 100000
set_option maxHeartbeats 16000000
namespace Go.Proofs.YtemhodenkgngmaaDoor
open Go.RowKit
/-- May an expression be? -/
def mayX (T : Xt) : Bool := decide (0 ≤ xleft 16 T 8192)
theorem qen {T : Xt} (h : mayX T = true) : MX 16 T := ⟨8192, by omega, of_decide_eq_true h⟩
theorem MX.len {d : Nat} {T : Xt} (h : MX (d + 1) T) : (T []).len ≤ 2 := by
 obtain ⟨left, _, h⟩ := h
 obtain ⟨m, hw, _⟩ := qa6 h
 have := qam hw
 omega
theorem MX.no {T : Xt} (h : MX 0 T) : False := by
 obtain ⟨left, _, h⟩ := h
 rw [qae] at h
 omega
end Go.Proofs.YtemhodenkgngmaaDoor
